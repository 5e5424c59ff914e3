/- The document's reader: an item (an atom, its repeat). -/
import Derived.Test.YtniilphbbcbpcaaDrj
namespace Go.Proofs.Ytniilphbbcbpcaa
open Go.RowKit ReM

def itemD (p : List Int) (k i g d : Nat) : Rg :=
  if nx p i = 94 then .ok [nStart] (p.drop (i + 1)) g else if nx p i = 36 then .ok [nEnd] (p.drop (i + 1)) g else thenR p.length (atomI p k i g d)
theorem item_ixD (p : List Int) (k i g d : Nat) (hi : i < p.length) (hk : p.length ≤ k + i + 1) : itemP CC p.length (k + 2) (p.drop i) g d = itemD p k i g d := by
  unfold itemD
  by_cases h94 : nx p i = 94
  · rw [if_pos h94, drop_nx hi, item_def, if_pos h94]
  by_cases h36 : nx p i = 36
  · rw [if_neg h94, if_pos h36, drop_nx hi, item_def, if_neg h94, if_pos h36]
  rw [if_neg h94, if_neg h36]
  exact item_ix p k i g d hi hk h94 h36
theorem grpI_head {p : List Int} {k : Nat} {no : Int} {i g d : Nat} {l : List Rn} {s : List Int} {g' : Nat} (h : grpI p k no i g d = .ok l s g') : ∃ t, l = nGroup no :: t := by
  unfold grpI at h
  split at h
  · cases h
  · split at h
    · cases h; exact ⟨_, rfl⟩
    · cases h
theorem clsI_head {p : List Int} {ng : Bool} {i g : Nat} {l : List Rn} {s : List Int} {g' : Nat} (h : clsI p ng i g = .ok l s g') : ∃ m, l = [nSet ng m] := by
  unfold clsI at h
  split at h
  · cases h
  · cases h; exact ⟨_, rfl⟩
theorem atomI_head {p : List Int} {k i g d : Nat} {l : List Rn} {s : List Int} {g' : Nat} (h : atomI p k i g d = .ok l s g') : ∃ x t, l = x :: t ∧ x.kind ≠ 3 ∧ x.kind ≠ 4 := by
  unfold atomI at h
  have G : ∀ {no : Int} {i g : Nat}, grpI p k no i g d = .ok l s g' → ∃ x t, l = x :: t ∧ x.kind ≠ 3 ∧ x.kind ≠ 4 := fun h => by
    obtain ⟨t, rfl⟩ := grpI_head h; exact ⟨_, t, rfl, by show (5 : Int) ≠ 3; decide, by show (5 : Int) ≠ 4; decide⟩
  have S : ∀ {ng : Bool} {i : Nat}, clsI p ng i g = .ok l s g' → ∃ x t, l = x :: t ∧ x.kind ≠ 3 ∧ x.kind ≠ 4 := fun h => by
    obtain ⟨m, rfl⟩ := clsI_head h; exact ⟨_, [], rfl, by show (2 : Int) ≠ 3; decide, by show (2 : Int) ≠ 4; decide⟩
  repeat' split at h
  all_goals first
    | exact G h
    | exact S h
    | cases h
  all_goals exact ⟨_, [], rfl, by show (2 : Int) ≠ 3; decide, by show (2 : Int) ≠ 4; decide⟩
theorem rns_head {L : List Rm} {x : Rn} {t : List Rn} (h : rns L = x :: t) : 0 < L.length ∧ (rgt L 0).kind = x.kind := by
  cases L with
  | nil => cases h
  | cons m M =>
    rw [rns_cons] at h
    injection h with h1 h2
    exact ⟨by simp, by rw [← h1]; rfl⟩
/-- behind the numbers of a repeat -/
def MidD (res : Rg) (A : List Rn) (B : Nat) (w : World) (r : Nat) (a : Option Addr) (c : Nat) (p : List Int) (j g d N : Nat) (wx : World) : Prop :=
  (∃ lo hi jm, res = finI p A g lo hi jm ∧ j < jm ∧ jm ≤ p.length ∧ NdC wx N 6 0 lo hi false false (.slice none 0 0) ∧ Rdr B wx r a c p jm g d 0 0 ∧ KR r w wx) ∨
  (∃ lo hi jm f, res = .bad 5 f ∧ j < p.length ∧ jm ≤ p.length ∧ NdC wx N 6 0 lo hi false false (.slice none 0 0) ∧ Rdr B wx r a c p jm g d 5 f ∧ KR r w wx)
/-- behind the sign of a lazy repeat -/
def MidE (res : Rg) (A : List Rn) (B : Nat) (w : World) (r : Nat) (a : Option Addr) (c : Nat) (p : List Int) (j g d N : Nat) (wx : World) : Prop :=
  ∃ lo hi z jm e f, NdC wx N 6 0 lo hi z false (.slice none 0 0) ∧ Rdr B wx r a c p jm g d e f ∧ KR r w wx ∧ j < p.length ∧ ((e = 0 ∧ f = 0 ∧ res = .ok (nRep lo hi z :: lower A) (p.drop jm) g ∧ j < jm ∧ jm ≤ p.length) ∨ (e = 5 ∧ res = .bad 5 f ∧ jm ≤ p.length + 1))
theorem thenR_ok (p : List Int) (l : List Rn) (j g : Nat) : thenR p.length (.ok l (p.drop j) g) = repsI p l g j := by
  unfold thenR; dsimp only; rw [reps_ix]
set_option maxRecDepth 20000 in
set_option maxHeartbeats 16000000 in
theorem ditem_c (B : Nat) (w : World) (r : Nat) (a : Option Addr) (c : Nat) (p : List Int) (k i g d : Nat) (h : Rdr B w r a c p i g d 0 0) (hi : i < p.length) (hT : Txt1 p) (hd : d ≤ 12) (hg : g ≤ 9) (hk : 4 * (p.length - i) ≤ k + 2)
    (IH : PatD B r a c p k) :
    Calls Try.prog 65 #[.pointer (some ⟨r, 0, none⟩)] w (OutD (itemD p k i g d) B w r a c p i d 2 2) := by
  have hl := hT.1
  have hB := h.Bw
  have hrw : r < w.heap.size := h.lt
  obtain ⟨X, hX⟩ : ∃ X, X = itemD p k i g d := ⟨_, rfl⟩
  rw [← hX]
  have HX := hid hX
  have HA := hid (datom_c B w r a c p k i g d h hi hT hd hg hk IH)
  clear h hX IH
  go_enter Try.func65, Try.ntmps65
  go_wp2_with fail
  refine HA.out.mono ?_
  rintro e1 w1 hx
  clear HA
  cases hA : atomD p k i g d with
  | bad e f =>
    rw [hA] at hx
    have HXb : Hid (X = .bad e f) := by
      rw [Hid, HX.out]; unfold itemD; unfold atomD at hA
      split at hA
      · cases hA
      · rename_i h94
        split at hA
        · cases hA
        · rename_i h36
          rw [if_neg h94, if_neg h36, hA]; rfl
    obtain ⟨a2, c2, L, j, y, rfl, ho, hs, he, hj, h1, k1⟩ := hx
    have be : (e == 0) = false := by simpa using he
    have HO := hid ho
    have HS := hid hs
    have HE := hid he
    have K1 := hid k1
    clear ho hs he k1 hA
    go_wp2_with fail
    refine (dok_c B _ r a c p j y d e f h1).mono ?_
    rintro _ w2 ⟨rfl, h2, k2⟩
    rw [be]
    have H2 := hid h2
    have K2 := hid k2
    clear h1 h2 k2
    go_wp2_with fail
    go_ret
    rw [HXb.out]
    exact ⟨a2, c2, L, j, y, rfl, HO.out.kr K2.out (by omega), HS.out.mono (by omega) (by omega), HE.out, hj, H2.out, K1.out.tr K2.out⟩
  | ok l s g1 =>
    rw [hA] at hx
    obtain ⟨a2, c2, L, j, rfl, hr2, ho, t2, hj0, hj1, hs, rfl, hg1, h1, k1⟩ := hx
    obtain ⟨kd, hkd⟩ : ∃ kd, kd = (rgt L 0).kind := ⟨_, rfl⟩
    have hcase : ((kd = 3 ∨ kd = 4) ∧ 0 < L.length ∧ X = .ok (rns L) (p.drop j) g1) ∨ (kd ≠ 3 ∧ kd ≠ 4 ∧ 0 < L.length ∧ X = repsI p (rns L) g1 j) := by
      have hx := HX.out
      unfold itemD at hx
      unfold atomD at hA
      split at hA
      · rename_i h94
        rw [if_pos h94] at hx
        have hq := hr2
        injection hA with e1 e2 e3
        rw [← e1] at hq
        obtain ⟨q1, q2⟩ := rns_head hq
        exact .inl ⟨.inl (hkd.trans q2), q1, by rw [hx, e2, e3, hr2, e1]⟩
      · rename_i h94
        rw [if_neg h94] at hx
        split at hA
        · rename_i h36
          rw [if_pos h36] at hx
          have hq := hr2
          injection hA with e1 e2 e3
          rw [← e1] at hq
          obtain ⟨q1, q2⟩ := rns_head hq
          exact .inl ⟨.inr (hkd.trans q2), q1, by rw [hx, e2, e3, hr2, e1]⟩
        · rename_i h36
          rw [if_neg h36, hA, thenR_ok] at hx
          obtain ⟨x, t, hl2, q3, q4⟩ := atomI_head hA
          rw [hl2] at hr2
          obtain ⟨q1, q2⟩ := rns_head hr2
          rw [hl2, ← hr2] at hx
          exact .inr ⟨by rw [hkd, q2]; exact q3, by rw [hkd, q2]; exact q4, q1, hx⟩
    have HO := hid ho
    have HS := hid hs
    have HT := hid t2
    have K1 := hid k1
    have hln := hs.len
    clear ho hs t2 k1 hA hr2 HX
    go_wp2_with fail
    refine (dok_c B _ r a c p j g1 d 0 0 h1).mono ?_
    rintro _ w2 ⟨rfl, h2, k2⟩
    have H2 := hid h2
    have K2 := hid (K1.out.tr k2)
    have O2 := hid (HO.out.kr k2 (by omega))
    have T2 := hid (HT.out.kr k2 (by omega))
    clear h1 h2 k2 K1 HO HT
    rcases hcase with ⟨hk34, hL0, hXe⟩ | ⟨hk3, hk4, hL0, hXe⟩
    · obtain ⟨b, o, rfl, r1⟩ := (O2.out.sl).rc1 hL0
      have x0 := (rec_re r1).1
      rw [← hkd] at x0
      simp only [Nat.zero_mul, Nat.add_zero] at x0
      have HXe := hid hXe
      have zL : (0 : Int) < (L.length : Int) := by omega
      clear r1 hkd hXe
      rcases hk34 with rfl | rfl
      all_goals
        go_wp2_with fail
        go_ret
        rw [HXe.out]
        exact ⟨_, c2, L, j, rfl, rfl, O2.out, T2.out, by omega, by omega, HS.out.mono (by omega) (by omega), rfl, hg1, H2.out, K2.out⟩
    · obtain ⟨b, o, hab, r1⟩ := (O2.out.sl).rc1 hL0
      have x0 := (rec_re r1).1
      rw [← hkd] at x0
      simp only [Nat.zero_mul, Nat.add_zero] at x0
      have HXe := hid hXe
      have Hab := hid hab
      have zL : (0 : Int) < (L.length : Int) := by omega
      have b3 : (kd == 3) = false := by simpa using hk3
      have b4 : (kd == 4) = false := by simpa using hk4
      clear r1 hkd hXe hk3 hk4
      rw [hab]
      clear hab
      go_upto_region 4 with fail
      clear x0 b3 b4 zL
      rw [← Hab.out]
      obtain ⟨V, hV⟩ : ∃ V, V = w2.alloc (.cells #[.int .i64 6, .int .i64 0, .int .i64 0, .int .i64 0, .bool false, .bool false, .slice none 0 0] 50) := ⟨_, rfl⟩
      have nn : NdC V w2.heap.size 6 0 0 0 false false (.slice none 0 0) := by subst hV; exact NdC.new _ _ _ _ _ _ _ _ _ _ rfl
      have HV : Hid (Rdr B V r a c p j g1 d 0 0) := by subst hV; exact H2.out.alloc _
      have KV : Hid (KR r w2 V) := by subst hV; exact (KR.refl _ _).alloc _
      have NN := hid nn
      clear nn
      have hz := KV.out.size
      have z2 := K2.out.size
      go_wp2_with fail
      rw [← hV]
      refine (dnext_c B V r a c p j g1 d 0 0 HV.out).mono ?_
      rintro _ w3 ⟨rfl, h3, k3⟩
      have zV : V.heap.size = w2.heap.size + 1 := by rw [hV]; simp
      have K3 := hid (KV.out.tr k3)
      have nq := NN.out.kpt k3 (by omega)
      have zk := k3.size
      clear hV H2 HV KV NN k3 Hab
      obtain ⟨q2, hq2⟩ : ∃ q2, q2 = nx p j := ⟨_, rfl⟩
      have HQ2 := hid hq2
      have W1 : IntKind.i64.wrap ((j : Int) + 1) = ((j + 1 : Nat) : Int) := by rw [IntKind.wrap_i64]; omega
      rw [← hq2]
      clear hq2
      go_upto_block 0 with fail
      go_cut [] (fun wx => MidD X (rns L) B w2 r a c p j g1 d w2.heap.size wx)
      case first =>
        by_cases h43 : q2 = 43
        · have hjl := nx_is (HQ2.out.symm.trans h43) (by decide)
          have eR := hid (show X = finI p (rns L) g1 1 (-1) (j + 1) by rw [HXe.out]; unfold repsI; rw [← HQ2.out, if_pos h43])
          subst h43
          have HN := hid nq
          (have c0 := h3.c0; have c1 := h3.c1; have c2 := h3.c2; have c3 := h3.c3; have c4 := h3.c4; have c5 := h3.c5; have f1 := h3.fz 1; have f2 := h3.fz 2; have f3 := h3.fz 3; have f4 := h3.fz 4; have f5 := h3.fz 5; have rl := h3.lt; have Hh3 := hid h3; clear h3)
          (have n0 := nq.c0; have n1 := nq.c1; have n2 := nq.c2; have n3 := nq.c3; have n4 := nq.c4; have n5 := nq.c5; have n6 := nq.c6; have nf0 := nq.fz 0; have nf1 := nq.fz 1; have nf2 := nq.fz 2; have nf3 := nq.fz 3; have nf4 := nq.fz 4; have nf5 := nq.fz 5; have nf6 := nq.fz 6; have nz := nq.lt; clear nq)
          go_wp2_with fail
          go_meet
          exact .inl ⟨1, -1, j + 1, eR.out, by omega, by omega, ((HN.out.set2 (1)).set3 (-1)).kpt ((KR.refl r _).set _) (by omega), ((Hh3.out.setOff _ _ (by omega) _).setOff _ _ (by omega) _).set1 (j + 1), ((K3.out.setN _ _ (by omega) _).setN _ _ (by omega) _).set _⟩
        by_cases h42 : q2 = 42
        · have hjl := nx_is (HQ2.out.symm.trans h42) (by decide)
          have eR := hid (show X = finI p (rns L) g1 0 (-1) (j + 1) by rw [HXe.out]; unfold repsI; rw [← HQ2.out, if_neg h43, if_pos h42])
          subst h42
          have HN := hid nq
          (have c0 := h3.c0; have c1 := h3.c1; have c2 := h3.c2; have c3 := h3.c3; have c4 := h3.c4; have c5 := h3.c5; have f1 := h3.fz 1; have f2 := h3.fz 2; have f3 := h3.fz 3; have f4 := h3.fz 4; have f5 := h3.fz 5; have rl := h3.lt; have Hh3 := hid h3; clear h3)
          (have n0 := nq.c0; have n1 := nq.c1; have n2 := nq.c2; have n3 := nq.c3; have n4 := nq.c4; have n5 := nq.c5; have n6 := nq.c6; have nf0 := nq.fz 0; have nf1 := nq.fz 1; have nf2 := nq.fz 2; have nf3 := nq.fz 3; have nf4 := nq.fz 4; have nf5 := nq.fz 5; have nf6 := nq.fz 6; have nz := nq.lt; clear nq)
          go_wp2_with fail
          go_meet
          exact .inl ⟨0, -1, j + 1, eR.out, by omega, by omega, (HN.out.set3 (-1)).kpt ((KR.refl r _).set _) (by omega), (Hh3.out.setOff _ _ (by omega) _).set1 (j + 1), (K3.out.setN _ _ (by omega) _).set _⟩
        by_cases h63 : q2 = 63
        · have hjl := nx_is (HQ2.out.symm.trans h63) (by decide)
          have eR := hid (show X = finI p (rns L) g1 0 (1) (j + 1) by rw [HXe.out]; unfold repsI; rw [← HQ2.out, if_neg h43, if_neg h42, if_pos h63])
          subst h63
          have HN := hid nq
          (have c0 := h3.c0; have c1 := h3.c1; have c2 := h3.c2; have c3 := h3.c3; have c4 := h3.c4; have c5 := h3.c5; have f1 := h3.fz 1; have f2 := h3.fz 2; have f3 := h3.fz 3; have f4 := h3.fz 4; have f5 := h3.fz 5; have rl := h3.lt; have Hh3 := hid h3; clear h3)
          (have n0 := nq.c0; have n1 := nq.c1; have n2 := nq.c2; have n3 := nq.c3; have n4 := nq.c4; have n5 := nq.c5; have n6 := nq.c6; have nf0 := nq.fz 0; have nf1 := nq.fz 1; have nf2 := nq.fz 2; have nf3 := nq.fz 3; have nf4 := nq.fz 4; have nf5 := nq.fz 5; have nf6 := nq.fz 6; have nz := nq.lt; clear nq)
          go_wp2_with fail
          go_meet
          exact .inl ⟨0, 1, j + 1, eR.out, by omega, by omega, (HN.out.set3 (1)).kpt ((KR.refl r _).set _) (by omega), (Hh3.out.setOff _ _ (by omega) _).set1 (j + 1), (K3.out.setN _ _ (by omega) _).set _⟩
        by_cases h123 : q2 = 123
        · have hjl := nx_is (HQ2.out.symm.trans h123) (by decide)
          have eR := hid (show X = (match timesI p j with | .ok lo hi j' => finI p (rns L) g1 lo hi j' | .bad k => .bad 5 k) by rw [HXe.out]; unfold repsI; rw [← HQ2.out, if_neg h43, if_neg h42, if_neg h63, if_pos h123]; cases timesI p j <;> rfl)
          subst h123
          clear h43 h42 h63
          have Tm := hid (dtimes_c B w3 r a c p j g1 d h3 hjl hl)
          go_wp2_with fail
          refine Tm.out.mono ?_
          clear Tm
          rintro e4 w4 hx
          cases hT : timesI p j with
          | ok lo hi j' =>
            have hj' := times_at hT hjl
            rw [hT] at hx
            obtain ⟨rfl, h4, k4⟩ := hx
            have eR2 := hid (show X = finI p (rns L) g1 lo hi j' by rw [eR.out, hT])
            have nr := nq.kpt k4 (by omega)
            have H4 := hid h4
            have K4 := hid (K3.out.tr k4)
            have N4 := hid nr
            clear h4 k4 hT nq h3
            (have n0 := nr.c0; have n1 := nr.c1; have n2 := nr.c2; have n3 := nr.c3; have n4 := nr.c4; have n5 := nr.c5; have n6 := nr.c6; have nf0 := nr.fz 0; have nf1 := nr.fz 1; have nf2 := nr.fz 2; have nf3 := nr.fz 3; have nf4 := nr.fz 4; have nf5 := nr.fz 5; have nf6 := nr.fz 6; have nz := nr.lt; clear nr)
            go_wp2_with fail
            go_meet
            exact .inl ⟨lo, hi, j', eR2.out, by omega, by omega, (N4.out.set2 lo).set3 hi, (H4.out.setOff _ _ (by omega) _).setOff _ _ (by omega) _, (K4.out.setN _ _ (by omega) _).setN _ _ (by omega) _⟩
          | bad k =>
            rw [hT] at hx
            obtain ⟨lo, hi, j', rfl, hj', h4, k4⟩ := hx
            have eR2 := hid (show X = .bad 5 k by rw [eR.out, hT])
            have nr := nq.kpt k4 (by omega)
            have H4 := hid h4
            have K4 := hid (K3.out.tr k4)
            have N4 := hid nr
            clear h4 k4 hT nq h3
            (have n0 := nr.c0; have n1 := nr.c1; have n2 := nr.c2; have n3 := nr.c3; have n4 := nr.c4; have n5 := nr.c5; have n6 := nr.c6; have nf0 := nr.fz 0; have nf1 := nr.fz 1; have nf2 := nr.fz 2; have nf3 := nr.fz 3; have nf4 := nr.fz 4; have nf5 := nr.fz 5; have nf6 := nr.fz 6; have nz := nr.lt; clear nr)
            go_wp2_with fail
            go_meet
            exact .inr ⟨lo, hi, j', k, eR2.out, hjl, hj', (N4.out.set2 lo).set3 hi, (H4.out.setOff _ _ (by omega) _).setOff _ _ (by omega) _, (K4.out.setN _ _ (by omega) _).setN _ _ (by omega) _⟩
        have eR := hid (show X = .ok (rns L) (p.drop j) g1 by rw [HXe.out]; unfold repsI; rw [← HQ2.out, if_neg h43, if_neg h42, if_neg h63, if_neg h123])
        have b1 : (q2 == 43) = false := by simpa using h43
        have b2 : (q2 == 42) = false := by simpa using h42
        have b3 : (q2 == 63) = false := by simpa using h63
        have b4 : (q2 == 123) = false := by simpa using h123
        have H3 := hid h3
        clear h43 h42 h63 h123 h3 nq
        go_wp2_with fail
        go_ret
        rw [eR.out]
        exact ⟨a2, c2, L, j, rfl, rfl, O2.out.kr K3.out (by omega), T2.out.kr K3.out (by omega), hj0, hj1, HS.out.mono (by omega) (by omega), rfl, hg1, H3.out, K2.out.tr K3.out⟩
      case rest =>
        rename World => w4
        obtain ⟨lo, hi, jm, e, f, nq, h4, k4, hjl, hjm, hres⟩ : ∃ lo hi jm e f, NdC w4 w2.heap.size 6 0 lo hi false false (.slice none 0 0) ∧ Rdr B w4 r a c p jm g1 d e f ∧ KR r w2 w4 ∧ j < p.length ∧ jm ≤ p.length ∧ ((e = 0 ∧ f = 0 ∧ X = finI p (rns L) g1 lo hi jm ∧ j < jm) ∨ (e = 5 ∧ X = .bad 5 f)) := by
          rcases hcut with ⟨lo, hi, jm, h1, h2, h3, h4, h5, h6⟩ | ⟨lo, hi, jm, f, h1, h2, h3, h4, h5, h6⟩
          · exact ⟨lo, hi, jm, 0, 0, h4, h5, h6, by omega, h3, .inl ⟨rfl, rfl, h1, h2⟩⟩
          · exact ⟨lo, hi, jm, 5, f, h4, h5, h6, h2, h3, .inr ⟨rfl, h1⟩⟩
        have HRes := hid hres
        have K4 := hid k4
        have W2 : IntKind.i64.wrap ((jm : Int) + 1) = ((jm + 1 : Nat) : Int) := by rw [IntKind.wrap_i64]; omega
        have z4 := k4.size
        clear hcut hres k4
        go_wp2_with fail
        refine (dnext_c B w4 r a c p jm g1 d e f h4).mono ?_
        rintro _ w5 ⟨rfl, h5, k5⟩
        have K5 := hid (K4.out.tr k5)
        have N5 := hid (nq.kpt k5 (by omega))
        clear h4 nq k5 K4
        obtain ⟨q3, hq3⟩ : ∃ q3, q3 = nx p jm := ⟨_, rfl⟩
        have HQ3 := hid hq3
        rw [← hq3]
        clear hq3
        go_upto_if 71 with fail
        go_cut [] (fun wx => MidE X (rns L) B w2 r a c p j g1 d w2.heap.size wx)
        case first =>
          by_cases h63 : q3 = 63
          · have hjl2 := nx_is (HQ3.out.symm.trans h63) (by decide)
            have eR : (e = 0 ∧ f = 0 ∧ X = .ok (nRep lo hi true :: lower (rns L)) (p.drop (jm + 1)) g1 ∧ j < jm + 1 ∧ jm + 1 ≤ p.length) ∨ (e = 5 ∧ X = .bad 5 f ∧ jm + 1 ≤ p.length + 1) := by
              rcases HRes.out with ⟨h1, h2, h3, h4⟩ | ⟨h1, h2⟩
              · refine .inl ⟨h1, h2, ?_, by omega, by omega⟩
                rw [h3]; unfold finI; rw [← HQ3.out, if_pos h63]
              · exact .inr ⟨h1, h2, by omega⟩
            have ER := hid eR
            subst h63
            clear eR
            have nq := N5.out
            (have c0 := h5.c0; have c1 := h5.c1; have c2 := h5.c2; have c3 := h5.c3; have c4 := h5.c4; have c5 := h5.c5; have f1 := h5.fz 1; have f2 := h5.fz 2; have f3 := h5.fz 3; have f4 := h5.fz 4; have f5 := h5.fz 5; have rl := h5.lt; have Hh5 := hid h5; clear h5)
            (have n0 := nq.c0; have n1 := nq.c1; have n2 := nq.c2; have n3 := nq.c3; have n4 := nq.c4; have n5 := nq.c5; have n6 := nq.c6; have nf0 := nq.fz 0; have nf1 := nq.fz 1; have nf2 := nq.fz 2; have nf3 := nq.fz 3; have nf4 := nq.fz 4; have nf5 := nq.fz 5; have nf6 := nq.fz 6; have nz := nq.lt; clear nq)
            go_wp2_with fail
            go_meet
            exact ⟨lo, hi, true, jm + 1, e, f, (N5.out.set4 true).kpt ((KR.refl r _).set _) (by omega), (Hh5.out.setOff _ _ (by omega) _).set1 (jm + 1), (K5.out.setN _ _ (by omega) _).set _, hjl, ER.out⟩
          · have eR : (e = 0 ∧ f = 0 ∧ X = .ok (nRep lo hi false :: lower (rns L)) (p.drop jm) g1 ∧ j < jm ∧ jm ≤ p.length) ∨ (e = 5 ∧ X = .bad 5 f ∧ jm ≤ p.length + 1) := by
              rcases HRes.out with ⟨h1, h2, h3, h4⟩ | ⟨h1, h2⟩
              · refine .inl ⟨h1, h2, ?_, h4, hjm⟩
                rw [h3]; unfold finI; rw [← HQ3.out, if_neg h63]
              · exact .inr ⟨h1, h2, by omega⟩
            have ER := hid eR
            have b1 : (q3 == 63) = false := by simpa using h63
            have H5 := hid h5
            clear eR h63 h5
            go_wp2_with fail
            go_meet
            exact ⟨lo, hi, false, jm, e, f, N5.out, H5.out, K5.out, hjl, ER.out⟩
        case rest =>
          rename World => w8
          obtain ⟨lo, hi, z, jm', e', f', n8, h8, k8, -, hres⟩ := hcut
          have HR8 := hid h8
          have HK8 := hid k8
          have HRes := hid hres
          have z8 := k8.size
          have HO8 := hid (O2.out.kr k8 (by omega))
          have HT8 := hid (T2.out.kr k8 (by omega))
          obtain ⟨m, hm⟩ : ∃ m : Rm, m = ⟨6, 0, lo, hi, z, false, none, [], 0⟩ := ⟨_, rfl⟩
          have Hm := hid hm
          have n9 : NdC w8 w2.heap.size m.kind m.deep m.lo m.hi m.lazy m.not (.slice m.sa m.set.length m.sc) := by rw [hm]; exact n8
          clear hm n8 h8 k8 hres O2 T2 HQ2
          (have n0 := n9.c0; have n1 := n9.c1; have n2 := n9.c2; have n3 := n9.c3; have n4 := n9.c4; have n5 := n9.c5; have n6 := n9.c6; have nf0 := n9.fz 0; have nf1 := n9.fz 1; have nf2 := n9.fz 2; have nf3 := n9.fz 3; have nf4 := n9.fz 4; have nf5 := n9.fz 5; have nf6 := n9.fz 6; have nz := n9.lt; clear n9)
          have LC := hid (lower_d w.heap.size (some ⟨w8.heap.size, 0, none⟩) a2 1 c2 [m] L (w8.alloc (.cells #[.int .i64 m.kind, .int .i64 m.deep, .int .i64 m.lo, .int .i64 m.hi, .bool m.lazy, .bool m.not, .slice m.sa m.set.length m.sc] 50)) (ROwn.one Try.tyRe m _ _ rfl (by omega) _ rfl) (HO8.out.sl.alloc _) (fun ad had hb => by
            obtain ⟨ae, hae, hbb⟩ := hb
            cases hae
            have := (HO8.out.lt ⟨ad, had, rfl⟩).2
            have hbb' : w8.heap.size = ad.block := hbb
            omega) (by simp; omega) (HS.out.mono (by omega) (by omega)) (by simp))
          go_wp2_with (go_at_call 49; refine LC.out.mono ?_)
          rintro _ w9 ⟨a9, c9, L9, rfl, hL9, o9, k9, -⟩
          have b9 : Below w8.heap.size w8 w9 := ((Below.refl _ _).alloc (Nat.le_refl _) _).trans (k9.below (fun q hq => by obtain ⟨ae, hae, hbb⟩ := hq; cases hae; exact Nat.le_of_eq hbb) (by simp))
          have H9 := hid o9
          have HL9 := hid hL9
          have B9 := hid b9
          clear o9 k9 b9 hL9 LC
          go_wp2_with fail
          go_ret
          rcases HRes.out with ⟨rfl, rfl, h1, h2, h3⟩ | ⟨rfl, h1, h3⟩
          · rw [h1]
            refine ⟨a9, c9, L9, jm', rfl, ?_, H9.out, ?_, by omega, h3, ?_, rfl, hg1, HR8.out.bel B9.out, (K2.out.tr HK8.out).thn B9.out⟩
            · rw [HL9.out.out, rns_app, rns_low, Hm.out]; rfl
            · rw [HL9.out.out]
              exact (((HT8.out.bel B9.out)).low).cons0 (m := m) (by rw [Hm.out]) (by rw [Hm.out]) (by rw [Hm.out])
            · rw [HL9.out.out]
              exact ((Sml.one (4 * (p.length - i) + 2 - 2) (by rw [Hm.out])).app ((HS.out.low).mono (Nat.le_refl _) (by omega))).mono (by omega) (Nat.le_refl _)
          · rw [h1]
            refine ⟨a9, c9, L9, jm', _, rfl, H9.out, ?_, by decide, by omega, HR8.out.bel B9.out, (K2.out.tr HK8.out).thn B9.out⟩
            rw [HL9.out.out]
            exact ((Sml.one (4 * (p.length - i) + 2 - 2) (by rw [Hm.out])).app ((HS.out.low).mono (Nat.le_refl _) (by omega))).mono (by omega) (Nat.le_refl _)
end Go.Proofs.Ytniilphbbcbpcaa
