/- The document's reader: an atom. -/
import Derived.Test.YtniilphbbcbpcaaDrh
namespace Go.Proofs.Ytniilphbbcbpcaa
open Go.RowKit ReM

def atomD (p : List Int) (k i g d : Nat) : Rg :=
  if nx p i = 94 then .ok [nStart] (p.drop (i + 1)) g else if nx p i = 36 then .ok [nEnd] (p.drop (i + 1)) g else atomI p k i g d
theorem one_setD {B : Nat} {w w2 W : World} {r : Nat} {a : Option Addr} {c : Nat} {p : List Int} {i j d g k1 k2 : Nat} {ng : Bool} {a2 : Option Addr} {c2 : Nat} {l : List Int} {e' : Ending}
    (ho : Own w2 w.heap.size a2 c2 l) (hk : KR r w w2) (hr : Rdr B w2 r a c p j g d 0 0) (he : e' = .returned (.slice (some ⟨w2.heap.size, 0, none⟩) 1 1)) (o : RO W w2.heap.size (some ⟨w2.heap.size, 0, none⟩) 1 [⟨2, 0, 0, 0, false, ng, a2, l, c2⟩]) (b : Below w2.heap.size w2 W)
    (hij : i < j) (hj : j ≤ p.length) (hg : g ≤ 9) (h1 : 1 ≤ k1) :
    OutD (.ok [nSet ng l] (p.drop j) g) B w r a c p i d k1 k2 e' W :=
  ⟨_, _, [⟨2, 0, 0, 0, false, ng, a2, l, c2⟩], j, he, rfl, o.base_le hk.size, Sets.one (ho.grow b), by omega, hj, (Sml.one _ rfl).mono (by omega) (Nat.le_refl _), rfl, hg, hr.bel b, hk.thn b⟩
theorem OutD.first {X : Rg} {B : Nat} {w w1 : World} {r : Nat} {a : Option Addr} {c : Nat} {p : List Int} {i d k1 k2 : Nat} {e' : Ending} {w' : World} (hk : KR r w w1) (h : OutD X B w1 r a c p i d k1 k2 e' w') : OutD X B w r a c p i d k1 k2 e' w' := by
  cases X with
  | bad e f =>
    obtain ⟨a2, c2, L, j, y, h1, h2, h3, h4, h5, h6, h7⟩ := h
    exact ⟨a2, c2, L, j, y, h1, h2.base_le hk.size, h3, h4, h5, h6, hk.tr h7⟩
  | ok l s g =>
    obtain ⟨a2, c2, L, j, h1, h2, h3, h3', h4, h5, h6, h7, h8, h9, h10⟩ := h
    exact ⟨a2, c2, L, j, h1, h2, h3.base_le hk.size, h3'.base_le hk.size, h4, h5, h6, h7, h8, h9, hk.tr h10⟩
theorem OutD.ret {X : Rg} {B : Nat} {w : World} {r : Nat} {a : Option Addr} {c : Nat} {p : List Int} {i d k1 k2 : Nat} {e' : Ending} {w' : World} (h : OutD X B w r a c p i d k1 k2 e' w') : ∃ v, e' = .returned v := by
  cases X with
  | bad e f => obtain ⟨a2, c2, L, j, y, h1, _⟩ := h; exact ⟨_, h1⟩
  | ok l s g => obtain ⟨a2, c2, L, j, h1, _⟩ := h; exact ⟨_, h1⟩
theorem mean_some {q : Int} {l : List Int} {b : Bool} (h : mean CC q = some (l, b)) : 0 < l.length := by
  rw [mean_l q (lo q) rfl] at h
  repeat' split at h
  all_goals first | (cases h <;> decide) | (cases h <;> simp)
set_option maxRecDepth 20000 in
set_option maxHeartbeats 16000000 in
theorem datom_c (B : Nat) (w : World) (r : Nat) (a : Option Addr) (c : Nat) (p : List Int) (k i g d : Nat) (h : Rdr B w r a c p i g d 0 0) (hi : i < p.length) (hT : Txt1 p) (hd : d ≤ 12) (hg : g ≤ 9) (hk : 4 * (p.length - i) ≤ k + 2)
    (IH : PatD B r a c p k) :
    Calls Try.prog 74 #[.pointer (some ⟨r, 0, none⟩)] w (OutD (atomD p k i g d) B w r a c p i d 1 1) := by
  have hl := hT.1
  have hB := h.Bw
  have hrw : r < w.heap.size := h.lt
  have hqr := nx_rng h.sl.rng i
  obtain ⟨q, hqe⟩ : ∃ q, q = nx p i := ⟨_, rfl⟩
  have HQ := hid hqe
  rw [← hqe] at hqr
  obtain ⟨X, hX⟩ : ∃ X, X = atomD p k i g d := ⟨_, rfl⟩
  rw [← hX]
  have HG := hid (fun w' h' hq => dgroup_c B w' r a c p k i g d h' hi hT hd hg hk hq IH)
  have HC := hid (fun w' h' => dclass_c B w' r a c p i g d h' hT hi hd hg)
  have HB := hid (fun w' h' => dbehind_c B w' r a c p i g d 0 0 h' hT (by omega))
  have HH := hid h
  have c1 := h.c1
  have W1 : IntKind.i64.wrap ((i : Int) + 1) = ((i + 1 : Nat) : Int) := by rw [IntKind.wrap_i64]; omega
  clear h hqe IH
  have HX0 := hid hX
  clear hX
  by_cases h94 : q = 94
  · have HX := hid (show X = .ok [nStart] (p.drop (i + 1)) g by rw [HX0.out]; unfold atomD; rw [← HQ.out]; rw [if_pos h94])
    have h2 := HH.out
    clear hqr HG HC HB
    subst h94
    go_enter Try.func74, Try.ntmps74
    go_wp2_with fail
    go_quiet ((go_at_call 48; (with_reducible refine Calls.quiet_of (dnext_v 94 B _ r a c p i g d 0 0 HQ.out ?_)); first | exact HH.out | exact HH.out.drew | exact HH.out.drewN _))
    (have c0 := h2.c0; have c1 := h2.c1; have c2 := h2.c2; have c3 := h2.c3; have c4 := h2.c4; have c5 := h2.c5; have f1 := h2.fz 1; have f2 := h2.fz 2; have f3 := h2.fz 3; have f4 := h2.fz 4; have f5 := h2.fz 5; have rl := h2.lt; have Hh2 := hid h2; clear h2)
    go_wp2_with fail
    go_ret
    rw [HX.out]
    exact ⟨_, _, [⟨3, 0, 0, 0, false, false, none, [], 0⟩], i + 1, rfl, rfl, ROwn.one Try.tyRe _ _ _ (by simp) (by simp) _ rfl, (Sets.nil _ _).cons0 rfl rfl rfl, by omega, by omega, (Sml.one _ rfl).mono (by omega) (Nat.le_refl _), rfl, hg, ((Hh2.out.drewN _).set1 (i + 1)).alloc _, (((KR.refl r w).drewN _).set _).alloc _⟩
  by_cases h36 : q = 36
  · have HX := hid (show X = .ok [nEnd] (p.drop (i + 1)) g by rw [HX0.out]; unfold atomD; rw [← HQ.out]; rw [if_neg h94, if_pos h36])
    have h2 := HH.out
    clear hqr HG HC HB
    subst h36
    go_enter Try.func74, Try.ntmps74
    go_wp2_with fail
    go_quiet ((go_at_call 48; (with_reducible refine Calls.quiet_of (dnext_v 36 B _ r a c p i g d 0 0 HQ.out ?_)); first | exact HH.out | exact HH.out.drew | exact HH.out.drewN _))
    (have c0 := h2.c0; have c1 := h2.c1; have c2 := h2.c2; have c3 := h2.c3; have c4 := h2.c4; have c5 := h2.c5; have f1 := h2.fz 1; have f2 := h2.fz 2; have f3 := h2.fz 3; have f4 := h2.fz 4; have f5 := h2.fz 5; have rl := h2.lt; have Hh2 := hid h2; clear h2)
    go_wp2_with fail
    go_ret
    rw [HX.out]
    exact ⟨_, _, [⟨4, 0, 0, 0, false, false, none, [], 0⟩], i + 1, rfl, rfl, ROwn.one Try.tyRe _ _ _ (by simp) (by simp) _ rfl, (Sets.nil _ _).cons0 rfl rfl rfl, by omega, by omega, (Sml.one _ rfl).mono (by omega) (Nat.le_refl _), rfl, hg, ((Hh2.out.drewN _).set1 (i + 1)).alloc _, (((KR.refl r w).drewN _).set _).alloc _⟩
  have eA : atomD p k i g d = atomI p k i g d := by unfold atomD; rw [← HQ.out, if_neg h94, if_neg h36]
  have HA := hid (HX0.out.trans eA)
  clear eA
  by_cases h46 : q = 46
  · have HX := hid (show X = .ok [nSet true [10, 10]] (p.drop (i + 1)) g by rw [HA.out]; unfold atomI; rw [← HQ.out, if_pos h46])
    have h2 := HH.out
    clear hqr HG HC HB h94 h36
    subst h46
    go_enter Try.func74, Try.ntmps74
    go_wp2_with fail
    go_quiet ((go_at_call 48; (with_reducible refine Calls.quiet_of (dnext_v 46 B _ r a c p i g d 0 0 HQ.out ?_)); first | exact HH.out | exact HH.out.drew | exact HH.out.drewN _))
    (have c0 := h2.c0; have c1 := h2.c1; have c2 := h2.c2; have c3 := h2.c3; have c4 := h2.c4; have c5 := h2.c5; have f1 := h2.fz 1; have f2 := h2.fz 2; have f3 := h2.fz 3; have f4 := h2.fz 4; have f5 := h2.fz 5; have rl := h2.lt; have Hh2 := hid h2; clear h2)
    go_wp2_with fail
    refine (set_dk (w.heap.size + 1) true (some ⟨w.heap.size, 0, none⟩) 2 [10, 10] _ (by simp)).mono ?_
    rintro _ W ⟨rfl, o, b⟩
    have O := hid o
    have Bb := hid b
    clear o b
    go_wp2_with fail
    go_ret
    rw [HX.out]
    refine one_setD (a2 := some ⟨w.heap.size, 0, none⟩) (c2 := 2) (Own.lit' _ [10, 10] _ _ _ (by simp) (by simp) (by simp) (rng_cons (by omega) (rng_one (by omega))) _ rfl rfl) ((((KR.refl r w).drewN _).set _).alloc _) (((Hh2.out.drewN _).set1 (i + 1)).alloc _) (by simp) ?_ Bb.out (by omega) (by omega) hg (by omega)
    simpa using O.out
  by_cases h40 : q = 40
  · have hq := HQ.out.symm.trans h40
    have h2 := HH.out
    clear hqr HC HB h94 h36 h46
    subst h40
    go_enter Try.func74, Try.ntmps74
    go_wp2_with fail
    go_quiet ((go_at_call 48; (with_reducible refine Calls.quiet_of (dnext_v 40 B _ r a c p i g d 0 0 HQ.out ?_)); first | exact HH.out | exact HH.out.drew | exact HH.out.drewN _))
    go_wp2_with fail
    refine (HG.out _ (HH.out.drewN _) hq).mono ?_
    rintro e2 w2 hx
    obtain ⟨v, rfl⟩ := hx.ret
    have Hx := hid hx
    clear hx
    go_wp2_with fail
    go_ret
    rw [HA.out]
    exact Hx.out.first ((KR.refl r w).drewN _)
  by_cases h91 : q = 91
  · have HX := hid (show X = (if nx p (i + 1) = 94 then clsI p true (i + 2) g else clsI p false (i + 1) g) by rw [HA.out]; unfold atomI; rw [← HQ.out, if_neg h46, if_neg h40, if_pos h91])
    have h2 := HH.out
    clear hqr HG HB h94 h36 h46 h40
    subst h91
    go_enter Try.func74, Try.ntmps74
    go_wp2_with fail
    go_quiet ((go_at_call 48; (with_reducible refine Calls.quiet_of (dnext_v 91 B _ r a c p i g d 0 0 HQ.out ?_)); first | exact HH.out | exact HH.out.drew | exact HH.out.drewN _))
    go_wp2_with fail
    refine (HC.out _ (HH.out.drewN _)).mono ?_
    rintro e2 w2 hx
    obtain ⟨v, rfl⟩ := hx.ret
    have Hx := hid hx
    clear hx
    go_wp2_with fail
    go_ret
    rw [HX.out]
    exact Hx.out.first ((KR.refl r w).drewN _)
  by_cases h92 : q = 92
  · have HX := hid (show X = (match mean CC (nx p (i + 1)) with
        | none => .bad 5 (i + 1 : Nat)
        | some (l, ng) => .ok [nSet ng l] (p.drop (i + 2)) g) by rw [HA.out]; unfold atomI; rw [← HQ.out, if_neg h46, if_neg h40, if_neg h91, if_pos h92]; cases mean CC (nx p (i + 1)) <;> rfl)
    have h2 := HH.out
    clear hqr HG HC h94 h36 h46 h40 h91
    subst h92
    go_enter Try.func74, Try.ntmps74
    go_wp2_with fail
    go_quiet ((go_at_call 48; (with_reducible refine Calls.quiet_of (dnext_v 92 B _ r a c p i g d 0 0 HQ.out ?_)); first | exact HH.out | exact HH.out.drew | exact HH.out.drewN _))
    go_wp2_with fail
    refine (HB.out _ (HH.out.drewN _)).mono ?_
    rintro e2 w2 hb
    cases hY : mean CC (nx p (i + 1)) with
    | none =>
      rw [hY] at hb
      obtain ⟨rfl, h3, k3⟩ := hb
      have HXn := hid (show X = .bad 5 (i + 1 : Nat) by rw [HX.out, hY])
      have H3 := hid h3
      have K3 := hid k3
      clear h3 k3 hY
      go_wp2_with fail
      rw [show (i : Int) + 1 = ((i + 1 : Nat) : Int) from rfl]
      refine (dbad_one 5 ((i + 1 : Nat) : Int) B w2 r a c p (i + 2) g d 0 H3.out).mono ?_
      rintro _ w3 ⟨rfl, h4, k4⟩
      have H4 := hid h4
      have K4 := hid (((KR.refl r w).drewN _).tr (K3.out.tr k4))
      clear h4 k4
      go_wp2_with fail
      refine (set_d true none 0 [] _).mono ?_
      rintro _ W ⟨rfl, o, b⟩
      have O := hid o
      have Bb := hid b
      clear o b
      go_wp2_with fail
      go_ret
      rw [HXn.out]
      exact ⟨_, _, _, i + 2, g, rfl, O.out.base_le K4.out.size, (Sml.one _ rfl).mono (by omega) (Nat.le_refl _), by decide, by omega, H4.out.bel Bb.out, K4.out.thn Bb.out⟩
    | some z =>
      obtain ⟨l, b⟩ := z
      rw [hY] at hb
      obtain ⟨a2, c2, rfl, ho, h3, k3⟩ := hb
      have HXn := hid (show X = .ok [nSet b l] (p.drop (i + 2)) g by rw [HX.out, hY])
      have hl0 := mean_some hY
      have hi2 : i + 1 < p.length := by
        rcases Nat.lt_or_ge (i + 1) p.length with h1 | h1
        · exact h1
        · rw [nx_end h1, mean_end] at hY; cases hY
      have b0 : ((l.length : Int) == 0) = false := by rw [beq_eq_false_iff_ne]; omega
      have H3 := hid h3
      have K3 := hid (((KR.refl r w).drewN _).tr k3)
      have HO := hid (ho.base_le (base' := w.heap.size) (by simp))
      clear h3 k3 hY ho hl0
      have hc : (b && ((l.length : Int) == 0)) = false := by rw [b0]; cases b <;> rfl
      cases b
      all_goals
        go_wp2_with fail
        refine (set_d _ a2 c2 l _).mono ?_
        rintro _ W ⟨rfl, o, b⟩
        have O := hid o
        have Bb := hid b
        clear o b
        go_wp2_with fail
        go_ret
        rw [HXn.out]
        exact one_setD HO.out K3.out H3.out rfl O.out Bb.out (by omega) (by omega) hg (by omega)
  have b94 : (q == 94) = false := by simpa using h94
  have b36 : (q == 36) = false := by simpa using h36
  have b46 : (q == 46) = false := by simpa using h46
  have b40 : (q == 40) = false := by simpa using h40
  have b91 : (q == 91) = false := by simpa using h91
  have b92 : (q == 92) = false := by simpa using h92
  have hs : strL (ByteArray.mk #[42, 43, 63, 123]) = [42, 43, 63, 123] := rfl
  have HS := hid hs
  clear hs
  by_cases hm : meta4 q = true
  · have HX := hid (show X = .bad 5 i by rw [HA.out]; unfold atomI; rw [← HQ.out, if_neg h46, if_neg h40, if_neg h91, if_neg h92, if_pos hm])
    have h2 := HH.out
    have hh : hasL (strL (ByteArray.mk #[42, 43, 63, 123])) q = true := by
      rw [HS.out]; simp [meta4, hasL] at hm ⊢; omega
    clear HG HC HB h94 h36 h46 h40 h91 h92 HS hm
    go_enter Try.func74, Try.ntmps74
    go_wp2_with fail
    go_quiet ((go_at_call 48; (with_reducible refine Calls.quiet_of (dnext_v q B _ r a c p i g d 0 0 HQ.out ?_)); first | exact HH.out | exact HH.out.drew | exact HH.out.drewN _))
    go_wp2_with (go_at_call 84; refine (has_d _ _ _ (by decide)).mono ?_; rintro _ w9 ⟨rfl, rfl⟩; rw [hh])
    refine (dbad_one 5 i B _ r a c p i g d 0 (HH.out.drewN _)).mono ?_
    rintro _ w3 ⟨rfl, h3, k3⟩
    have K3 := hid (((KR.refl r w).drewN _).tr k3)
    have zk := K3.out.size
    clear k3
    (have c0 := h3.c0; have c1 := h3.c1; have c2 := h3.c2; have c3 := h3.c3; have c4 := h3.c4; have c5 := h3.c5; have f1 := h3.fz 1; have f2 := h3.fz 2; have f3 := h3.fz 3; have f4 := h3.fz 4; have f5 := h3.fz 5; have rl := h3.lt; have Hh3 := hid h3; clear h3)
    go_wp2_with fail
    refine (set_dk (w3.heap.size + 1) false (some ⟨w3.heap.size, 0, none⟩) 2 [q, q] _ (by simp)).mono ?_
    rintro _ W ⟨rfl, o, b⟩
    have O := hid o
    have Bb := hid b
    clear o b
    go_wp2_with fail
    go_ret
    rw [HX.out]
    exact ⟨_, _, _, i + 1, g, rfl, O.out.base_le (by simp; omega), (Sml.one _ rfl).mono (by omega) (Nat.le_refl _), by decide, by omega, ((Hh3.out.set1 (i + 1)).alloc _).bel Bb.out, ((K3.out.set _).alloc _).thn Bb.out⟩
  · have HX := hid (show X = .ok [nSet false [q, q]] (p.drop (i + 1)) g by rw [HA.out]; unfold atomI; rw [← HQ.out, if_neg h46, if_neg h40, if_neg h91, if_neg h92, if_neg hm])
    have h2 := HH.out
    have hh : hasL (strL (ByteArray.mk #[42, 43, 63, 123])) q = false := by
      rw [HS.out]; simp [meta4, hasL] at hm ⊢; omega
    clear HG HC HB h94 h36 h46 h40 h91 h92 HS hm
    go_enter Try.func74, Try.ntmps74
    go_wp2_with fail
    go_quiet ((go_at_call 48; (with_reducible refine Calls.quiet_of (dnext_v q B _ r a c p i g d 0 0 HQ.out ?_)); first | exact HH.out | exact HH.out.drew | exact HH.out.drewN _))
    (have c0 := h2.c0; have c1 := h2.c1; have c2 := h2.c2; have c3 := h2.c3; have c4 := h2.c4; have c5 := h2.c5; have f1 := h2.fz 1; have f2 := h2.fz 2; have f3 := h2.fz 3; have f4 := h2.fz 4; have f5 := h2.fz 5; have rl := h2.lt; have Hh2 := hid h2; clear h2)
    go_wp2_with (go_at_call 84; refine (has_d _ _ _ (by decide)).mono ?_; rintro _ w9 ⟨rfl, rfl⟩; rw [hh])
    refine (set_dk (w.heap.size + 1) false (some ⟨w.heap.size, 0, none⟩) 2 [q, q] _ (by simp)).mono ?_
    rintro _ W ⟨rfl, o, b⟩
    have O := hid o
    have Bb := hid b
    clear o b
    go_wp2_with fail
    go_ret
    rw [HX.out]
    refine one_setD (a2 := some ⟨w.heap.size, 0, none⟩) (c2 := 2) (Own.lit' _ [q, q] _ _ _ (by simp) (by simp) (by simp) (rng_cons hqr (rng_one hqr)) _ rfl rfl) ((((KR.refl r w).drewN _).set _).alloc _) (((Hh2.out.drewN _).set1 (i + 1)).alloc _) (by simp) ?_ Bb.out (by omega) (by omega) hg (by omega)
    simpa using O.out
end Go.Proofs.Ytniilphbbcbpcaa
