/- The document's reader: an atom. The document's reader: an item (an atom, its repeat). The document's reader: a row. The document's reader: alternatives, by rounds (dpat_all). The document's Parse (dparse_c). The document's Groups; Spoil. -/
import Derived.Test.YtefgjicegbhcaaaGreatDrV
import Derived.Test.YtefgjicegbhcaaaGreatRxl
import Derived.Test.YtefgjicegbhcaaaGreatRxm
import Derived.Test.YtefgjicegbhcaaaGreatRxn
import Derived.Test.YtefgjicegbhcaaaGreatRga
namespace Go.Proofs.YtefgjicegbhcaaaGreat
open Go.RowKit ReM

def atomD (p : List Int) (k i g d : Nat) : Rg :=
  if nx p i = 94 then .ok [nStart] (p.drop (i + 1)) g else if nx p i = 36 then .ok [nEnd] (p.drop (i + 1)) g else atomI p k i g d
theorem one_setD {B : Nat} {w w2 W : World} {r : Nat} {a : Option Addr} {c : Nat} {p : List Int} {i j d g k1 k2 : Nat} {ng : Bool} {a2 : Option Addr} {c2 : Nat} {l : List Int} {e' : Ending}
    (ho : Own w2 w.heap.size a2 c2 l) (hk : KR r w w2) (hr : Rdr B w2 r a c p j g d 0 0) (he : e' = .returned (.slice (some ⟨w2.heap.size, 0, none⟩) 1 1)) (o : RO W w2.heap.size (some ⟨w2.heap.size, 0, none⟩) 1 [⟨2, 0, 0, 0, false, ng, a2, l, c2⟩]) (b : Below w2.heap.size w2 W)
    (hij : i < j) (hj : j ≤ p.length) (hg : g ≤ 9) (h1 : 1 ≤ k1) :
    OutD (.ok [nSet ng l] (p.drop j) g) B w r a c p i d k1 k2 e' W :=
  ⟨_, _, [⟨2, 0, 0, 0, false, ng, a2, l, c2⟩], j, he, rfl, o.base_le hk.size, Sets.one (ho.grow b), by omega, hj, (Sml.one _ rfl).mono (by omega) (Nat.le_refl _), rfl, hg, hr.bel b, hk.thn b⟩
theorem OutD.first {X : Rg} {B : Nat} {w w1 : World} {r : Nat} {a : Option Addr} {c : Nat} {p : List Int} {i d k1 k2 : Nat} {e' : Ending} {w' : World} (hk : KR r w w1) (h : OutD X B w1 r a c p i d k1 k2 e' w') : OutD X B w r a c p i d k1 k2 e' w' := by
  cases X with
  | bad e f =>
    obtain ⟨a2, c2, L, j, y, h1, h2, h3, h4, h5, h6, h7⟩ := h
    exact ⟨a2, c2, L, j, y, h1, h2.base_le hk.size, h3, h4, h5, h6, hk.tr h7⟩
  | ok l s g =>
    obtain ⟨a2, c2, L, j, h1, h2, h3, h3', h4, h5, h6, h7, h8, h9, h10⟩ := h
    exact ⟨a2, c2, L, j, h1, h2, h3.base_le hk.size, h3'.base_le hk.size, h4, h5, h6, h7, h8, h9, hk.tr h10⟩
theorem OutD.ret {X : Rg} {B : Nat} {w : World} {r : Nat} {a : Option Addr} {c : Nat} {p : List Int} {i d k1 k2 : Nat} {e' : Ending} {w' : World} (h : OutD X B w r a c p i d k1 k2 e' w') : ∃ v, e' = .returned v := by
  cases X with
  | bad e f => obtain ⟨a2, c2, L, j, y, h1, _⟩ := h; exact ⟨_, h1⟩
  | ok l s g => obtain ⟨a2, c2, L, j, h1, _⟩ := h; exact ⟨_, h1⟩
theorem mean_some {q : Int} {l : List Int} {b : Bool} (h : mean CC q = some (l, b)) : 0 < l.length := by
  rw [mean_l q (lo q) rfl] at h
  repeat' split at h
  all_goals first | (cases h <;> decide) | (cases h <;> simp)
set_option maxRecDepth 20000 in
set_option maxHeartbeats 16000000 in
theorem datom_c (B : Nat) (w : World) (r : Nat) (a : Option Addr) (c : Nat) (p : List Int) (k i g d : Nat) (h : Rdr B w r a c p i g d 0 0) (hi : i < p.length) (hT : Txt1 p) (hd : d ≤ 12) (hg : g ≤ 9) (hk : 4 * (p.length - i) ≤ k + 2)
    (IH : PatD B r a c p k) :
    Calls Tryz.prog 139 #[.pointer (some ⟨r, 0, none⟩)] w (OutD (atomD p k i g d) B w r a c p i d 1 1) := by
  have hl := hT.1
  have hB := h.Bw
  have hrw : r < w.heap.size := h.lt
  have hqr := nx_rng h.sl.rng i
  obtain ⟨q, hqe⟩ : ∃ q, q = nx p i := ⟨_, rfl⟩
  have HQ := hid hqe
  rw [← hqe] at hqr
  obtain ⟨X, hX⟩ : ∃ X, X = atomD p k i g d := ⟨_, rfl⟩
  rw [← hX]
  have HG := hid (fun w' h' hq => dgroup_c B w' r a c p k i g d h' hi hT hd hg hk hq IH)
  have HC := hid (fun w' h' => dclass_c B w' r a c p i g d h' hT hi hd hg)
  have HB := hid (fun w' h' => dbehind_c B w' r a c p i g d 0 0 h' hT (by omega))
  have HH := hid h
  have c1 := h.c1
  have W1 : IntKind.i64.wrap ((i : Int) + 1) = ((i + 1 : Nat) : Int) := by rw [IntKind.wrap_i64]; omega
  clear h hqe IH
  have HX0 := hid hX
  clear hX
  by_cases h94 : q = 94
  · have HX := hid (show X = .ok [nStart] (p.drop (i + 1)) g by rw [HX0.out]; unfold atomD; rw [← HQ.out]; rw [if_pos h94])
    have h2 := HH.out
    clear hqr HG HC HB
    subst h94
    go_enter Tryz.func139, Tryz.ntmps139
    go_wp2_with fail
    go_quiet ((go_at_call 113; (with_reducible refine Calls.quiet_of (dnext_v 94 B _ r a c p i g d 0 0 HQ.out ?_)); first | exact HH.out | exact HH.out.drew | exact HH.out.drewN _))
    (have c0 := h2.c0; have c1 := h2.c1; have c2 := h2.c2; have c3 := h2.c3; have c4 := h2.c4; have c5 := h2.c5; have f1 := h2.fz 1; have f2 := h2.fz 2; have f3 := h2.fz 3; have f4 := h2.fz 4; have f5 := h2.fz 5; have rl := h2.lt; have Hh2 := hid h2; clear h2)
    go_wp2_with fail
    go_ret
    rw [HX.out]
    exact ⟨_, _, [⟨3, 0, 0, 0, false, false, none, [], 0⟩], i + 1, rfl, rfl, ROwn.one Tryz.tyRe _ _ _ (by simp) (by simp) _ rfl, (Sets.nil _ _).cons0 rfl rfl rfl, by omega, by omega, (Sml.one _ rfl).mono (by omega) (Nat.le_refl _), rfl, hg, ((Hh2.out.drewN _).set1 (i + 1)).alloc _, (((KR.refl r w).drewN _).set _).alloc _⟩
  by_cases h36 : q = 36
  · have HX := hid (show X = .ok [nEnd] (p.drop (i + 1)) g by rw [HX0.out]; unfold atomD; rw [← HQ.out]; rw [if_neg h94, if_pos h36])
    have h2 := HH.out
    clear hqr HG HC HB
    subst h36
    go_enter Tryz.func139, Tryz.ntmps139
    go_wp2_with fail
    go_quiet ((go_at_call 113; (with_reducible refine Calls.quiet_of (dnext_v 36 B _ r a c p i g d 0 0 HQ.out ?_)); first | exact HH.out | exact HH.out.drew | exact HH.out.drewN _))
    (have c0 := h2.c0; have c1 := h2.c1; have c2 := h2.c2; have c3 := h2.c3; have c4 := h2.c4; have c5 := h2.c5; have f1 := h2.fz 1; have f2 := h2.fz 2; have f3 := h2.fz 3; have f4 := h2.fz 4; have f5 := h2.fz 5; have rl := h2.lt; have Hh2 := hid h2; clear h2)
    go_wp2_with fail
    go_ret
    rw [HX.out]
    exact ⟨_, _, [⟨4, 0, 0, 0, false, false, none, [], 0⟩], i + 1, rfl, rfl, ROwn.one Tryz.tyRe _ _ _ (by simp) (by simp) _ rfl, (Sets.nil _ _).cons0 rfl rfl rfl, by omega, by omega, (Sml.one _ rfl).mono (by omega) (Nat.le_refl _), rfl, hg, ((Hh2.out.drewN _).set1 (i + 1)).alloc _, (((KR.refl r w).drewN _).set _).alloc _⟩
  have eA : atomD p k i g d = atomI p k i g d := by unfold atomD; rw [← HQ.out, if_neg h94, if_neg h36]
  have HA := hid (HX0.out.trans eA)
  clear eA
  by_cases h46 : q = 46
  · have HX := hid (show X = .ok [nSet true [10, 10]] (p.drop (i + 1)) g by rw [HA.out]; unfold atomI; rw [← HQ.out, if_pos h46])
    have h2 := HH.out
    clear hqr HG HC HB h94 h36
    subst h46
    go_enter Tryz.func139, Tryz.ntmps139
    go_wp2_with fail
    go_quiet ((go_at_call 113; (with_reducible refine Calls.quiet_of (dnext_v 46 B _ r a c p i g d 0 0 HQ.out ?_)); first | exact HH.out | exact HH.out.drew | exact HH.out.drewN _))
    (have c0 := h2.c0; have c1 := h2.c1; have c2 := h2.c2; have c3 := h2.c3; have c4 := h2.c4; have c5 := h2.c5; have f1 := h2.fz 1; have f2 := h2.fz 2; have f3 := h2.fz 3; have f4 := h2.fz 4; have f5 := h2.fz 5; have rl := h2.lt; have Hh2 := hid h2; clear h2)
    go_wp2_with fail
    refine (set_dk (w.heap.size + 1) true (some ⟨w.heap.size, 0, none⟩) 2 [10, 10] _ (by simp)).mono ?_
    rintro _ W ⟨rfl, o, b⟩
    have O := hid o
    have Bb := hid b
    clear o b
    go_wp2_with fail
    go_ret
    rw [HX.out]
    refine one_setD (a2 := some ⟨w.heap.size, 0, none⟩) (c2 := 2) (Own.lit' _ [10, 10] _ _ _ (by simp) (by simp) (by simp) (rng_cons (by omega) (rng_one (by omega))) _ rfl rfl) ((((KR.refl r w).drewN _).set _).alloc _) (((Hh2.out.drewN _).set1 (i + 1)).alloc _) (by simp) ?_ Bb.out (by omega) (by omega) hg (by omega)
    simpa using O.out
  by_cases h40 : q = 40
  · have hq := HQ.out.symm.trans h40
    have h2 := HH.out
    clear hqr HC HB h94 h36 h46
    subst h40
    go_enter Tryz.func139, Tryz.ntmps139
    go_wp2_with fail
    go_quiet ((go_at_call 113; (with_reducible refine Calls.quiet_of (dnext_v 40 B _ r a c p i g d 0 0 HQ.out ?_)); first | exact HH.out | exact HH.out.drew | exact HH.out.drewN _))
    go_wp2_with fail
    refine (HG.out _ (HH.out.drewN _) hq).mono ?_
    rintro e2 w2 hx
    obtain ⟨v, rfl⟩ := hx.ret
    have Hx := hid hx
    clear hx
    go_wp2_with fail
    go_ret
    rw [HA.out]
    exact Hx.out.first ((KR.refl r w).drewN _)
  by_cases h91 : q = 91
  · have HX := hid (show X = (if nx p (i + 1) = 94 then clsI p true (i + 2) g else clsI p false (i + 1) g) by rw [HA.out]; unfold atomI; rw [← HQ.out, if_neg h46, if_neg h40, if_pos h91])
    have h2 := HH.out
    clear hqr HG HB h94 h36 h46 h40
    subst h91
    go_enter Tryz.func139, Tryz.ntmps139
    go_wp2_with fail
    go_quiet ((go_at_call 113; (with_reducible refine Calls.quiet_of (dnext_v 91 B _ r a c p i g d 0 0 HQ.out ?_)); first | exact HH.out | exact HH.out.drew | exact HH.out.drewN _))
    go_wp2_with fail
    refine (HC.out _ (HH.out.drewN _)).mono ?_
    rintro e2 w2 hx
    obtain ⟨v, rfl⟩ := hx.ret
    have Hx := hid hx
    clear hx
    go_wp2_with fail
    go_ret
    rw [HX.out]
    exact Hx.out.first ((KR.refl r w).drewN _)
  by_cases h92 : q = 92
  · have HX := hid (show X = (match mean CC (nx p (i + 1)) with
        | none => .bad 5 (i + 1 : Nat)
        | some (l, ng) => .ok [nSet ng l] (p.drop (i + 2)) g) by rw [HA.out]; unfold atomI; rw [← HQ.out, if_neg h46, if_neg h40, if_neg h91, if_pos h92]; cases mean CC (nx p (i + 1)) <;> rfl)
    have h2 := HH.out
    clear hqr HG HC h94 h36 h46 h40 h91
    subst h92
    go_enter Tryz.func139, Tryz.ntmps139
    go_wp2_with fail
    go_quiet ((go_at_call 113; (with_reducible refine Calls.quiet_of (dnext_v 92 B _ r a c p i g d 0 0 HQ.out ?_)); first | exact HH.out | exact HH.out.drew | exact HH.out.drewN _))
    go_wp2_with fail
    refine (HB.out _ (HH.out.drewN _)).mono ?_
    rintro e2 w2 hb
    cases hY : mean CC (nx p (i + 1)) with
    | none =>
      rw [hY] at hb
      obtain ⟨rfl, h3, k3⟩ := hb
      have HXn := hid (show X = .bad 5 (i + 1 : Nat) by rw [HX.out, hY])
      have H3 := hid h3
      have K3 := hid k3
      clear h3 k3 hY
      go_wp2_with fail
      rw [show (i : Int) + 1 = ((i + 1 : Nat) : Int) from rfl]
      refine (dbad_one 5 ((i + 1 : Nat) : Int) B w2 r a c p (i + 2) g d 0 H3.out).mono ?_
      rintro _ w3 ⟨rfl, h4, k4⟩
      have H4 := hid h4
      have K4 := hid (((KR.refl r w).drewN _).tr (K3.out.tr k4))
      clear h4 k4
      go_wp2_with fail
      refine (set_d true none 0 [] _).mono ?_
      rintro _ W ⟨rfl, o, b⟩
      have O := hid o
      have Bb := hid b
      clear o b
      go_wp2_with fail
      go_ret
      rw [HXn.out]
      exact ⟨_, _, _, i + 2, g, rfl, O.out.base_le K4.out.size, (Sml.one _ rfl).mono (by omega) (Nat.le_refl _), by decide, by omega, H4.out.bel Bb.out, K4.out.thn Bb.out⟩
    | some z =>
      obtain ⟨l, b⟩ := z
      rw [hY] at hb
      obtain ⟨a2, c2, rfl, ho, h3, k3⟩ := hb
      have HXn := hid (show X = .ok [nSet b l] (p.drop (i + 2)) g by rw [HX.out, hY])
      have hl0 := mean_some hY
      have hi2 : i + 1 < p.length := by
        rcases Nat.lt_or_ge (i + 1) p.length with h1 | h1
        · exact h1
        · rw [nx_end h1, mean_end] at hY; cases hY
      have b0 : ((l.length : Int) == 0) = false := by rw [beq_eq_false_iff_ne]; omega
      have H3 := hid h3
      have K3 := hid (((KR.refl r w).drewN _).tr k3)
      have HO := hid (ho.base_le (base' := w.heap.size) (by simp))
      clear h3 k3 hY ho hl0
      have hc : (b && ((l.length : Int) == 0)) = false := by rw [b0]; cases b <;> rfl
      cases b
      all_goals
        go_wp2_with fail
        refine (set_d _ a2 c2 l _).mono ?_
        rintro _ W ⟨rfl, o, b⟩
        have O := hid o
        have Bb := hid b
        clear o b
        go_wp2_with fail
        go_ret
        rw [HXn.out]
        exact one_setD HO.out K3.out H3.out rfl O.out Bb.out (by omega) (by omega) hg (by omega)
  have b94 : (q == 94) = false := by simpa using h94
  have b36 : (q == 36) = false := by simpa using h36
  have b46 : (q == 46) = false := by simpa using h46
  have b40 : (q == 40) = false := by simpa using h40
  have b91 : (q == 91) = false := by simpa using h91
  have b92 : (q == 92) = false := by simpa using h92
  have hs : strL (ByteArray.mk #[42, 43, 63, 123]) = [42, 43, 63, 123] := rfl
  have HS := hid hs
  clear hs
  by_cases hm : meta4 q = true
  · have HX := hid (show X = .bad 5 i by rw [HA.out]; unfold atomI; rw [← HQ.out, if_neg h46, if_neg h40, if_neg h91, if_neg h92, if_pos hm])
    have h2 := HH.out
    have hh : hasL (strL (ByteArray.mk #[42, 43, 63, 123])) q = true := by
      rw [HS.out]; simp [meta4, hasL] at hm ⊢; omega
    clear HG HC HB h94 h36 h46 h40 h91 h92 HS hm
    go_enter Tryz.func139, Tryz.ntmps139
    go_wp2_with fail
    go_quiet ((go_at_call 113; (with_reducible refine Calls.quiet_of (dnext_v q B _ r a c p i g d 0 0 HQ.out ?_)); first | exact HH.out | exact HH.out.drew | exact HH.out.drewN _))
    go_wp2_with (go_at_call 31; refine (has_d _ _ _ (by decide)).mono ?_; rintro _ w9 ⟨rfl, rfl⟩; rw [hh])
    refine (dbad_one 5 i B _ r a c p i g d 0 (HH.out.drewN _)).mono ?_
    rintro _ w3 ⟨rfl, h3, k3⟩
    have K3 := hid (((KR.refl r w).drewN _).tr k3)
    have zk := K3.out.size
    clear k3
    (have c0 := h3.c0; have c1 := h3.c1; have c2 := h3.c2; have c3 := h3.c3; have c4 := h3.c4; have c5 := h3.c5; have f1 := h3.fz 1; have f2 := h3.fz 2; have f3 := h3.fz 3; have f4 := h3.fz 4; have f5 := h3.fz 5; have rl := h3.lt; have Hh3 := hid h3; clear h3)
    go_wp2_with fail
    refine (set_dk (w3.heap.size + 1) false (some ⟨w3.heap.size, 0, none⟩) 2 [q, q] _ (by simp)).mono ?_
    rintro _ W ⟨rfl, o, b⟩
    have O := hid o
    have Bb := hid b
    clear o b
    go_wp2_with fail
    go_ret
    rw [HX.out]
    exact ⟨_, _, _, i + 1, g, rfl, O.out.base_le (by simp; omega), (Sml.one _ rfl).mono (by omega) (Nat.le_refl _), by decide, by omega, ((Hh3.out.set1 (i + 1)).alloc _).bel Bb.out, ((K3.out.set _).alloc _).thn Bb.out⟩
  · have HX := hid (show X = .ok [nSet false [q, q]] (p.drop (i + 1)) g by rw [HA.out]; unfold atomI; rw [← HQ.out, if_neg h46, if_neg h40, if_neg h91, if_neg h92, if_neg hm])
    have h2 := HH.out
    have hh : hasL (strL (ByteArray.mk #[42, 43, 63, 123])) q = false := by
      rw [HS.out]; simp [meta4, hasL] at hm ⊢; omega
    clear HG HC HB h94 h36 h46 h40 h91 h92 HS hm
    go_enter Tryz.func139, Tryz.ntmps139
    go_wp2_with fail
    go_quiet ((go_at_call 113; (with_reducible refine Calls.quiet_of (dnext_v q B _ r a c p i g d 0 0 HQ.out ?_)); first | exact HH.out | exact HH.out.drew | exact HH.out.drewN _))
    (have c0 := h2.c0; have c1 := h2.c1; have c2 := h2.c2; have c3 := h2.c3; have c4 := h2.c4; have c5 := h2.c5; have f1 := h2.fz 1; have f2 := h2.fz 2; have f3 := h2.fz 3; have f4 := h2.fz 4; have f5 := h2.fz 5; have rl := h2.lt; have Hh2 := hid h2; clear h2)
    go_wp2_with (go_at_call 31; refine (has_d _ _ _ (by decide)).mono ?_; rintro _ w9 ⟨rfl, rfl⟩; rw [hh])
    refine (set_dk (w.heap.size + 1) false (some ⟨w.heap.size, 0, none⟩) 2 [q, q] _ (by simp)).mono ?_
    rintro _ W ⟨rfl, o, b⟩
    have O := hid o
    have Bb := hid b
    clear o b
    go_wp2_with fail
    go_ret
    rw [HX.out]
    refine one_setD (a2 := some ⟨w.heap.size, 0, none⟩) (c2 := 2) (Own.lit' _ [q, q] _ _ _ (by simp) (by simp) (by simp) (rng_cons hqr (rng_one hqr)) _ rfl rfl) ((((KR.refl r w).drewN _).set _).alloc _) (((Hh2.out.drewN _).set1 (i + 1)).alloc _) (by simp) ?_ Bb.out (by omega) (by omega) hg (by omega)
    simpa using O.out
end Go.Proofs.YtefgjicegbhcaaaGreat
namespace Go.Proofs.YtefgjicegbhcaaaGreat
open Go.RowKit ReM

def itemD (p : List Int) (k i g d : Nat) : Rg :=
  if nx p i = 94 then .ok [nStart] (p.drop (i + 1)) g else if nx p i = 36 then .ok [nEnd] (p.drop (i + 1)) g else thenR p.length (atomI p k i g d)
theorem item_ixD (p : List Int) (k i g d : Nat) (hi : i < p.length) (hk : p.length ≤ k + i + 1) : itemP CC p.length (k + 2) (p.drop i) g d = itemD p k i g d := by
  unfold itemD
  by_cases h94 : nx p i = 94
  · rw [if_pos h94, drop_nx hi, item_def, if_pos h94]
  by_cases h36 : nx p i = 36
  · rw [if_neg h94, if_pos h36, drop_nx hi, item_def, if_neg h94, if_pos h36]
  rw [if_neg h94, if_neg h36]
  exact item_ix p k i g d hi hk h94 h36
theorem grpI_head {p : List Int} {k : Nat} {no : Int} {i g d : Nat} {l : List Rn} {s : List Int} {g' : Nat} (h : grpI p k no i g d = .ok l s g') : ∃ t, l = nGroup no :: t := by
  unfold grpI at h
  split at h
  · cases h
  · split at h
    · cases h; exact ⟨_, rfl⟩
    · cases h
theorem clsI_head {p : List Int} {ng : Bool} {i g : Nat} {l : List Rn} {s : List Int} {g' : Nat} (h : clsI p ng i g = .ok l s g') : ∃ m, l = [nSet ng m] := by
  unfold clsI at h
  split at h
  · cases h
  · cases h; exact ⟨_, rfl⟩
theorem atomI_head {p : List Int} {k i g d : Nat} {l : List Rn} {s : List Int} {g' : Nat} (h : atomI p k i g d = .ok l s g') : ∃ x t, l = x :: t ∧ x.kind ≠ 3 ∧ x.kind ≠ 4 := by
  unfold atomI at h
  have G : ∀ {no : Int} {i g : Nat}, grpI p k no i g d = .ok l s g' → ∃ x t, l = x :: t ∧ x.kind ≠ 3 ∧ x.kind ≠ 4 := fun h => by
    obtain ⟨t, rfl⟩ := grpI_head h; exact ⟨_, t, rfl, by show (5 : Int) ≠ 3; decide, by show (5 : Int) ≠ 4; decide⟩
  have S : ∀ {ng : Bool} {i : Nat}, clsI p ng i g = .ok l s g' → ∃ x t, l = x :: t ∧ x.kind ≠ 3 ∧ x.kind ≠ 4 := fun h => by
    obtain ⟨m, rfl⟩ := clsI_head h; exact ⟨_, [], rfl, by show (2 : Int) ≠ 3; decide, by show (2 : Int) ≠ 4; decide⟩
  repeat' split at h
  all_goals first
    | exact G h
    | exact S h
    | cases h
  all_goals exact ⟨_, [], rfl, by show (2 : Int) ≠ 3; decide, by show (2 : Int) ≠ 4; decide⟩
theorem rns_head {L : List Rm} {x : Rn} {t : List Rn} (h : rns L = x :: t) : 0 < L.length ∧ (rgt L 0).kind = x.kind := by
  cases L with
  | nil => cases h
  | cons m M =>
    rw [rns_cons] at h
    injection h with h1 h2
    exact ⟨by simp, by rw [← h1]; rfl⟩
/-- behind the numbers of a repeat -/
def MidD (res : Rg) (A : List Rn) (B : Nat) (w : World) (r : Nat) (a : Option Addr) (c : Nat) (p : List Int) (j g d N : Nat) (wx : World) : Prop :=
  (∃ lo hi jm, res = finI p A g lo hi jm ∧ j < jm ∧ jm ≤ p.length ∧ NdC wx N 6 0 lo hi false false (.slice none 0 0) ∧ Rdr B wx r a c p jm g d 0 0 ∧ KR r w wx) ∨
  (∃ lo hi jm f, res = .bad 5 f ∧ j < p.length ∧ jm ≤ p.length ∧ NdC wx N 6 0 lo hi false false (.slice none 0 0) ∧ Rdr B wx r a c p jm g d 5 f ∧ KR r w wx)
/-- behind the sign of a lazy repeat -/
def MidE (res : Rg) (A : List Rn) (B : Nat) (w : World) (r : Nat) (a : Option Addr) (c : Nat) (p : List Int) (j g d N : Nat) (wx : World) : Prop :=
  ∃ lo hi z jm e f, NdC wx N 6 0 lo hi z false (.slice none 0 0) ∧ Rdr B wx r a c p jm g d e f ∧ KR r w wx ∧ j < p.length ∧ ((e = 0 ∧ f = 0 ∧ res = .ok (nRep lo hi z :: lower A) (p.drop jm) g ∧ j < jm ∧ jm ≤ p.length) ∨ (e = 5 ∧ res = .bad 5 f ∧ jm ≤ p.length + 1))
theorem thenR_ok (p : List Int) (l : List Rn) (j g : Nat) : thenR p.length (.ok l (p.drop j) g) = repsI p l g j := by
  unfold thenR; dsimp only; rw [reps_ix]
set_option maxRecDepth 20000 in
set_option maxHeartbeats 16000000 in
theorem ditem_c (B : Nat) (w : World) (r : Nat) (a : Option Addr) (c : Nat) (p : List Int) (k i g d : Nat) (h : Rdr B w r a c p i g d 0 0) (hi : i < p.length) (hT : Txt1 p) (hd : d ≤ 12) (hg : g ≤ 9) (hk : 4 * (p.length - i) ≤ k + 2)
    (IH : PatD B r a c p k) :
    Calls Tryz.prog 132 #[.pointer (some ⟨r, 0, none⟩)] w (OutD (itemD p k i g d) B w r a c p i d 2 2) := by
  have hl := hT.1
  have hB := h.Bw
  have hrw : r < w.heap.size := h.lt
  obtain ⟨X, hX⟩ : ∃ X, X = itemD p k i g d := ⟨_, rfl⟩
  rw [← hX]
  have HX := hid hX
  have HA := hid (datom_c B w r a c p k i g d h hi hT hd hg hk IH)
  clear h hX IH
  go_enter Tryz.func132, Tryz.ntmps132
  go_wp2_with fail
  refine HA.out.mono ?_
  rintro e1 w1 hx
  clear HA
  cases hA : atomD p k i g d with
  | bad e f =>
    rw [hA] at hx
    have HXb : Hid (X = .bad e f) := by
      rw [Hid, HX.out]; unfold itemD; unfold atomD at hA
      split at hA
      · cases hA
      · rename_i h94
        split at hA
        · cases hA
        · rename_i h36
          rw [if_neg h94, if_neg h36, hA]; rfl
    obtain ⟨a2, c2, L, j, y, rfl, ho, hs, he, hj, h1, k1⟩ := hx
    have be : (e == 0) = false := by simpa using he
    have HO := hid ho
    have HS := hid hs
    have HE := hid he
    have K1 := hid k1
    clear ho hs he k1 hA
    go_wp2_with fail
    refine (dok_c B _ r a c p j y d e f h1).mono ?_
    rintro _ w2 ⟨rfl, h2, k2⟩
    rw [be]
    have H2 := hid h2
    have K2 := hid k2
    clear h1 h2 k2
    go_wp2_with fail
    go_ret
    rw [HXb.out]
    exact ⟨a2, c2, L, j, y, rfl, HO.out.kr K2.out (by omega), HS.out.mono (by omega) (by omega), HE.out, hj, H2.out, K1.out.tr K2.out⟩
  | ok l s g1 =>
    rw [hA] at hx
    obtain ⟨a2, c2, L, j, rfl, hr2, ho, t2, hj0, hj1, hs, rfl, hg1, h1, k1⟩ := hx
    obtain ⟨kd, hkd⟩ : ∃ kd, kd = (rgt L 0).kind := ⟨_, rfl⟩
    have hcase : ((kd = 3 ∨ kd = 4) ∧ 0 < L.length ∧ X = .ok (rns L) (p.drop j) g1) ∨ (kd ≠ 3 ∧ kd ≠ 4 ∧ 0 < L.length ∧ X = repsI p (rns L) g1 j) := by
      have hx := HX.out
      unfold itemD at hx
      unfold atomD at hA
      split at hA
      · rename_i h94
        rw [if_pos h94] at hx
        have hq := hr2
        injection hA with e1 e2 e3
        rw [← e1] at hq
        obtain ⟨q1, q2⟩ := rns_head hq
        exact .inl ⟨.inl (hkd.trans q2), q1, by rw [hx, e2, e3, hr2, e1]⟩
      · rename_i h94
        rw [if_neg h94] at hx
        split at hA
        · rename_i h36
          rw [if_pos h36] at hx
          have hq := hr2
          injection hA with e1 e2 e3
          rw [← e1] at hq
          obtain ⟨q1, q2⟩ := rns_head hq
          exact .inl ⟨.inr (hkd.trans q2), q1, by rw [hx, e2, e3, hr2, e1]⟩
        · rename_i h36
          rw [if_neg h36, hA, thenR_ok] at hx
          obtain ⟨x, t, hl2, q3, q4⟩ := atomI_head hA
          rw [hl2] at hr2
          obtain ⟨q1, q2⟩ := rns_head hr2
          rw [hl2, ← hr2] at hx
          exact .inr ⟨by rw [hkd, q2]; exact q3, by rw [hkd, q2]; exact q4, q1, hx⟩
    have HO := hid ho
    have HS := hid hs
    have HT := hid t2
    have K1 := hid k1
    have hln := hs.len
    clear ho hs t2 k1 hA hr2 HX
    go_wp2_with fail
    refine (dok_c B _ r a c p j g1 d 0 0 h1).mono ?_
    rintro _ w2 ⟨rfl, h2, k2⟩
    have H2 := hid h2
    have K2 := hid (K1.out.tr k2)
    have O2 := hid (HO.out.kr k2 (by omega))
    have T2 := hid (HT.out.kr k2 (by omega))
    clear h1 h2 k2 K1 HO HT
    rcases hcase with ⟨hk34, hL0, hXe⟩ | ⟨hk3, hk4, hL0, hXe⟩
    · obtain ⟨b, o, rfl, r1⟩ := (O2.out.sl).rc1 hL0
      have x0 := (rec_re r1).1
      rw [← hkd] at x0
      simp only [Nat.zero_mul, Nat.add_zero] at x0
      have HXe := hid hXe
      have zL : (0 : Int) < (L.length : Int) := by omega
      clear r1 hkd hXe
      rcases hk34 with rfl | rfl
      all_goals
        go_wp2_with fail
        go_ret
        rw [HXe.out]
        exact ⟨_, c2, L, j, rfl, rfl, O2.out, T2.out, by omega, by omega, HS.out.mono (by omega) (by omega), rfl, hg1, H2.out, K2.out⟩
    · obtain ⟨b, o, hab, r1⟩ := (O2.out.sl).rc1 hL0
      have x0 := (rec_re r1).1
      rw [← hkd] at x0
      simp only [Nat.zero_mul, Nat.add_zero] at x0
      have HXe := hid hXe
      have Hab := hid hab
      have zL : (0 : Int) < (L.length : Int) := by omega
      have b3 : (kd == 3) = false := by simpa using hk3
      have b4 : (kd == 4) = false := by simpa using hk4
      clear r1 hkd hXe hk3 hk4
      rw [hab]
      clear hab
      go_upto_region 4 with fail
      clear x0 b3 b4 zL
      rw [← Hab.out]
      obtain ⟨V, hV⟩ : ∃ V, V = w2.alloc (.cells #[.int .i64 6, .int .i64 0, .int .i64 0, .int .i64 0, .bool false, .bool false, .slice none 0 0] 128) := ⟨_, rfl⟩
      have nn : NdC V w2.heap.size 6 0 0 0 false false (.slice none 0 0) := by subst hV; exact NdC.new _ _ _ _ _ _ _ _ _ _ rfl
      have HV : Hid (Rdr B V r a c p j g1 d 0 0) := by subst hV; exact H2.out.alloc _
      have KV : Hid (KR r w2 V) := by subst hV; exact (KR.refl _ _).alloc _
      have NN := hid nn
      clear nn
      have hz := KV.out.size
      have z2 := K2.out.size
      go_wp2_with fail
      rw [← hV]
      refine (dnext_c B V r a c p j g1 d 0 0 HV.out).mono ?_
      rintro _ w3 ⟨rfl, h3, k3⟩
      have zV : V.heap.size = w2.heap.size + 1 := by rw [hV]; simp
      have K3 := hid (KV.out.tr k3)
      have nq := NN.out.kpt k3 (by omega)
      have zk := k3.size
      clear hV H2 HV KV NN k3 Hab
      obtain ⟨q2, hq2⟩ : ∃ q2, q2 = nx p j := ⟨_, rfl⟩
      have HQ2 := hid hq2
      have W1 : IntKind.i64.wrap ((j : Int) + 1) = ((j + 1 : Nat) : Int) := by rw [IntKind.wrap_i64]; omega
      rw [← hq2]
      clear hq2
      go_upto_block 0 with fail
      go_cut [] (fun wx => MidD X (rns L) B w2 r a c p j g1 d w2.heap.size wx)
      case first =>
        by_cases h43 : q2 = 43
        · have hjl := nx_is (HQ2.out.symm.trans h43) (by decide)
          have eR := hid (show X = finI p (rns L) g1 1 (-1) (j + 1) by rw [HXe.out]; unfold repsI; rw [← HQ2.out, if_pos h43])
          subst h43
          have HN := hid nq
          (have c0 := h3.c0; have c1 := h3.c1; have c2 := h3.c2; have c3 := h3.c3; have c4 := h3.c4; have c5 := h3.c5; have f1 := h3.fz 1; have f2 := h3.fz 2; have f3 := h3.fz 3; have f4 := h3.fz 4; have f5 := h3.fz 5; have rl := h3.lt; have Hh3 := hid h3; clear h3)
          (have n0 := nq.c0; have n1 := nq.c1; have n2 := nq.c2; have n3 := nq.c3; have n4 := nq.c4; have n5 := nq.c5; have n6 := nq.c6; have nf0 := nq.fz 0; have nf1 := nq.fz 1; have nf2 := nq.fz 2; have nf3 := nq.fz 3; have nf4 := nq.fz 4; have nf5 := nq.fz 5; have nf6 := nq.fz 6; have nz := nq.lt; clear nq)
          go_wp2_with fail
          go_meet
          exact .inl ⟨1, -1, j + 1, eR.out, by omega, by omega, ((HN.out.set2 (1)).set3 (-1)).kpt ((KR.refl r _).set _) (by omega), ((Hh3.out.setOff _ _ (by omega) _).setOff _ _ (by omega) _).set1 (j + 1), ((K3.out.setN _ _ (by omega) _).setN _ _ (by omega) _).set _⟩
        by_cases h42 : q2 = 42
        · have hjl := nx_is (HQ2.out.symm.trans h42) (by decide)
          have eR := hid (show X = finI p (rns L) g1 0 (-1) (j + 1) by rw [HXe.out]; unfold repsI; rw [← HQ2.out, if_neg h43, if_pos h42])
          subst h42
          have HN := hid nq
          (have c0 := h3.c0; have c1 := h3.c1; have c2 := h3.c2; have c3 := h3.c3; have c4 := h3.c4; have c5 := h3.c5; have f1 := h3.fz 1; have f2 := h3.fz 2; have f3 := h3.fz 3; have f4 := h3.fz 4; have f5 := h3.fz 5; have rl := h3.lt; have Hh3 := hid h3; clear h3)
          (have n0 := nq.c0; have n1 := nq.c1; have n2 := nq.c2; have n3 := nq.c3; have n4 := nq.c4; have n5 := nq.c5; have n6 := nq.c6; have nf0 := nq.fz 0; have nf1 := nq.fz 1; have nf2 := nq.fz 2; have nf3 := nq.fz 3; have nf4 := nq.fz 4; have nf5 := nq.fz 5; have nf6 := nq.fz 6; have nz := nq.lt; clear nq)
          go_wp2_with fail
          go_meet
          exact .inl ⟨0, -1, j + 1, eR.out, by omega, by omega, (HN.out.set3 (-1)).kpt ((KR.refl r _).set _) (by omega), (Hh3.out.setOff _ _ (by omega) _).set1 (j + 1), (K3.out.setN _ _ (by omega) _).set _⟩
        by_cases h63 : q2 = 63
        · have hjl := nx_is (HQ2.out.symm.trans h63) (by decide)
          have eR := hid (show X = finI p (rns L) g1 0 (1) (j + 1) by rw [HXe.out]; unfold repsI; rw [← HQ2.out, if_neg h43, if_neg h42, if_pos h63])
          subst h63
          have HN := hid nq
          (have c0 := h3.c0; have c1 := h3.c1; have c2 := h3.c2; have c3 := h3.c3; have c4 := h3.c4; have c5 := h3.c5; have f1 := h3.fz 1; have f2 := h3.fz 2; have f3 := h3.fz 3; have f4 := h3.fz 4; have f5 := h3.fz 5; have rl := h3.lt; have Hh3 := hid h3; clear h3)
          (have n0 := nq.c0; have n1 := nq.c1; have n2 := nq.c2; have n3 := nq.c3; have n4 := nq.c4; have n5 := nq.c5; have n6 := nq.c6; have nf0 := nq.fz 0; have nf1 := nq.fz 1; have nf2 := nq.fz 2; have nf3 := nq.fz 3; have nf4 := nq.fz 4; have nf5 := nq.fz 5; have nf6 := nq.fz 6; have nz := nq.lt; clear nq)
          go_wp2_with fail
          go_meet
          exact .inl ⟨0, 1, j + 1, eR.out, by omega, by omega, (HN.out.set3 (1)).kpt ((KR.refl r _).set _) (by omega), (Hh3.out.setOff _ _ (by omega) _).set1 (j + 1), (K3.out.setN _ _ (by omega) _).set _⟩
        by_cases h123 : q2 = 123
        · have hjl := nx_is (HQ2.out.symm.trans h123) (by decide)
          have eR := hid (show X = (match timesI p j with | .ok lo hi j' => finI p (rns L) g1 lo hi j' | .bad k => .bad 5 k) by rw [HXe.out]; unfold repsI; rw [← HQ2.out, if_neg h43, if_neg h42, if_neg h63, if_pos h123]; cases timesI p j <;> rfl)
          subst h123
          clear h43 h42 h63
          have Tm := hid (dtimes_c B w3 r a c p j g1 d h3 hjl hl)
          go_wp2_with fail
          refine Tm.out.mono ?_
          clear Tm
          rintro e4 w4 hx
          cases hT : timesI p j with
          | ok lo hi j' =>
            have hj' := times_at hT hjl
            rw [hT] at hx
            obtain ⟨rfl, h4, k4⟩ := hx
            have eR2 := hid (show X = finI p (rns L) g1 lo hi j' by rw [eR.out, hT])
            have nr := nq.kpt k4 (by omega)
            have H4 := hid h4
            have K4 := hid (K3.out.tr k4)
            have N4 := hid nr
            clear h4 k4 hT nq h3
            (have n0 := nr.c0; have n1 := nr.c1; have n2 := nr.c2; have n3 := nr.c3; have n4 := nr.c4; have n5 := nr.c5; have n6 := nr.c6; have nf0 := nr.fz 0; have nf1 := nr.fz 1; have nf2 := nr.fz 2; have nf3 := nr.fz 3; have nf4 := nr.fz 4; have nf5 := nr.fz 5; have nf6 := nr.fz 6; have nz := nr.lt; clear nr)
            go_wp2_with fail
            go_meet
            exact .inl ⟨lo, hi, j', eR2.out, by omega, by omega, (N4.out.set2 lo).set3 hi, (H4.out.setOff _ _ (by omega) _).setOff _ _ (by omega) _, (K4.out.setN _ _ (by omega) _).setN _ _ (by omega) _⟩
          | bad k =>
            rw [hT] at hx
            obtain ⟨lo, hi, j', rfl, hj', h4, k4⟩ := hx
            have eR2 := hid (show X = .bad 5 k by rw [eR.out, hT])
            have nr := nq.kpt k4 (by omega)
            have H4 := hid h4
            have K4 := hid (K3.out.tr k4)
            have N4 := hid nr
            clear h4 k4 hT nq h3
            (have n0 := nr.c0; have n1 := nr.c1; have n2 := nr.c2; have n3 := nr.c3; have n4 := nr.c4; have n5 := nr.c5; have n6 := nr.c6; have nf0 := nr.fz 0; have nf1 := nr.fz 1; have nf2 := nr.fz 2; have nf3 := nr.fz 3; have nf4 := nr.fz 4; have nf5 := nr.fz 5; have nf6 := nr.fz 6; have nz := nr.lt; clear nr)
            go_wp2_with fail
            go_meet
            exact .inr ⟨lo, hi, j', k, eR2.out, hjl, hj', (N4.out.set2 lo).set3 hi, (H4.out.setOff _ _ (by omega) _).setOff _ _ (by omega) _, (K4.out.setN _ _ (by omega) _).setN _ _ (by omega) _⟩
        have eR := hid (show X = .ok (rns L) (p.drop j) g1 by rw [HXe.out]; unfold repsI; rw [← HQ2.out, if_neg h43, if_neg h42, if_neg h63, if_neg h123])
        have b1 : (q2 == 43) = false := by simpa using h43
        have b2 : (q2 == 42) = false := by simpa using h42
        have b3 : (q2 == 63) = false := by simpa using h63
        have b4 : (q2 == 123) = false := by simpa using h123
        have H3 := hid h3
        clear h43 h42 h63 h123 h3 nq
        go_wp2_with fail
        go_ret
        rw [eR.out]
        exact ⟨a2, c2, L, j, rfl, rfl, O2.out.kr K3.out (by omega), T2.out.kr K3.out (by omega), hj0, hj1, HS.out.mono (by omega) (by omega), rfl, hg1, H3.out, K2.out.tr K3.out⟩
      case rest =>
        rename World => w4
        obtain ⟨lo, hi, jm, e, f, nq, h4, k4, hjl, hjm, hres⟩ : ∃ lo hi jm e f, NdC w4 w2.heap.size 6 0 lo hi false false (.slice none 0 0) ∧ Rdr B w4 r a c p jm g1 d e f ∧ KR r w2 w4 ∧ j < p.length ∧ jm ≤ p.length ∧ ((e = 0 ∧ f = 0 ∧ X = finI p (rns L) g1 lo hi jm ∧ j < jm) ∨ (e = 5 ∧ X = .bad 5 f)) := by
          rcases hcut with ⟨lo, hi, jm, h1, h2, h3, h4, h5, h6⟩ | ⟨lo, hi, jm, f, h1, h2, h3, h4, h5, h6⟩
          · exact ⟨lo, hi, jm, 0, 0, h4, h5, h6, by omega, h3, .inl ⟨rfl, rfl, h1, h2⟩⟩
          · exact ⟨lo, hi, jm, 5, f, h4, h5, h6, h2, h3, .inr ⟨rfl, h1⟩⟩
        have HRes := hid hres
        have K4 := hid k4
        have W2 : IntKind.i64.wrap ((jm : Int) + 1) = ((jm + 1 : Nat) : Int) := by rw [IntKind.wrap_i64]; omega
        have z4 := k4.size
        clear hcut hres k4
        go_wp2_with fail
        refine (dnext_c B w4 r a c p jm g1 d e f h4).mono ?_
        rintro _ w5 ⟨rfl, h5, k5⟩
        have K5 := hid (K4.out.tr k5)
        have N5 := hid (nq.kpt k5 (by omega))
        clear h4 nq k5 K4
        obtain ⟨q3, hq3⟩ : ∃ q3, q3 = nx p jm := ⟨_, rfl⟩
        have HQ3 := hid hq3
        rw [← hq3]
        clear hq3
        go_upto_if 71 with fail
        go_cut [] (fun wx => MidE X (rns L) B w2 r a c p j g1 d w2.heap.size wx)
        case first =>
          by_cases h63 : q3 = 63
          · have hjl2 := nx_is (HQ3.out.symm.trans h63) (by decide)
            have eR : (e = 0 ∧ f = 0 ∧ X = .ok (nRep lo hi true :: lower (rns L)) (p.drop (jm + 1)) g1 ∧ j < jm + 1 ∧ jm + 1 ≤ p.length) ∨ (e = 5 ∧ X = .bad 5 f ∧ jm + 1 ≤ p.length + 1) := by
              rcases HRes.out with ⟨h1, h2, h3, h4⟩ | ⟨h1, h2⟩
              · refine .inl ⟨h1, h2, ?_, by omega, by omega⟩
                rw [h3]; unfold finI; rw [← HQ3.out, if_pos h63]
              · exact .inr ⟨h1, h2, by omega⟩
            have ER := hid eR
            subst h63
            clear eR
            have nq := N5.out
            (have c0 := h5.c0; have c1 := h5.c1; have c2 := h5.c2; have c3 := h5.c3; have c4 := h5.c4; have c5 := h5.c5; have f1 := h5.fz 1; have f2 := h5.fz 2; have f3 := h5.fz 3; have f4 := h5.fz 4; have f5 := h5.fz 5; have rl := h5.lt; have Hh5 := hid h5; clear h5)
            (have n0 := nq.c0; have n1 := nq.c1; have n2 := nq.c2; have n3 := nq.c3; have n4 := nq.c4; have n5 := nq.c5; have n6 := nq.c6; have nf0 := nq.fz 0; have nf1 := nq.fz 1; have nf2 := nq.fz 2; have nf3 := nq.fz 3; have nf4 := nq.fz 4; have nf5 := nq.fz 5; have nf6 := nq.fz 6; have nz := nq.lt; clear nq)
            go_wp2_with fail
            go_meet
            exact ⟨lo, hi, true, jm + 1, e, f, (N5.out.set4 true).kpt ((KR.refl r _).set _) (by omega), (Hh5.out.setOff _ _ (by omega) _).set1 (jm + 1), (K5.out.setN _ _ (by omega) _).set _, hjl, ER.out⟩
          · have eR : (e = 0 ∧ f = 0 ∧ X = .ok (nRep lo hi false :: lower (rns L)) (p.drop jm) g1 ∧ j < jm ∧ jm ≤ p.length) ∨ (e = 5 ∧ X = .bad 5 f ∧ jm ≤ p.length + 1) := by
              rcases HRes.out with ⟨h1, h2, h3, h4⟩ | ⟨h1, h2⟩
              · refine .inl ⟨h1, h2, ?_, h4, hjm⟩
                rw [h3]; unfold finI; rw [← HQ3.out, if_neg h63]
              · exact .inr ⟨h1, h2, by omega⟩
            have ER := hid eR
            have b1 : (q3 == 63) = false := by simpa using h63
            have H5 := hid h5
            clear eR h63 h5
            go_wp2_with fail
            go_meet
            exact ⟨lo, hi, false, jm, e, f, N5.out, H5.out, K5.out, hjl, ER.out⟩
        case rest =>
          rename World => w8
          obtain ⟨lo, hi, z, jm', e', f', n8, h8, k8, -, hres⟩ := hcut
          have HR8 := hid h8
          have HK8 := hid k8
          have HRes := hid hres
          have z8 := k8.size
          have HO8 := hid (O2.out.kr k8 (by omega))
          have HT8 := hid (T2.out.kr k8 (by omega))
          obtain ⟨m, hm⟩ : ∃ m : Rm, m = ⟨6, 0, lo, hi, z, false, none, [], 0⟩ := ⟨_, rfl⟩
          have Hm := hid hm
          have n9 : NdC w8 w2.heap.size m.kind m.deep m.lo m.hi m.lazy m.not (.slice m.sa m.set.length m.sc) := by rw [hm]; exact n8
          clear hm n8 h8 k8 hres O2 T2 HQ2
          (have n0 := n9.c0; have n1 := n9.c1; have n2 := n9.c2; have n3 := n9.c3; have n4 := n9.c4; have n5 := n9.c5; have n6 := n9.c6; have nf0 := n9.fz 0; have nf1 := n9.fz 1; have nf2 := n9.fz 2; have nf3 := n9.fz 3; have nf4 := n9.fz 4; have nf5 := n9.fz 5; have nf6 := n9.fz 6; have nz := n9.lt; clear n9)
          have LC := hid (lower_d w.heap.size (some ⟨w8.heap.size, 0, none⟩) a2 1 c2 [m] L (w8.alloc (.cells #[.int .i64 m.kind, .int .i64 m.deep, .int .i64 m.lo, .int .i64 m.hi, .bool m.lazy, .bool m.not, .slice m.sa m.set.length m.sc] 128)) (ROwn.one Tryz.tyRe m _ _ rfl (by omega) _ rfl) (HO8.out.sl.alloc _) (fun ad had hb => by
            obtain ⟨ae, hae, hbb⟩ := hb
            cases hae
            have := (HO8.out.lt ⟨ad, had, rfl⟩).2
            have hbb' : w8.heap.size = ad.block := hbb
            omega) (by simp; omega) (HS.out.mono (by omega) (by omega)) (by simp))
          go_wp2_with (go_at_call 114; refine LC.out.mono ?_)
          rintro _ w9 ⟨a9, c9, L9, rfl, hL9, o9, k9, -⟩
          have b9 : Below w8.heap.size w8 w9 := ((Below.refl _ _).alloc (Nat.le_refl _) _).trans (k9.below (fun q hq => by obtain ⟨ae, hae, hbb⟩ := hq; cases hae; exact Nat.le_of_eq hbb) (by simp))
          have H9 := hid o9
          have HL9 := hid hL9
          have B9 := hid b9
          clear o9 k9 b9 hL9 LC
          go_wp2_with fail
          go_ret
          rcases HRes.out with ⟨rfl, rfl, h1, h2, h3⟩ | ⟨rfl, h1, h3⟩
          · rw [h1]
            refine ⟨a9, c9, L9, jm', rfl, ?_, H9.out, ?_, by omega, h3, ?_, rfl, hg1, HR8.out.bel B9.out, (K2.out.tr HK8.out).thn B9.out⟩
            · rw [HL9.out.out, rns_app, rns_low, Hm.out]; rfl
            · rw [HL9.out.out]
              exact (((HT8.out.bel B9.out)).low).cons0 (m := m) (by rw [Hm.out]) (by rw [Hm.out]) (by rw [Hm.out])
            · rw [HL9.out.out]
              exact ((Sml.one (4 * (p.length - i) + 2 - 2) (by rw [Hm.out])).app ((HS.out.low).mono (Nat.le_refl _) (by omega))).mono (by omega) (Nat.le_refl _)
          · rw [h1]
            refine ⟨a9, c9, L9, jm', _, rfl, H9.out, ?_, by decide, by omega, HR8.out.bel B9.out, (K2.out.tr HK8.out).thn B9.out⟩
            rw [HL9.out.out]
            exact ((Sml.one (4 * (p.length - i) + 2 - 2) (by rw [Hm.out])).app ((HS.out.low).mono (Nat.le_refl _) (by omega))).mono (by omega) (Nat.le_refl _)
end Go.Proofs.YtefgjicegbhcaaaGreat
namespace Go.Proofs.YtefgjicegbhcaaaGreat
open Go.RowKit ReM

theorem dnext_q (q : Int) (B : Nat) (w : World) (r : Nat) (a : Option Addr) (c : Nat) (p : List Int) (i x y : Nat) (e f : Int) (hq : nx p i = q) (h : Rdr B w r a c p i x y e f) :
    Calls Tryz.prog 113 #[.pointer (some ⟨r, 0, none⟩)] w fun e' w' => e' = .returned (.int .i32 q) ∧ Rdr B w' r a c p i x y e f ∧ KR r w w' := by
  subst hq; exact dnext_c B w r a c p i x y e f h
theorem dok_no (B : Nat) (w : World) (r : Nat) (a : Option Addr) (c : Nat) (p : List Int) (i x y : Nat) (e f : Int) (he : e ≠ 0) (h : Rdr B w r a c p i x y e f) :
    Calls Tryz.prog 84 #[.pointer (some ⟨r, 0, none⟩)] w fun e' w' => e' = .returned (.bool false) ∧ Rdr B w' r a c p i x y e f ∧ KR r w w' := by
  have be : (e == 0) = false := by simpa using he
  rw [← be]; exact dok_c B w r a c p i x y e f h
theorem dok_yes (B : Nat) (w : World) (r : Nat) (a : Option Addr) (c : Nat) (p : List Int) (i x y : Nat) (f : Int) (h : Rdr B w r a c p i x y 0 f) :
    Calls Tryz.prog 84 #[.pointer (some ⟨r, 0, none⟩)] w fun e' w' => e' = .returned (.bool true) ∧ Rdr B w' r a c p i x y 0 f ∧ KR r w w' :=
  dok_c B w r a c p i x y 0 f h
theorem itemD_lt {p : List Int} {k j g d : Nat} {l : List Rn} {s : List Int} {g' : Nat} (h : itemD p k j g d = .ok l s g') (hj : j < p.length) : s.length < p.length - j := by
  unfold itemD at h
  split at h
  · cases h; simp only [List.length_drop]; omega
  · split at h
    · cases h; simp only [List.length_drop]; omega
    · unfold thenR at h
      cases hA : atomI p k j g d with
      | bad c f => rw [hA] at h; cases h
      | ok l1 s1 g1 =>
        rw [hA] at h
        have h1 := atom_lt hA hj
        have h2 := reps_len h
        omega
/-- what holds among a row's items -/
def RowD (X : Rg) (B : Nat) (w : World) (r : Nat) (a : Option Addr) (c : Nat) (p : List Int) (K i d : Nat) (gk : Nat) (v : Value) (wr : World) : Prop :=
  (∃ K' j gj M aM cM acc, gk = p.length - j + 1 ∧ v = .slice aM M.length cM ∧ i ≤ j ∧ j ≤ p.length ∧ gj ≤ 9 ∧ 4 * (p.length - j) + 1 ≤ K' ∧ K' ≤ K ∧ rns M = nRow :: acc ∧ Hid (X = rowR (rowP CC p.length K' acc (p.drop j) gj d)) ∧
    Hid (RO wr w.heap.size aM cM M) ∧ Hid (Sets w.heap.size wr M) ∧ Hid (Sml (4 * (j - i) + 1) (4 * (p.length - i) + 1) M) ∧ Hid (Rdr B wr r a c p j gj d 0 0) ∧ Hid (KR r w wr)) ∨
  (∃ M aM cM e f j y, gk = 0 ∧ v = .slice aM M.length cM ∧ Hid (X = .bad e f) ∧ e ≠ 0 ∧ Hid (RO wr w.heap.size aM cM M) ∧ Hid (Sml (4 * (p.length - i) + 1) (4 * (p.length - i) + 1) M) ∧ j + d ≤ p.length + 20 ∧ Hid (Rdr B wr r a c p j y d e f) ∧ Hid (KR r w wr))
theorem row_end {X : Rg} {B : Nat} {w wr w' : World} {r : Nat} {a : Option Addr} {c : Nat} {p : List Int} {i j gj d : Nat} {M : List Rm} {aM : Option Addr} {cM : Nat} {acc : List Rn} (hrw : r < w.heap.size) (hij : i ≤ j) (hj : j ≤ p.length) (hg : gj ≤ 9) (hM : rns M = nRow :: acc) (hX : X = .ok (nRow :: acc) (p.drop j) gj)
    (ho : RO wr w.heap.size aM cM M) (hS : Sets w.heap.size wr M) (hs : Sml (4 * (j - i) + 1) (4 * (p.length - i) + 1) M) (hk : KR r w wr) (k : KR r wr w') (hr : Rdr B w' r a c p j gj d 0 0) :
    OutD X B w r a c p i d 3 3 (.returned (.slice aM M.length cM)) w' := by
  rw [hX]
  exact ⟨aM, cM, M, j, rfl, hM, ho.kr k hrw, hS.kr k hrw, hij, hj, hs.mono (by omega) (by omega), rfl, hg, hr, hk.tr k⟩
/-- an item's list behind the row's -/
theorem row_add {B : Nat} {w wr w1 w2 w3 : World} {r : Nat} {a : Option Addr} {c : Nat} {p : List Int} {j2 d gj : Nat} {M : List Rm} {aM : Option Addr} {cM : Nat} {e f : Int} (hB : B ≤ w.heap.size) (hk : KR r w wr) (k1 : KR r wr w1) (k2 : KR r w1 w2) (k3 : Kpt (Blk aM) w2 w3)
    (ho : RO wr w.heap.size aM cM M) (hr : Rdr B w2 r a c p j2 gj d e f) :
    Rdr B w3 r a c p j2 gj d e f ∧ KR r w w3 :=
  ⟨hr.kpt k3 (fun q hq => by have := (ho.lt hq).1; omega), Kpt.step ((hk.tr k1).tr k2) k3 (fun q hq => .inr (ho.lt hq).1)⟩
set_option maxRecDepth 20000 in
set_option maxHeartbeats 16000000 in
theorem drow_c (B : Nat) (w : World) (r : Nat) (a : Option Addr) (c : Nat) (p : List Int) (K i g d : Nat) (h : Rdr B w r a c p i g d 0 0) (hi : i ≤ p.length) (hT : Txt1 p) (hd : d ≤ 12) (hg : g ≤ 9) (hK : 4 * (p.length - i) + 1 ≤ K)
    (IH : ∀ k, k < K → PatD B r a c p k) :
    Calls Tryz.prog 112 #[.pointer (some ⟨r, 0, none⟩)] w (OutD (rowR (rowP CC p.length K [] (p.drop i) g d)) B w r a c p i d 3 3) := by
  have hl := hT.1
  have hB := h.Bw
  have hrw : r < w.heap.size := h.lt
  obtain ⟨X, hX⟩ : ∃ X, X = rowR (rowP CC p.length K [] (p.drop i) g d) := ⟨_, rfl⟩
  rw [← hX]
  have HI := hid IH
  have R0 := hid (show RowD X B w r a c p K i d (p.length - i + 1) (.slice (some ⟨w.heap.size, 0, none⟩) 1 1) (w.alloc (.cells #[.int .i64 0, .int .i64 0, .int .i64 0, .int .i64 0, .bool false, .bool false, .slice none 0 0] 128)) from
    .inl ⟨K, i, g, [⟨0, 0, 0, 0, false, false, none, [], 0⟩], _, _, [], rfl, rfl, Nat.le_refl _, hi, hg, hK, Nat.le_refl _, rfl, hid hX, hid (ROwn.one Tryz.tyRe _ _ _ rfl (Nat.le_refl _) _ rfl), hid ((Sets.nil _ _).cons0 rfl rfl rfl), hid ((Sml.one _ rfl).mono (by omega) (Nat.le_refl _)), hid (h.alloc _), hid ((KR.refl _ _).alloc _)⟩)
  clear IH hX h
  go_enter Tryz.func112, Tryz.ntmps112
  go_wp2_with fail
  go_loopg [3] (p.length - i + 1) (fun gk v wr => RowD X B w r a c p K i d gk v wr)
  case atStart => exact R0.out
  case round =>
    clear R0
    rcases hrel with ⟨K', j, gj, M, aM, cM, acc, rfl, rfl, hij, hj, hgj, hK1, hK2, hacc, HX, HO, HS, Hs, HR, HK⟩ | ⟨M, aM, cM, e, f, j, y, rfl, rfl, HX, he, HO, Hs, hjd, HR, HK⟩
    · obtain ⟨k2, rfl⟩ : ∃ k2, K' = k2 + 1 := ⟨K' - 1, by omega⟩
      have hz := HK.out.size
      by_cases hstop : nx p j = 124 ∨ nx p j = 41 ∨ p.length ≤ j
      · have HX2 := hid (HX.out.trans (by rw [row_stop p k2 acc j gj d hstop]; rfl : _ = Rg.ok (nRow :: acc) (p.drop j) gj))
        have hq : nx p j = 124 ∨ nx p j = 41 ∨ nx p j = -1 := by
          rcases hstop with h | h | h
          · exact .inl h
          · exact .inr (.inl h)
          · exact .inr (.inr (nx_end h))
        clear hstop HI HX
        rcases hq with hq | hq | hq
        · have HQ := hid hq
          clear hq
          go_wp2_with fail; refine (dok_yes B _ r a c p j gj d 0 HR.out).mono ?_; rintro _ w1 ⟨rfl, h1, k1⟩; have H1 := hid h1; have K1 := hid k1; clear h1 k1
          go_wp2_with fail; refine (dnext_q 124 B _ r a c p j gj d 0 0 HQ.out H1.out).mono ?_; rintro _ w2 ⟨rfl, h2, k2⟩; have H2 := hid h2; have K2 := hid k2; clear h2 k2
          go_wp2_with fail; refine (dnext_q 124 B _ r a c p j gj d 0 0 HQ.out H2.out).mono ?_; rintro _ w3 ⟨rfl, h3, k3⟩; have H3 := hid h3; have K3 := hid k3; clear h3 k3
          go_wp2_with fail
          go_ret
          exact row_end hrw hij hj hgj hacc HX2.out HO.out HS.out Hs.out HK.out ((K1.out.tr K2.out).tr K3.out) H3.out
        · have HQ := hid hq
          clear hq
          go_wp2_with fail; refine (dok_yes B _ r a c p j gj d 0 HR.out).mono ?_; rintro _ w1 ⟨rfl, h1, k1⟩; have H1 := hid h1; have K1 := hid k1; clear h1 k1
          go_wp2_with fail; refine (dnext_q 41 B _ r a c p j gj d 0 0 HQ.out H1.out).mono ?_; rintro _ w2 ⟨rfl, h2, k2⟩; have H2 := hid h2; have K2 := hid k2; clear h2 k2
          go_wp2_with fail; refine (dnext_q 41 B _ r a c p j gj d 0 0 HQ.out H2.out).mono ?_; rintro _ w3 ⟨rfl, h3, k3⟩; have H3 := hid h3; have K3 := hid k3; clear h3 k3
          go_wp2_with fail; refine (dnext_q 41 B _ r a c p j gj d 0 0 HQ.out H3.out).mono ?_; rintro _ w4 ⟨rfl, h4, k4⟩; have H4 := hid h4; have K4 := hid k4; clear h4 k4
          go_wp2_with fail
          go_ret
          exact row_end hrw hij hj hgj hacc HX2.out HO.out HS.out Hs.out HK.out (((K1.out.tr K2.out).tr K3.out).tr K4.out) H4.out
        · have HQ := hid hq
          clear hq
          go_wp2_with fail; refine (dok_yes B _ r a c p j gj d 0 HR.out).mono ?_; rintro _ w1 ⟨rfl, h1, k1⟩; have H1 := hid h1; have K1 := hid k1; clear h1 k1
          go_wp2_with fail; refine (dnext_q (-1) B _ r a c p j gj d 0 0 HQ.out H1.out).mono ?_; rintro _ w2 ⟨rfl, h2, k2⟩; have H2 := hid h2; have K2 := hid k2; clear h2 k2
          go_wp2_with fail
          go_ret
          exact row_end hrw hij hj hgj hacc HX2.out HO.out HS.out Hs.out HK.out (K1.out.tr K2.out) H2.out
      · have hjl : j < p.length := by omega
        obtain ⟨k3, rfl⟩ : ∃ k3, k2 = k3 + 2 := ⟨k2 - 2, by omega⟩
        have hX2 := HX.out
        rw [row_item p (k3 + 2) acc j gj d hjl (by omega) (by omega), item_ixD p k3 j gj d hjl (by omega)] at hX2
        have HX2 := hid hX2
        obtain ⟨q, hq⟩ : ∃ q, q = nx p j := ⟨_, rfl⟩
        have b1 : (q != 124) = true := by simp; omega
        have b2 : (q != 41) = true := by simp; omega
        have hge := hT.nxp hjl
        have b3 : decide ((0 : Int) ≤ q) = true := decide_eq_true (by omega)
        have HQ := hid hq.symm
        have CI := hid (fun w' h' => ditem_c B w' r a c p k3 j gj d h' hjl hT hd hgj (by omega) (HI.out k3 (by omega)))
        clear hq hge hstop HI HX hX2
        go_wp2_with fail; refine (dok_yes B _ r a c p j gj d 0 HR.out).mono ?_; rintro _ w1 ⟨rfl, h1, k1⟩; have H1 := hid h1; have K1 := hid k1; clear h1 k1
        go_wp2_with fail; refine (dnext_q q B _ r a c p j gj d 0 0 HQ.out H1.out).mono ?_; rintro _ w2 ⟨rfl, h2, k2⟩; have H2 := hid h2; have K2 := hid k2; clear h2 k2
        go_wp2_with fail; refine (dnext_q q B _ r a c p j gj d 0 0 HQ.out H2.out).mono ?_; rintro _ w3 ⟨rfl, h3, k3⟩; have H3 := hid h3; have K3 := hid k3; clear h3 k3
        go_wp2_with fail; refine (dnext_q q B _ r a c p j gj d 0 0 HQ.out H3.out).mono ?_; rintro _ w4 ⟨rfl, h4, k4⟩; have H4 := hid h4; have K4 := hid k4; clear h4 k4
        have K14 := hid (((K1.out.tr K2.out).tr K3.out).tr K4.out)
        clear K1 K2 K3 K4 H1 H2 H3
        go_wp2_with fail
        refine (CI.out _ H4.out).mono ?_
        rintro e5 w5 hx
        clear CI b1 b2 b3
        cases hA : itemD p k3 j gj d with
        | bad e f =>
          rw [hA] at hx
          obtain ⟨a5, c5, L5, j5, y5, rfl, o5, s5, he, hj5, h5, k5⟩ := hx
          have HX3 := hid (show X = .bad e f by rw [HX2.out, hA]; rfl)
          have H5 := hid h5
          have K5 := hid k5
          have S5 := hid s5
          have z4 := K14.out.size
          have z5 := k5.size
          have hls := Hs.out.len
          have LC := hid (lower_d w.heap.size aM a5 cM c5 M L5 w5 ((HO.out.kr K14.out (by omega)).kr k5 (by omega)) o5.sl (fun ad had hb => by
            have h1 := (HO.out.lt hb).2
            have h2 := (o5.lt ⟨ad, had, rfl⟩).1
            omega) (by omega) (S5.out.mono (by omega) (by omega)) (by omega))
          clear o5 s5 h5 k5 hA
          go_wp2_with (go_at_call 114; refine LC.out.mono ?_)
          rintro _ w6 ⟨a6, c6, L6, rfl, hL6, o6, k6, -⟩
          have H6 := hid o6
          have R6 := hid (row_add (gj := y5) hB HK.out K14.out K5.out k6 HO.out H5.out)
          have hL6' := hid hL6.out
          clear o6 k6 LC hL6
          go_wp2_with fail
          go_roundg 0
          case measure => omega
          case rel => exact .inr ⟨L6, a6, c6, e, f, j5, y5, rfl, rfl, HX3, he, H6, hid (by rw [hL6'.out]; exact (Hs.out.app (S5.out.low.mono (Nat.le_refl _) (by omega))).mono (by omega) (Nat.le_refl _)), hj5, hid R6.out.1, hid R6.out.2⟩
        | ok l s1 g1 =>
          rw [hA] at hx
          obtain ⟨a5, c5, L5, j5, rfl, hr5, o5, t5, hij5, hj5, s5, rfl, hg5, h5, k5⟩ := hx
          have hlt := itemD_lt hA hjl
          rw [List.length_drop] at hlt
          have HX3 := hid (show X = rowR (rowP CC p.length (k3 + 2) (acc ++ lower l) (p.drop j5) g1 d) by rw [HX2.out, hA])
          have H5 := hid h5
          have K5 := hid k5
          have S5 := hid s5
          have T5 := hid t5
          have z4 := K14.out.size
          have z5 := k5.size
          have hls := Hs.out.len
          have OM := hid ((HO.out.kr K14.out (by omega)).kr k5 (by omega))
          have SM := hid ((HS.out.kr K14.out (by omega)).kr k5 (by omega))
          have hlm := hid (HS.out.lt)
          have hr6 := hid hr5
          have LC := hid (lower_d w.heap.size aM a5 cM c5 M L5 w5 OM.out o5.sl (fun ad had hb => by
            have h1 := (HO.out.lt hb).2
            have h2 := (o5.lt ⟨ad, had, rfl⟩).1
            omega) (by omega) (S5.out.mono (by omega) (by omega)) (by omega))
          clear o5 s5 h5 k5 t5 hA hr5
          go_wp2_with (go_at_call 114; refine LC.out.mono ?_)
          rintro _ w6 ⟨a6, c6, L6, rfl, hL6, o6, k6, -⟩
          have H6 := hid o6
          have R6 := hid (row_add (gj := g1) hB HK.out K14.out K5.out k6 HO.out H5.out)
          have hL6' := hid hL6.out
          have S6 : Hid (Sets w.heap.size w6 L6) := by
            rw [Hid, hL6.out]
            exact (SM.out.list OM.out k6).app ((T5.out.list OM.out k6).low) (by omega) (fun m hm q hq => Nat.lt_of_lt_of_le (hlm.out m hm q hq) z4)
          clear o6 k6 LC hL6
          go_wp2_with fail
          go_roundg (p.length - j5 + 1)
          case measure => omega
          case rel =>
            refine .inl ⟨k3 + 2, j5, g1, L6, a6, c6, acc ++ lower l, rfl, rfl, by omega, hj5, hg5, by omega, by omega, ?_, HX3, H6, S6, hid ?_, hid R6.out.1, hid R6.out.2⟩
            · rw [hL6'.out, rns_app, hacc, rns_low, hr6.out]; rfl
            · rw [hL6'.out]; exact (Hs.out.app (S5.out.low.mono (Nat.le_refl _) (by omega))).mono (by omega) (Nat.le_refl _)
    · have He := hid he
      clear HI he
      go_wp2_with fail; refine (dok_no B _ r a c p j y d e f He.out HR.out).mono ?_; rintro _ w1 ⟨rfl, h1, k1⟩; have H1 := hid h1; have K1 := hid k1; clear h1 k1
      go_wp2_with fail
      go_ret
      rw [HX.out]
      exact ⟨aM, cM, M, j, y, rfl, HO.out.kr K1.out hrw, Hs.out.mono (by omega) (by omega), He.out, hjd, H1.out, HK.out.tr K1.out⟩
end Go.Proofs.YtefgjicegbhcaaaGreat
namespace Go.Proofs.YtefgjicegbhcaaaGreat
open Go.RowKit ReM

def AltD (X : Rg) (B : Nat) (w : World) (r : Nat) (a : Option Addr) (c : Nat) (p : List Int) (K i d : Nat) (gk : Nat) (v : Value) (wr : World) : Prop :=
  (∃ K' j gj M aM cM, gk = p.length - j + 1 ∧ v = .slice aM M.length cM ∧ i ≤ j ∧ j ≤ p.length ∧ gj ≤ 9 ∧ 4 * (p.length - j) + 1 ≤ K' ∧ K' < K ∧ Hid (X = altsR p.length K' (rns M) (p.drop j) gj d) ∧
    Hid (RO wr w.heap.size aM cM M) ∧ Hid (Sets w.heap.size wr M) ∧ Hid (Sml (4 * (j - i) + 2) (4 * (p.length - i) + 2) M) ∧ Hid (Rdr B wr r a c p j gj d 0 0) ∧ Hid (KR r w wr)) ∨
  (∃ M aM cM e f j y, gk = 0 ∧ v = .slice aM M.length cM ∧ Hid (X = .bad e f) ∧ e ≠ 0 ∧ Hid (RO wr w.heap.size aM cM M) ∧ Hid (Sml (4 * (p.length - i) + 2) (4 * (p.length - i) + 2) M) ∧ j + d ≤ p.length + 20 ∧ Hid (Rdr B wr r a c p j y d e f) ∧ Hid (KR r w wr))
set_option maxRecDepth 20000 in
set_option maxHeartbeats 16000000 in
theorem dpat_step (B r : Nat) (a : Option Addr) (c : Nat) (p : List Int) (hT : Txt1 p) (K : Nat) (IH : ∀ k, k < K → PatD B r a c p k) : PatD B r a c p K := by
  intro w i g d h hi hd hg hK
  have hl := hT.1
  have hB := h.Bw
  have hrw : r < w.heap.size := h.lt
  obtain ⟨k, rfl⟩ : ∃ k, K = k + 1 := ⟨K - 1, by omega⟩
  obtain ⟨X, hX⟩ : ∃ X, X = altP CC p.length (k + 1) (p.drop i) g d := ⟨_, rfl⟩
  rw [← hX]
  have HX := hid (hX.trans (alt_is p k i g d))
  have RC := hid (drow_c B w r a c p k i g d h hi hT hd hg (by omega) (fun k' hk' => IH k' (by omega)))
  have HI := hid IH
  clear hX IH h
  go_enter Tryz.func83, Tryz.ntmps83
  go_wp2_with fail
  refine RC.out.mono ?_
  rintro e1 w1 hx
  clear RC
  cases hR : rowR (rowP CC p.length k [] (p.drop i) g d) with
  | bad e f =>
    rw [hR] at hx
    obtain ⟨a2, d2, M2, j, y, rfl, ho2, hs2, he, hj, h4, k4⟩ := hx
    have HX2 := hid (show X = .bad e f by rw [HX.out, hR])
    have O1 := hid ho2
    have Q1 := hid hs2
    have K1 := hid k4
    have He := hid he
    have zk := k4.size
    have HH4 := hid h4
    clear ho2 hs2 k4 he hR HX h4 HI
    obtain ⟨q, hq⟩ : ∃ q, nx p j = q := ⟨_, rfl⟩
    have HQ := hid hq
    clear hq
    by_cases h124 : q = 124
    · subst h124
      go_wp2_with fail; refine (dnext_q 124 B _ r a c p j y d e f HQ.out HH4.out).mono ?_; rintro _ w2 ⟨rfl, h2, k2⟩; have H2 := hid h2; have K2 := hid k2; clear h2 k2
      have LC := hid (lower_d w.heap.size (some ⟨w2.heap.size, 0, none⟩) a2 1 d2 [⟨1, 0, 0, 0, false, false, none, [], 0⟩] M2 (w2.alloc (.cells #[.int .i64 1, .int .i64 0, .int .i64 0, .int .i64 0, .bool false, .bool false, .slice none 0 0] 128)) (ROwn.one Tryz.tyRe ⟨1, 0, 0, 0, false, false, none, [], 0⟩ _ _ rfl (by have := K2.out.size; omega) _ rfl) ((O1.out.kr K2.out hrw).sl.alloc _) (fun ad had hb => by
        obtain ⟨ae, hae, hbb⟩ := hb
        cases hae
        have := ((O1.out.kr K2.out hrw).lt ⟨ad, had, rfl⟩).2
        have hbb' : w2.heap.size = ad.block := hbb
        omega) (by have := K2.out.size; simp; omega) (Q1.out.mono (by omega) (by omega)) (by simp))
      go_wp2_with (go_at_call 114; refine LC.out.mono ?_)
      rintro _ w3 ⟨a3, c3, L3, rfl, hL3, o3, k3, -⟩
      have b3 : Below w2.heap.size w2 w3 := ((Below.refl _ _).alloc (Nat.le_refl _) _).trans (k3.below (fun q hq => by obtain ⟨ae, hae, hbb⟩ := hq; cases hae; exact Nat.le_of_eq hbb) (by simp))
      have H3 := hid (H2.out.bel b3)
      have O3 := hid o3
      have hL3' := hid hL3.out
      have K3 := hid ((K1.out.tr K2.out).thn b3)
      clear o3 k3 b3 LC hL3
      go_wp2_with fail
      go_loopg [4] 0 (fun _ v wr => v = .slice a3 L3.length c3 ∧ Hid (RO wr w.heap.size a3 c3 L3) ∧ Hid (Rdr B wr r a c p j y d e f) ∧ Hid (KR r w wr))
      case atStart => exact ⟨rfl, O3, H3, K3⟩
      case round =>
        clear O3 H3 K3
        obtain ⟨rfl, O3, H3, K3⟩ := hrel
        go_wp2_with fail; refine (dok_no B _ r a c p j y d e f He.out H3.out).mono ?_; rintro _ w4 ⟨rfl, h4, k4⟩; have H4 := hid h4; have K4 := hid k4; clear h4 k4
        go_wp2_with fail
        go_ret
        rw [HX2.out]
        refine ⟨a3, c3, L3, j, y, rfl, O3.out.kr K4.out hrw, ?_, He.out, hj, H4.out, K3.out.tr K4.out⟩
        rw [hL3'.out]
        exact ((Sml.one (4 * (p.length - i) + 2) rfl).app (Q1.out.low.mono (Nat.le_refl _) (by omega))).mono (by omega) (Nat.le_refl _)
    · have b1 : (q != 124) = true := by simpa using h124
      go_wp2_with fail; refine (dnext_q q B _ r a c p j y d e f HQ.out HH4.out).mono ?_; rintro _ w2 ⟨rfl, h2, k2⟩; have H2 := hid h2; have K2 := hid k2; clear h2 k2
      go_wp2_with fail
      go_ret
      rw [HX2.out]
      exact ⟨a2, d2, M2, j, y, rfl, O1.out.kr K2.out hrw, Q1.out.mono (by omega) (by omega), He.out, hj, H2.out, K1.out.tr K2.out⟩
  | ok l s1 g1 =>
    rw [hR] at hx
    obtain ⟨a2, d2, M2, j, rfl, hrn, ho2, hS2, hij, hjn, hs2, hs1, hg1, h4, k4⟩ := hx
    have O1 := hid ho2
    have S1 := hid hS2
    have Q1 := hid hs2
    have K1 := hid k4
    have HH4 := hid h4
    have Hrn := hid hrn
    have zk := k4.size
    obtain ⟨q, hq⟩ : ∃ q, nx p j = q := ⟨_, rfl⟩
    have HQ := hid hq
    by_cases h124 : q = 124
    · subst h124
      have HX2 := hid (show X = altsR p.length k (nAlt :: lower (rns M2)) (p.drop j) g1 d by
        rw [HX.out, hR, hs1, ← hrn]
        unfold altsR
        rw [drop_nx (nx_is hq (by decide)), hq]
        rfl)
      clear ho2 hS2 hs2 hs1 k4 h4 hR HX hq hrn
      go_wp2_with fail; refine (dnext_q 124 B _ r a c p j g1 d 0 0 HQ.out HH4.out).mono ?_; rintro _ w2 ⟨rfl, h2, k2⟩; have H2 := hid h2; have K2 := hid k2; clear h2 k2
      have LC := hid (lower_d w.heap.size (some ⟨w2.heap.size, 0, none⟩) a2 1 d2 [⟨1, 0, 0, 0, false, false, none, [], 0⟩] M2 (w2.alloc (.cells #[.int .i64 1, .int .i64 0, .int .i64 0, .int .i64 0, .bool false, .bool false, .slice none 0 0] 128)) (ROwn.one Tryz.tyRe ⟨1, 0, 0, 0, false, false, none, [], 0⟩ _ _ rfl (by have := K2.out.size; omega) _ rfl) ((O1.out.kr K2.out hrw).sl.alloc _) (fun ad had hb => by
        obtain ⟨ae, hae, hbb⟩ := hb
        cases hae
        have := ((O1.out.kr K2.out hrw).lt ⟨ad, had, rfl⟩).2
        have hbb' : w2.heap.size = ad.block := hbb
        omega) (by have := K2.out.size; simp; omega) (Q1.out.mono (by omega) (by omega)) (by simp))
      go_wp2_with (go_at_call 114; refine LC.out.mono ?_)
      rintro _ w3 ⟨a3, c3, L3, rfl, hL3, o3, k3, -⟩
      have b3 : Below w2.heap.size w2 w3 := ((Below.refl _ _).alloc (Nat.le_refl _) _).trans (k3.below (fun q hq => by obtain ⟨ae, hae, hbb⟩ := hq; cases hae; exact Nat.le_of_eq hbb) (by simp))
      have P0 := hid (show AltD X B w r a c p (k + 1) i d (p.length - j + 1) (.slice a3 L3.length c3) w3 from by
        refine .inl ⟨k, j, g1, L3, a3, c3, rfl, rfl, hij, hjn, hg1, by omega, by omega, hid ?_, hid o3, hid ?_, hid ?_, hid (H2.out.bel b3), hid ((K1.out.tr K2.out).thn b3)⟩
        · rw [HX2.out, hL3.out, rns_app, rns_low]; rfl
        · rw [hL3.out]; exact (((S1.out.kr K2.out hrw).bel b3).low).cons0 (m := ⟨1, 0, 0, 0, false, false, none, [], 0⟩) rfl rfl rfl
        · rw [hL3.out]; exact ((Sml.one (4 * (p.length - i) + 2) rfl).app (Q1.out.low.mono (Nat.le_refl _) (by omega))).mono (by omega) (Nat.le_refl _))
      clear o3 k3 b3 LC hL3 H2 K2 K1 S1 O1 Q1 HX2 Hrn HH4 HQ
      go_wp2_with fail
      go_loopg [4] (p.length - j + 1) (fun gk v wr => AltD X B w r a c p (k + 1) i d gk v wr)
      case atStart => exact P0.out
      case round =>
        clear P0
        rcases hrel with ⟨K', j, gj, M, aM, cM, rfl, rfl, hij, hj, hgj, hK1, hK2, HX, HO, HS, Hs, HR, HK⟩ | ⟨M, aM, cM, e, f, j, y, rfl, rfl, HX, he, HO, Hs, hjd, HR, HK⟩
        · have hz := HK.out.size
          obtain ⟨q, hq⟩ : ∃ q, nx p j = q := ⟨_, rfl⟩
          have HQ := hid hq
          by_cases h124 : q = 124
          · subst h124
            have hjl := nx_is hq (by decide)
            obtain ⟨k2, rfl⟩ : ∃ k2, K' = k2 + 1 := ⟨K' - 1, by omega⟩
            have HX2 := hid (HX.out.trans (altsR_go p k2 _ j gj d hjl hq))
            have RC := hid (fun w' h' => drow_c B w' r a c p k2 (j + 1) gj d h' (by omega) hT hd hgj (by omega) (fun k' hk' => HI.out k' (by omega)))
            have W1 : IntKind.i64.wrap ((j : Int) + 1) = ((j + 1 : Nat) : Int) := by rw [IntKind.wrap_i64]; omega
            clear hq HX
            go_wp2_with fail; refine (dok_yes B _ r a c p j gj d 0 HR.out).mono ?_; rintro _ w1 ⟨rfl, h1, k1⟩; have H1 := hid h1; have K1 := hid k1; clear h1 k1
            go_wp2_with fail; refine (dnext_q 124 B _ r a c p j gj d 0 0 HQ.out H1.out).mono ?_; rintro _ w2 ⟨rfl, h2, k2⟩; have H2 := hid h2; have K2 := hid k2; clear h2 k2
            have h2 := H2.out
            have K12 := hid ((K1.out.tr K2.out).set (o := 1) (.int .i64 ((j + 1 : Nat) : Int)))
            (have c0 := h2.c0; have c1 := h2.c1; have c2 := h2.c2; have c3 := h2.c3; have c4 := h2.c4; have c5 := h2.c5; have f1 := h2.fz 1; have f2 := h2.fz 2; have f3 := h2.fz 3; have f4 := h2.fz 4; have f5 := h2.fz 5; have rl := h2.lt; have Hh2 := hid h2; clear h2)
            have RC1 := hid (RC.out _ (Hh2.out.set1 (j + 1)))
            clear RC Hh2
            go_wp2_with fail
            clear rl c0 c1 c2 c3 c4 c5 f1 f2 f3 f4 f5
            refine RC1.out.mono ?_
            rintro e5 w5 hx
            clear RC1
            cases hA : rowR (rowP CC p.length k2 [] (p.drop (j + 1)) gj d) with
            | bad e f =>
              rw [hA] at hx
              obtain ⟨a5, c5, L5, j5, y5, rfl, o5, s5, he, hj5, h5, k5⟩ := hx
              have HX3 := hid (show X = .bad e f by rw [HX2.out, hA])
              have H5 := hid h5
              have K5 := hid k5
              have S5 := hid s5
              have z4 := K12.out.size
              have z5 := k5.size
              have hls := Hs.out.len
              have LC := hid (lower_d w.heap.size aM a5 cM c5 M L5 w5 ((HO.out.kr K12.out (by omega)).kr k5 (by omega)) o5.sl (fun ad had hb => by
                have h1 := (HO.out.lt hb).2
                have h2 := (o5.lt ⟨ad, had, rfl⟩).1
                omega) (by omega) (S5.out.mono (by omega) (by omega)) (by omega))
              clear o5 s5 h5 k5 hA
              go_wp2_with (go_at_call 114; refine LC.out.mono ?_)
              rintro _ w6 ⟨a6, c6, L6, rfl, hL6, o6, k6, -⟩
              have H6 := hid o6
              have R6 := hid (row_add (gj := y5) hB HK.out K12.out K5.out k6 HO.out H5.out)
              have hL6' := hid hL6.out
              clear o6 k6 LC hL6
              go_wp2_with fail
              go_roundg 0
              case measure => omega
              case rel => exact .inr ⟨L6, a6, c6, e, f, j5, y5, rfl, rfl, HX3, he, H6, hid (by rw [hL6'.out]; exact (Hs.out.app (S5.out.low.mono (Nat.le_refl _) (by omega))).mono (by omega) (Nat.le_refl _)), hj5, hid R6.out.1, hid R6.out.2⟩
            | ok l s1 g1 =>
              rw [hA] at hx
              obtain ⟨a5, c5, L5, j5, rfl, hr5, o5, t5, hij5, hj5, s5, rfl, hg5, h5, k5⟩ := hx
              have HX3 := hid (show X = altsR p.length k2 (rns M ++ lower l) (p.drop j5) g1 d by rw [HX2.out, hA])
              have H5 := hid h5
              have K5 := hid k5
              have S5 := hid s5
              have T5 := hid t5
              have z4 := K12.out.size
              have z5 := k5.size
              have hls := Hs.out.len
              have OM := hid ((HO.out.kr K12.out (by omega)).kr k5 (by omega))
              have SM := hid ((HS.out.kr K12.out (by omega)).kr k5 (by omega))
              have hlm := hid (HS.out.lt)
              have hr6 := hid hr5
              have LC := hid (lower_d w.heap.size aM a5 cM c5 M L5 w5 OM.out o5.sl (fun ad had hb => by
                have h1 := (HO.out.lt hb).2
                have h2 := (o5.lt ⟨ad, had, rfl⟩).1
                omega) (by omega) (S5.out.mono (by omega) (by omega)) (by omega))
              clear o5 s5 h5 k5 t5 hA hr5
              go_wp2_with (go_at_call 114; refine LC.out.mono ?_)
              rintro _ w6 ⟨a6, c6, L6, rfl, hL6, o6, k6, -⟩
              have H6 := hid o6
              have R6 := hid (row_add (gj := g1) hB HK.out K12.out K5.out k6 HO.out H5.out)
              have hL6' := hid hL6.out
              have S6 : Hid (Sets w.heap.size w6 L6) := by
                rw [Hid, hL6.out]
                exact (SM.out.list OM.out k6).app ((T5.out.list OM.out k6).low) (by omega) (fun m hm q hq => Nat.lt_of_lt_of_le (hlm.out m hm q hq) z4)
              clear o6 k6 LC hL6
              go_wp2_with fail
              go_roundg (p.length - j5 + 1)
              case measure => omega
              case rel =>
                refine .inl ⟨k2, j5, g1, L6, a6, c6, rfl, rfl, by omega, hj5, hg5, by omega, by omega, ?_, H6, S6, hid ?_, hid R6.out.1, hid R6.out.2⟩
                · rw [hL6'.out, rns_app, rns_low, hr6.out]; exact HX3
                · rw [hL6'.out]; exact (Hs.out.app (S5.out.low.mono (Nat.le_refl _) (by omega))).mono (by omega) (Nat.le_refl _)
          · have HX2 := hid (HX.out.trans (altsR_stop p K' _ j gj d (by rw [hq]; exact h124)))
            have b1 : (q == 124) = false := by simpa using h124
            clear hq HX HI h124
            go_wp2_with fail; refine (dok_yes B _ r a c p j gj d 0 HR.out).mono ?_; rintro _ w1 ⟨rfl, h1, k1⟩; have H1 := hid h1; have K1 := hid k1; clear h1 k1
            go_wp2_with fail; refine (dnext_q q B _ r a c p j gj d 0 0 HQ.out H1.out).mono ?_; rintro _ w2 ⟨rfl, h2, k2⟩; have H2 := hid h2; have K2 := hid k2; clear h2 k2
            go_wp2_with fail
            go_ret
            rw [HX2.out]
            exact ⟨aM, cM, M, j, rfl, rfl, (HO.out.kr K1.out hrw).kr K2.out hrw, (HS.out.kr K1.out hrw).kr K2.out hrw, hij, hj, Hs.out.mono (by omega) (by omega), rfl, hgj, H2.out, (HK.out.tr K1.out).tr K2.out⟩
        · have He := hid he
          clear HI he
          go_wp2_with fail; refine (dok_no B _ r a c p j y d e f He.out HR.out).mono ?_; rintro _ w1 ⟨rfl, h1, k1⟩; have H1 := hid h1; have K1 := hid k1; clear h1 k1
          go_wp2_with fail
          go_ret
          rw [HX.out]
          exact ⟨aM, cM, M, j, y, rfl, HO.out.kr K1.out hrw, Hs.out.mono (by omega) (by omega), He.out, hjd, H1.out, HK.out.tr K1.out⟩
    · have HX2 := hid (show X = .ok (rns M2) (p.drop j) g1 by
        rw [HX.out, hR, hs1, ← hrn]
        dsimp only
        split
        · rename_i hh
          rcases Nat.lt_or_ge j p.length with h | h
          · rw [drop_nx h] at hh; exact absurd (hq.symm.trans (List.cons.inj hh).1) h124
          · rw [drop_end h] at hh; cases hh
        · rfl)
      have b1 : (q != 124) = true := by simpa using h124
      clear ho2 hs2 hS2 h4 k4 hR HX h124 hrn hs1 HI hq
      go_wp2_with fail; refine (dnext_q q B _ r a c p j g1 d 0 0 HQ.out HH4.out).mono ?_; rintro _ w2 ⟨rfl, h2, k2⟩; have H2 := hid h2; have K2 := hid k2; clear h2 k2
      go_wp2_with fail
      go_ret
      rw [HX2.out]
      exact ⟨a2, d2, M2, j, rfl, rfl, O1.out.kr K2.out hrw, S1.out.kr K2.out hrw, hij, hjn, Q1.out.mono (by omega) (by omega), rfl, hg1, H2.out, K1.out.tr K2.out⟩
theorem dpat_all (B r : Nat) (a : Option Addr) (c : Nat) (p : List Int) (hT : Txt1 p) (K : Nat) : PatD B r a c p K := by
  induction K using Nat.strongRecOn with
  | _ K ih => exact dpat_step B r a c p hT K ih
end Go.Proofs.YtefgjicegbhcaaaGreat
namespace Go.Proofs.YtefgjicegbhcaaaGreat
open Go.RowKit ReM

theorem pw_ok {p : List Int} (h60 : ¬ 60 < p.length) (hf : p.length ≤ fbad p) : parseW p = parse CC p := by
  unfold parseW; rw [if_neg h60, if_neg (by omega)]
set_option maxRecDepth 20000 in
set_option maxHeartbeats 16000000 in
theorem dparse_c (a : Option Addr) (c : Nat) (p : List Int) (w : World) (h : Sl w a p) (hc : p.length ≤ c) :
    Calls Tryz.prog 53 #[.slice a p.length c] w (ParseP w (parseW p)) := by
  have hlen := h.len
  obtain ⟨X, hX⟩ : ∃ X, X = parseW p := ⟨_, rfl⟩
  rw [← hX]
  have HX := hid hX
  obtain ⟨V, hV⟩ : ∃ V, V = w.alloc (.cells #[.int .i64 0, .int .i64 0] 47) := ⟨_, rfl⟩
  have bV : Hid (Below w.heap.size w V) := by subst hV; exact ((Below.refl _ _).alloc (Nat.le_refl _) _)
  have F0 : Hid (FtC V w.heap.size 0 0) := by subst hV; exact FtC.new _ _ _ _ _ rfl
  have zV : V.heap.size = w.heap.size + 1 := by subst hV; simp
  have HS := hid (h.bel bV.out)
  clear hX h
  by_cases h60 : 60 < p.length
  · have HX := hid (HX.out.trans (show parseW p = ([], 3, 60) by unfold parseW; rw [if_pos h60]))
    have b1 : decide ((60 : Int) < (p.length : Int)) = true := decide_eq_true (by omega)
    have g := F0.out
    have g0 := g.c0
    have g1 := g.c1
    have g2 := g.fz 0
    have g3 := g.fz 1
    clear g h60 hc hlen
    go_enter Tryz.func53, Tryz.ntmps53
    go_upto_region 1 with fail
    rw [← hV]; clear hV
    go_wp2_with fail
    refine ret_tf Tryz.results53 rfl rfl rfl (F0.out.put 3 60) ?_
    rw [HX.out]
    exact ⟨none, 0, [], rfl, rfl, ROwn.nil _ _, Sets.nil _ _, Sml.nil _ _, (bV.out.setCell (by exact Nat.le_refl _) _).setCell (by exact Nat.le_refl _) _⟩
  · have b1 : decide ((60 : Int) < (p.length : Int)) = false := decide_eq_false (by omega)
    have hfl := fbad_le p
    obtain ⟨K, hK⟩ : ∃ K, K = fbad p := ⟨_, rfl⟩
    have HK := hid hK
    rw [← hK] at hfl
    clear hK
    go_enter Tryz.func53, Tryz.ntmps53
    go_upto_region 1 with fail
    rw [← hV]; clear hV
    go_wp2_with fail
    go_loopw [4] (fun iv wr => ∃ k : Nat, k ≤ K ∧ iv = .int .i64 k ∧ V = wr) (fun iv _ => p.length - (intOf iv).toNat)
    case atStart => exact ⟨0, by omega, rfl, rfl⟩
    case round =>
      obtain ⟨k, hk, rfl, rfl⟩ := hrel
      by_cases hlt : k < p.length
      · obtain ⟨b, off, rfl, hcs⟩ := HS.out.at hlt
        have ck := hcs k hlt
        clear hcs
        by_cases hkK : k = K
        · have hs : sgn (gt p k) = false := by rw [hkK, HK.out]; exact fbad_at (by have := HK.out; omega)
          have E := hid (HX.out.trans (show parseW p = ([], 1, (k : Int)) by unfold parseW; rw [if_neg h60, if_pos (by rw [← HK.out]; omega), ← HK.out, hkK]))
          have g := F0.out
          have g0 := g.c0
          have g1 := g.c1
          have g2 := g.fz 0
          have g3 := g.fz 1
          clear hkK hk g h60
          go_wp2_with (go_at_call 56; refine (rsign_c _ _).mono ?_; rintro _ w9 ⟨rfl, rfl⟩; rw [hs])
          refine ret_tf Tryz.results53 rfl rfl rfl (F0.out.put 1 k) ?_
          rw [E.out]
          exact ⟨none, 0, [], rfl, rfl, ROwn.nil _ _, Sets.nil _ _, Sml.nil _ _, (bV.out.setCell (by exact Nat.le_refl _) _).setCell (by exact Nat.le_refl _) _⟩
        · have hs : sgn (gt p k) = true := fbad_lt (by rw [← HK.out]; omega)
          have Hk1 := hid (show k + 1 ≤ K by omega)
          clear hkK hk h60
          go_wp2_with (go_at_call 56; refine (rsign_c _ _).mono ?_; rintro _ w9 ⟨rfl, rfl⟩; rw [hs])
          go_roundw
          case rel => exact ⟨k + 1, Hk1.out, by go_num, by first | rfl | trivial⟩
          case measure => simp [intOf]; omega
      · have hfb : p.length ≤ fbad p := by rw [← HK.out]; omega
        have HX := hid (HX.out.trans (pw_ok h60 hfb))
        have HT : Hid (Txt1 p) := ⟨by omega, sgn_txt (fbad_all hfb)⟩
        obtain ⟨r, hr⟩ : ∃ r, r = V.heap.size := ⟨_, rfl⟩
        obtain ⟨V2, hV2⟩ : ∃ V2, V2 = V.alloc (.cells #[.slice a p.length c, .int .i64 0, .int .i64 0, .int .i64 0, .int .i64 0, .int .i64 0] 141) := ⟨_, rfl⟩
        have R0 : Rdr (r + 1) V2 r a c p 0 0 0 0 0 := by rw [hV2]; exact Rdr.new _ a c p HS.out hc _ _ hr
        have F2 : Hid (FtC V2 w.heap.size 0 0) := by rw [hV2]; exact F0.out.bel ((Below.refl _ _).alloc (Nat.le_refl _) _)
        have K0 : Hid (Below w.heap.size w V2) := by rw [hV2]; exact bV.out.alloc (by omega) _
        have z2 : V2.heap.size = r + 1 := by rw [hV2, hr]; simp
        have hrw : w.heap.size < r := by omega
        have PC := hid (dpat_all (r + 1) r a c p HT.out (4 * p.length + 8) V2 0 0 0 R0 (by omega) (by omega) (by omega) (by omega))
        have hkn : k = p.length := by omega
        subst hkn
        clear hfb HK F0 bV R0 hlt hfl
        go_upto_region 9 with fail
        rw [← hV2, show w.heap.size + 1 = r by omega]
        clear hV2 hr HS hk
        go_wp2_with fail
        refine PC.out.mono ?_
        rintro e2 w2 hx
        clear PC
        cases hA : altP CC p.length (4 * p.length + 8) (p.drop 0) 0 0 with
        | bad e f =>
          rw [hA] at hx
          obtain ⟨a2, d2, L, j, y, rfl, ho, hs, he, hj, h4, k4⟩ := hx
          have E := hid (HX.out.trans (parse_bad hA))
          have K2 := hid (k4.below (B := w.heap.size) (fun q hq => by omega) (by omega))
          have F3 := hid (F2.out.kpt k4 (by omega))
          have zk := k4.size
          have H4 := hid h4
          have He := hid he
          clear ho hs h4 k4 hA he HX F2
          go_wp2_with fail; refine (dok_no (r + 1) _ r a c p j y 0 e f He.out H4.out).mono ?_; rintro _ w5 ⟨rfl, h5, k5⟩; have H5 := hid h5; have K5 := hid k5; clear h5 k5
          go_wp2_with fail; refine (dok_no (r + 1) _ r a c p j y 0 e f He.out H5.out).mono ?_; rintro _ w6 ⟨rfl, h6, k6⟩; have H6 := hid h6; have K6 := hid k6; clear h6 k6
          have k56 := K5.out.tr K6.out
          have K3 := hid (k56.below (B := w.heap.size) (fun q hq => by omega) (by have := k56.size; omega))
          have F4 := F3.out.kpt k56 (by omega)
          have F5 := hid F4
          have m0 := F4.c0
          have m1 := F4.c1
          have m2 := F4.fz 0
          have m3 := F4.fz 1
          have m4 := F4.lt
          have h6 := H6.out
          clear F4 F3 k56 K5 K6
          (have c0 := h6.c0; have c1 := h6.c1; have c2 := h6.c2; have c3 := h6.c3; have c4 := h6.c4; have c5 := h6.c5; have f1 := h6.fz 1; have f2 := h6.fz 2; have f3 := h6.fz 3; have f4 := h6.fz 4; have f5 := h6.fz 5; have rl := h6.lt; have Hh6 := hid h6; clear h6)
          go_upto_region 13 with fail
          go_region
          all_goals
            go_wp2_with fail
            refine ret_tf Tryz.results53 rfl rfl rfl (FtC.put (e := 0) (f := 0) (w := w6.drew) ?_ e f) ?_
            · exact F5.out.same rfl
            · rw [E.out]
              exact ⟨none, 0, [], rfl, rfl, ROwn.nil _ _, Sets.nil _ _, Sml.nil _ _, (((K0.out.trans K2.out).trans K3.out).drew.setCell (by exact Nat.le_refl _) _).setCell (by exact Nat.le_refl _) _⟩
        | ok l s1 g1 =>
          rw [hA] at hx
          obtain ⟨a2, d2, L, j, rfl, hrn, ho, hS, hij, hjn, hs, hs1, hg1, h4, k4⟩ := hx
          rw [hs1] at hA
          have E := hid (HX.out.trans (parse_ok' hA))
          have zk := k4.size
          have K2 := hid (k4.below (B := w.heap.size) (fun q hq => by omega) (by omega))
          have F3 := hid (F2.out.kpt k4 (by omega))
          have Ho := hid ho
          have HSs := hid hS
          have Hs := hid hs
          have Hrn := hid hrn
          have H4 := hid h4
          clear ho hS hs h4 k4 hA HX F2 hs1 hrn
          go_wp2_with fail; refine (dok_yes (r + 1) _ r a c p j g1 0 0 H4.out).mono ?_; rintro _ w5 ⟨rfl, h5, k5⟩; have H5 := hid h5; have K5 := hid k5; clear h5 k5
          have h5 := H5.out
          by_cases hjl : p.length ≤ j
          · obtain rfl : j = p.length := by omega
            have E := hid (E.out.trans (if_pos (Nat.le_refl _)))
            have b2 : decide ((p.length : Int) < (p.length : Int)) = false := decide_eq_false (by omega)
            (have c0 := h5.c0; have c1 := h5.c1; have c2 := h5.c2; have c3 := h5.c3; have c4 := h5.c4; have c5 := h5.c5; have f1 := h5.fz 1; have f2 := h5.fz 2; have f3 := h5.fz 3; have f4 := h5.fz 4; have f5 := h5.fz 5; have rl := h5.lt; have Hh5 := hid h5; clear h5)
            go_wp2_with fail
            clear rl c0 c1 c2 c3 c4 c5 f1 f2 f3 f4 f5
            refine (dok_yes (r + 1) _ r a c p p.length g1 0 0 H5.out).mono ?_
            rintro _ w6 ⟨rfl, h6, k6⟩
            have k56 := K5.out.tr k6
            have K3 := hid (k56.below (B := w.heap.size) (fun q hq => by omega) (by have := k56.size; omega))
            have F4 := F3.out.kpt k56 (by omega)
            have F5 := hid F4
            have O5 := hid (Ho.out.kr k56 (by omega))
            have S5 := hid (HSs.out.kr k56 (by omega))
            have m0 := F4.c0
            have m1 := F4.c1
            have m2 := F4.fz 0
            have m3 := F4.fz 1
            have m4 := F4.lt
            clear F4 F3 k56 K5 k6 h6 Hh5
            go_wp2_with fail
            refine ret_tf Tryz.results53 rfl rfl rfl (F5.out.put 0 0) ?_
            rw [E.out]
            refine ⟨a2, d2, L, rfl, Hrn.out, ?_, ?_, Hs.out.mono (by omega) (by omega), (((K0.out.trans K2.out).trans K3.out).setCell (by exact Nat.le_refl _) _).setCell (by exact Nat.le_refl _) _⟩
            · refine (O5.out.stay fun q hq _ => ?_).base_le (by omega)
              exact (Below.heap_setCell _ _ _ _ (by show q ≠ w.heap.size; omega)).trans (Below.heap_setCell _ _ _ _ (by show q ≠ w.heap.size; omega))
            · refine (S5.out.stay fun q hq _ => ?_).base_le (by omega)
              exact (Below.heap_setCell _ _ _ _ (by show q ≠ w.heap.size; omega)).trans (Below.heap_setCell _ _ _ _ (by show q ≠ w.heap.size; omega))
          · have E := hid (E.out.trans (if_neg hjl))
            have b2 : decide ((j : Int) < (p.length : Int)) = true := decide_eq_true (by omega)
            (have c0 := h5.c0; have c1 := h5.c1; have c2 := h5.c2; have c3 := h5.c3; have c4 := h5.c4; have c5 := h5.c5; have f1 := h5.fz 1; have f2 := h5.fz 2; have f3 := h5.fz 3; have f4 := h5.fz 4; have f5 := h5.fz 5; have rl := h5.lt; have Hh5 := hid h5; clear h5)
            go_wp2_with fail
            clear rl c0 c1 c2 c3 c4 c5 f1 f2 f3 f4 f5
            refine (dbad_one 5 j (r + 1) _ r a c p j g1 0 0 H5.out).mono ?_
            rintro _ w6 ⟨rfl, h6, k6⟩
            have H6 := hid h6
            have K6 := hid k6
            clear h6 k6 Hh5
            go_wp2_with fail; refine (dok_no (r + 1) _ r a c p j g1 0 5 j (by decide) H6.out).mono ?_; rintro _ w7 ⟨rfl, h7, k7⟩; have H7 := hid h7; have K7 := hid k7; clear h7 k7
            have k57 := (K5.out.tr K6.out).tr K7.out
            have K3 := hid (k57.below (B := w.heap.size) (fun q hq => by omega) (by have := k57.size; omega))
            have F4 := F3.out.kpt k57 (by omega)
            have F5 := hid F4
            have m0 := F4.c0
            have m1 := F4.c1
            have m2 := F4.fz 0
            have m3 := F4.fz 1
            have m4 := F4.lt
            have h7 := H7.out
            clear F4 F3 k57 K5 K6 K7
            (have c0 := h7.c0; have c1 := h7.c1; have c2 := h7.c2; have c3 := h7.c3; have c4 := h7.c4; have c5 := h7.c5; have f1 := h7.fz 1; have f2 := h7.fz 2; have f3 := h7.fz 3; have f4 := h7.fz 4; have f5 := h7.fz 5; have rl := h7.lt; have Hh7 := hid h7; clear h7)
            go_upto_region 13 with fail
            go_region
            all_goals
              go_wp2_with fail
              refine ret_tf Tryz.results53 rfl rfl rfl (FtC.put (e := 0) (f := 0) (w := w7.drew) ?_ 5 j) ?_
              · exact F5.out.same rfl
              · rw [E.out]
                exact ⟨none, 0, [], rfl, rfl, ROwn.nil _ _, Sets.nil _ _, Sml.nil _ _, (((K0.out.trans K2.out).trans K3.out).drew.setCell (by exact Nat.le_refl _) _).setCell (by exact Nat.le_refl _) _⟩
end Go.Proofs.YtefgjicegbhcaaaGreat
namespace Go.Proofs.YtefgjicegbhcaaaGreat
open Go.RowKit ReM

set_option maxHeartbeats 8000000 in
theorem dgroups_c (a : Option Addr) (c : Nat) (M : List Rm) (w : World) (h : RSl encRe w a M) :
    Calls Tryz.prog 54 #[.slice a M.length c] w fun e' w' => e' = .returned (.int .i64 (gsL (rns M)).length) ∧ Below w.heap.size w w' := by
  have hl : M.length ≤ 2199023255552 := h.len
  rw [← grM_all]
  have HM := hid h
  clear h
  go_enter Tryz.func54, Tryz.ntmps54
  go_wp2
  go_loopw [3, 4] (fun nv iv wr => ∃ k : Nat, k ≤ M.length ∧ iv = .int .i64 k ∧ nv = .int .i64 (grM M k) ∧ Below w.heap.size w wr) (fun _ iv _ => M.length - (intOf iv).toNat)
  case atStart => exact ⟨0, by omega, rfl, by rw [grM_zero]; rfl, Below.refl _ _⟩
  case round =>
    obtain ⟨k, hk, rfl, rfl, hb⟩ := hrel
    by_cases hlt : k < M.length
    · obtain ⟨b, off, rfl, hc⟩ := (HM.out.bel hb).rc1 hlt
      obtain ⟨r0, r1, r2, r3, r4, r5, r6⟩ := rec_re hc
      have hle := grM_le M k
      have hgs := grM_succ M hlt
      have hblk : b < wr.heap.size := World.block_lt_of_cell? wr _ r0
      clear hc
      rcases (show (¬ (rgt M k).kind = 5) ∨ ((rgt M k).kind = 5 ∧ ¬ 0 < (rgt M k).lo) ∨ ((rgt M k).kind = 5 ∧ 0 < (rgt M k).lo) by omega) with h5 | ⟨h5, h0⟩ | ⟨h5, h0⟩
      · have b1 : ((rgt M k).kind == 5) = false := by simpa using h5
        have Hg := hid (show grM M (k + 1) = grM M k by rw [hgs, if_neg (fun h => h5 h.1)]; rfl)
        generalize rgt M k = m at *
        generalize grM M k = n at *
        clear hgs h5
        go_wp2
        go_roundw
        case rel => exact ⟨k + 1, by omega, by go_num, by rw [Hg.out], by (repeat' (first | exact Below.refl _ _ | assumption | refine bdrewN ?_ _ | refine Below.drew ?_ | refine Below.setCell ?_ (Nat.le_refl _) _ | refine bal ?_ _ | refine bthen ?_ (by assumption)))⟩
        case measure => simp [intOf]; omega
      · have b1 : ((rgt M k).kind == 5) = true := by simpa using h5
        have b2 : decide (0 < (rgt M k).lo) = false := by simpa using h0
        have Hg := hid (show grM M (k + 1) = grM M k by rw [hgs, if_neg (fun h => h0 h.2)]; rfl)
        generalize rgt M k = m at *
        generalize grM M k = n at *
        clear hgs h5 h0
        go_wp2
        go_roundw
        case rel => exact ⟨k + 1, by omega, by go_num, by rw [Hg.out], by (repeat' (first | exact Below.refl _ _ | assumption | refine bdrewN ?_ _ | refine Below.drew ?_ | refine Below.setCell ?_ (Nat.le_refl _) _ | refine bal ?_ _ | refine bthen ?_ (by assumption)))⟩
        case measure => simp [intOf]; omega
      · have b1 : ((rgt M k).kind == 5) = true := by simpa using h5
        have b2 : decide (0 < (rgt M k).lo) = true := by simpa using h0
        have Hg := hid (show grM M (k + 1) = grM M k + 1 by rw [hgs, if_pos ⟨h5, h0⟩])
        generalize rgt M k = m at *
        generalize grM M k = n at *
        clear hgs h5 h0
        go_wp2
        go_roundw
        case rel => exact ⟨k + 1, by omega, by go_num, by rw [Hg.out]; go_num, by (repeat' (first | exact Below.refl _ _ | assumption | refine bdrewN ?_ _ | refine Below.drew ?_ | refine Below.setCell ?_ (Nat.le_refl _) _ | refine bal ?_ _ | refine bthen ?_ (by assumption)))⟩
        case measure => simp [intOf]; omega
    · obtain rfl : k = M.length := by omega
      go_wp2
      go_ret
      exact ⟨rfl, hb⟩
set_option maxHeartbeats 400000 in
theorem spoil_k (base : Nat) (a : Option Addr) (c : Nat) (l : List Int) (w : World) (h : Own w base a c l) :
    Calls Tryz.prog 14 #[.slice a l.length c] w fun e w' => e = .returned (.tuple #[]) ∧ Kpt (Blk a) w w' := by
  have hl := h.2.2
  go_enter Tryz.func14, Tryz.ntmps14
  go_wp2
  go_loopw [2] (fun i wr => ∃ k : Nat, k ≤ l.length ∧ i = .int .i64 k ∧ Own wr base a c (half (fun _ => -9) k l) ∧ Kpt (Blk a) w wr) (fun i _ => l.length - (intOf i).toNat)
  case atStart => exact ⟨0, Nat.zero_le _, rfl, by rw [half_zero]; exact h, Kpt.refl _ _⟩
  case round =>
    obtain ⟨k, hk, rfl, hk1, hk2⟩ := hrel
    by_cases hlt : k < l.length
    · have hsh := hk1.shape
      rcases hsh with ⟨_, _, h0⟩ | ⟨g0, rfl, hg1, hg2, hg3⟩
      · have h1 := half_len (fun _ => -9) k l
        rw [h0] at h1; simp at h1; omega
      · obtain ⟨b', o', he, hcell⟩ := hk1.sl.at (i := k) (by rw [half_len]; exact hlt)
        simp only [Option.some.injEq, Addr.mk.injEq, and_true] at he
        obtain ⟨rfl, rfl⟩ := he
        have ck := hcell k (by rw [half_len]; exact hlt)
        rw [half_gt hlt, Nat.zero_add] at ck
        have fk := hk1.free k
        have Hk1 := hid hk1
        have H := hid h
        clear hcell hk1 hg3 h
        go_wp2
        go_roundw
        case rel =>
          refine ⟨k + 1, by omega, by go_num, ?_, Kpt.setCell hk2 (p := ⟨g0, k, none⟩) ⟨_, rfl, rfl⟩ _⟩
          rw [← half_set hlt]
          exact Hk1.out.stored k (-9) (by omega)
        case measure => simp [intOf]; omega
    · go_wp2
      go_end0
      exact ⟨rfl, hk2⟩
end Go.Proofs.YtefgjicegbhcaaaGreat
