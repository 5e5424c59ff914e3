/- The code's reader: an atom, by what patterns do. -/
import Derived.Test.YtefgjicegbhcaaaGreatRxj
namespace Go.Proofs.YtefgjicegbhcaaaGreat
open Go.RowKit ReM

/-- one new set's node as a list -/
theorem one_set {B : Nat} {w w' : World} {r : Nat} {a : Option Addr} {c : Nat} {p : List Int} {i j x g k1 k2 : Nat} {ng : Bool} {a2 : Option Addr} {d2 : Nat} {L l : List Int} {b : Nat} {cs : Array Value} (hL : L = l) (ho : Own w' w.heap.size a2 d2 L) (hk : KR r w w') (hr : Rdr B w' r a c p j x g 0 0)
    (hb : b = w'.heap.size) (hcs : cs = (encRe.v ⟨2, 0, 0, 0, false, ng, a2, L, d2⟩).toArray) (hij : i < j) (hj : j ≤ p.length) (hg : g ≤ 9) (h1 : 1 ≤ k1) :
    OutP (.ok [nSet ng l] (p.drop j) g) B w.heap.size w r a c p i x k1 k2 (fun k => k = r) (.returned (.slice (some ⟨b, 0, none⟩) 1 1)) (w'.alloc (.cells cs 128)) := by
  subst hL
  refine ⟨_, _, [⟨2, 0, 0, 0, false, ng, a2, L, d2⟩], j, rfl, rfl, ROwn.one Tryz.tyRe _ _ _ hb hk.size _ hcs, Sets.one (ho.alloc _), by omega, hj, (Sml.one _ rfl).mono (by omega) (Nat.le_refl _), rfl, hg, hr.alloc _, hk.alloc _⟩
set_option maxHeartbeats 16000000 in
theorem atom_c (B : Nat) (w : World) (r : Nat) (a : Option Addr) (c : Nat) (p : List Int) (k i g d : Nat) (h : Rdr B w r a c p i d g 0 0) (hi : i < p.length) (hT : Txt1 p) (hd : d ≤ 12) (hg : g ≤ 9) (hk : 4 * (p.length - i) ≤ k + 2)
    (IH : PatC B r a c p k) :
    Calls Tryz.prog 126 #[.pointer (some ⟨r, 0, none⟩)] w (OutP (atomI p k i g d) B w.heap.size w r a c p i d 1 1 (fun k => k = r)) := by
  have hl := hT.1
  have hB := h.Bw
  have hrw : r < w.heap.size := h.lt
  have hrg := nx_rng h.sl.rng i
  have C := hid (next_o B w r a c p i d g 0 0 h (by omega))
  obtain ⟨R, hR⟩ : ∃ R, R = atomI p k i g d := ⟨_, rfl⟩
  rw [← hR]
  have HR := hid hR
  clear hR
  by_cases hm : meta4 (nx p i) = true
  · have eR : atomI p k i g d = .bad 5 i := by
      have hne : nx p i ≠ 46 ∧ nx p i ≠ 40 ∧ nx p i ≠ 91 ∧ nx p i ≠ 92 := by
        simp [meta4] at hm; omega
      unfold atomI; rw [if_neg hne.1, if_neg hne.2.1, if_neg hne.2.2.1, if_neg hne.2.2.2, if_pos hm]
    have ER := hid (HR.out.trans eR)
    clear eR IH h
    have hq : nx p i = 42 ∨ nx p i = 43 ∨ nx p i = 63 ∨ nx p i = 123 := by simp [meta4] at hm; omega
    clear hm
    rcases hq with hq | hq | hq | hq
    all_goals
      rw [hq] at C
      go_enter Tryz.func126, Tryz.ntmps126
      go_wp2_with fail
      refine C.out.mono ?_
      rintro _ w1 ⟨rfl, h1, k1⟩
      have K1 := hid k1
      clear k1 hq
      (have c0 := h1.c0; have c1 := h1.c1; have c2 := h1.c2; have c3 := h1.c3; have c4 := h1.c4; have c5 := h1.c5; have f1 := h1.fz 1; have f2 := h1.fz 2; have f3 := h1.fz 3; have f4 := h1.fz 4; have f5 := h1.fz 5; have rl := h1.lt; have Hh1 := hid h1; clear h1)
      go_wp2_with fail
      refine (fail_one 5 i B w1 r a c p i d g 0 Hh1.out).mono ?_
      rintro _ w2 ⟨rfl, h2, k2⟩
      have H2 := hid h2
      have K2 := hid (K1.out.tr k2)
      clear h2 k2
      go_wp2_with fail
      go_ret
      rw [ER.out]
      exact ⟨none, 0, [], g, rfl, ROwn.nil _ _, Sml.nil _ _, by decide, H2.out, K2.out⟩
  by_cases h40 : nx p i = 40
  · have hG := fun w' h' => hid (group_c B w' r a c p k i g d h' hi hT hd hg hk h40 IH)
    have HG := hid hG
    rw [h40] at C
    clear hm IH h hG
    go_enter Tryz.func126, Tryz.ntmps126
    go_wp2_with fail
    refine C.out.mono ?_
    rintro _ w1 ⟨rfl, h1, k1⟩
    have hz1 := k1.size
    have K1 := hid k1
    have G1 := (HG.out w1 h1).out
    have HG1 := hid G1
    clear k1 h1 G1 HG C
    go_wp2_with fail
    refine HG1.out.mono ?_
    rintro e2 w2 hx
    rw [← HR.out] at hx
    cases hR : R with
    | bad e f =>
      rw [hR] at hx
      obtain ⟨a2, d2, L, y, rfl, ho, hs, he, h4, k4⟩ := hx
      have Hx := hid (And.intro (ho.base_le (base' := w.heap.size) hz1) (And.intro hs (And.intro he (And.intro h4 (K1.out.tr k4)))))
      have HR2 := hid hR
      clear ho hs he h4 k4 hR
      go_wp2_with fail
      go_ret
      rw [HR2.out]
      exact ⟨a2, d2, L, y, rfl, Hx.out⟩
    | ok l s g1 =>
      rw [hR] at hx
      obtain ⟨a2, d2, L, j, rfl, hrn, ho, hS, hij, hjn, hs, hs1, hg1, h4, k4⟩ := hx
      have Hx := hid (And.intro hrn (And.intro (ho.base_le (base' := w.heap.size) hz1) (And.intro (hS.base_le hz1) (And.intro hij (And.intro hjn (And.intro hs (And.intro hs1 (And.intro hg1 (And.intro h4 (K1.out.tr k4))))))))))
      have HR2 := hid hR
      clear hrn ho hS hs hs1 h4 k4 hR
      go_wp2_with fail
      go_ret
      rw [HR2.out]
      exact ⟨a2, d2, L, j, rfl, Hx.out⟩
  have hb : (nx p i == 42) = false ∧ (nx p i == 43) = false ∧ (nx p i == 63) = false ∧ (nx p i == 123) = false ∧ (nx p i == 40) = false := by
    simp [meta4] at hm; simp; omega
  obtain ⟨b1, b2, b3, b4, b5⟩ := hb
  by_cases h91 : nx p i = 91
  · rw [h91] at C
    have eR : atomI p k i g d = (if nx p (i + 1) = 94 then clsI p true (i + 2) g else clsI p false (i + 1) g) := by
      unfold atomI; rw [if_neg (by rw [h91]; decide), if_neg (by rw [h91]; decide), if_pos h91]
    clear IH h hm h40 b1 b2 b3 b4 b5
    obtain ⟨neg, i2, hs2, hi2, hi3, eR2⟩ : ∃ (neg : Bool) (i2 : Nat), ((neg = true ∧ nx p (i + 1) = 94 ∧ i2 = i + 1 + 1) ∨ (neg = false ∧ nx p (i + 1) ≠ 94 ∧ i2 = i + 1)) ∧ i + 1 ≤ i2 ∧ i2 ≤ p.length ∧ atomI p k i g d = clsI p neg i2 g := by
      by_cases h94 : nx p (i + 1) = 94
      · have := nx_is h94 (by decide)
        exact ⟨true, i + 2, .inl ⟨rfl, h94, rfl⟩, by omega, by omega, by rw [eR, if_pos h94]⟩
      · exact ⟨false, i + 1, .inr ⟨rfl, h94, rfl⟩, by omega, by omega, by rw [eR, if_neg h94]⟩
    have ER := hid (HR.out.trans eR2)
    have HC := hid (fun w' h' => class_c' neg _ (i + 1) i2 B w' r a c p d g h' hT hi2 hi3 rfl hs2)
    clear eR eR2 hs2
    go_enter Tryz.func126, Tryz.ntmps126
    go_wp2_with fail
    refine C.out.mono ?_
    rintro _ w1 ⟨rfl, h1, k1⟩
    have hz1 := k1.size
    have K1 := hid k1
    clear k1
    (have c0 := h1.c0; have c1 := h1.c1; have c2 := h1.c2; have c3 := h1.c3; have c4 := h1.c4; have c5 := h1.c5; have f1 := h1.fz 1; have f2 := h1.fz 2; have f3 := h1.fz 3; have f4 := h1.fz 4; have f5 := h1.fz 5; have rl := h1.lt; have Hh1 := hid h1; clear h1)
    have HC1 := hid (HC.out _ (Hh1.out.set1 (i + 1)))
    clear HC C
    go_wp2_with fail
    refine HC1.out.mono ?_
    rintro e2 w2 hx
    unfold ClsP at hx
    cases hX : clsF CC p.length [] (p.drop i2) with
    | bad f =>
      rw [hX] at hx
      obtain ⟨l, a2, d2, L, rfl, hl2, ⟨hL, ho, k4⟩, h4⟩ := hx
      have Hx := hid (And.intro ho (And.intro k4 h4))
      have e : R = .bad 5 f := by rw [ER.out]; unfold clsI; rw [hX]
      have E := hid e
      clear ho k4 h4 hX HC1 e
      unfold nodV
      clear rl c0 c1 c2 c3 c4 c5 f1 f2 f3 f4 f5
      go_wp2_with fail
      go_ret
      rw [E.out]
      exact ⟨_, _, [⟨2, 0, 0, 0, false, neg, a2, L, d2⟩], g, rfl, ROwn.one Tryz.tyRe _ _ _ rfl (by have h1 := Hx.out.2.1.size; simp only [World.size_setCell] at h1; omega) _ rfl, (Sml.one _ rfl).mono (by omega) (Nat.le_refl _), by decide, Hx.out.2.2.alloc _, ((K1.out.set _).tr Hx.out.2.1).alloc _⟩
    | ok l s =>
      rw [hX] at hx
      obtain ⟨a2, d2, L, rfl, hl2, ⟨hL, ho, k4⟩, j, hij, hjn, hs, h4⟩ := hx
      have e : R = .ok [nSet neg l] (p.drop j) g := by rw [ER.out]; unfold clsI; rw [hX, hs]
      have E := hid e
      have Hx := hid (And.intro ho (And.intro k4 h4))
      clear ho k4 h4 hX HC1 hs e
      unfold nodV
      clear rl c0 c1 c2 c3 c4 c5 f1 f2 f3 f4 f5
      go_wp2_with fail
      go_ret
      rw [E.out]
      exact one_set hL.out (Hx.out.1.base_le (by simpa using hz1)) ((K1.out.set _).tr Hx.out.2.1) Hx.out.2.2 rfl rfl (by omega) hjn hg (Nat.le_refl _)
  by_cases h92 : nx p i = 92
  · rw [h92] at C
    have eR : atomI p k i g d = (match mean CC (nx p (i + 1)) with
        | none => .bad 5 (i + 1 : Nat)
        | some (l, ng) => .ok [nSet ng l] (p.drop (i + 2)) g) := by
      unfold atomI; rw [if_neg (by rw [h92]; decide), if_neg (by rw [h92]; decide), if_neg (by rw [h92]; decide), if_pos h92]
      cases mean CC (nx p (i + 1)) <;> rfl
    have ER := hid (HR.out.trans eR)
    have HC := hid (fun w' h' => escaped_c B w' r a c p (i + 1) d g h' (by omega) hT)
    clear IH h hm h40 b1 b2 b3 b4 b5 eR
    go_enter Tryz.func126, Tryz.ntmps126
    go_wp2_with fail
    refine C.out.mono ?_
    rintro _ w1 ⟨rfl, h1, k1⟩
    have hz1 := k1.size
    have K1 := hid k1
    clear k1
    (have c0 := h1.c0; have c1 := h1.c1; have c2 := h1.c2; have c3 := h1.c3; have c4 := h1.c4; have c5 := h1.c5; have f1 := h1.fz 1; have f2 := h1.fz 2; have f3 := h1.fz 3; have f4 := h1.fz 4; have f5 := h1.fz 5; have rl := h1.lt; have Hh1 := hid h1; clear h1)
    have HC1 := hid (HC.out _ (Hh1.out.set1 (i + 1)))
    clear HC C
    go_wp2_with fail
    refine HC1.out.mono ?_
    rintro e2 w2 hx
    unfold EscE at hx
    cases hX : mean CC (nx p (i + 1)) with
    | none =>
      rw [hX] at hx
      obtain ⟨rfl, k4, h4⟩ := hx
      have e : R = .bad 5 (i + 1 : Nat) := by rw [ER.out, hX]
      have E := hid e
      have Hx := hid (And.intro k4 h4)
      clear k4 h4 hX HC1 e
      unfold nodV
      clear rl c0 c1 c2 c3 c4 c5 f1 f2 f3 f4 f5
      go_wp2_with fail
      go_ret
      rw [E.out]
      exact ⟨_, _, [⟨2, 0, 0, 0, false, false, none, [], 0⟩], g, rfl, ROwn.one Tryz.tyRe _ _ _ rfl (by have h1 := Hx.out.1.size; simp only [World.size_setCell] at h1; omega) _ rfl, (Sml.one _ rfl).mono (by omega) (Nat.le_refl _), by decide, Hx.out.2.alloc _, ((K1.out.set _).tr Hx.out.1).alloc _⟩
    | some v =>
      obtain ⟨l, ng⟩ := v
      rw [hX] at hx
      have hnx : i + 1 < p.length := by
        rcases Nat.lt_or_ge (i + 1) p.length with h1 | h1
        · exact h1
        · rw [nx_end h1, mean_end] at hX; cases hX
      obtain ⟨a2, d2, L, rfl, ⟨hL, ho, k4⟩, h4⟩ := hx
      have e : R = .ok [nSet ng l] (p.drop (i + 2)) g := by rw [ER.out, hX]
      have E := hid e
      have Hx := hid (And.intro ho (And.intro k4 h4))
      clear ho k4 h4 hX HC1 e
      unfold nodV
      clear rl c0 c1 c2 c3 c4 c5 f1 f2 f3 f4 f5
      go_wp2_with fail
      go_ret
      rw [E.out]
      exact one_set hL.out (Hx.out.1.base_le (by simpa using hz1)) ((K1.out.set _).tr Hx.out.2.1) Hx.out.2.2 rfl rfl (by omega) (by omega) hg (Nat.le_refl _)
  by_cases h46 : nx p i = 46
  · rw [h46] at C
    have eR : atomI p k i g d = .ok [nSet true [10, 10]] (p.drop (i + 1)) g := by
      unfold atomI; rw [if_pos h46]
    have ER := hid (HR.out.trans eR)
    clear IH h hm h40 b1 b2 b3 b4 b5 eR
    go_enter Tryz.func126, Tryz.ntmps126
    go_wp2_with fail
    refine C.out.mono ?_
    rintro _ w1 ⟨rfl, h1, k1⟩
    have hz1 := k1.size
    have K1 := hid k1
    clear k1
    (have c0 := h1.c0; have c1 := h1.c1; have c2 := h1.c2; have c3 := h1.c3; have c4 := h1.c4; have c5 := h1.c5; have f1 := h1.fz 1; have f2 := h1.fz 2; have f3 := h1.fz 3; have f4 := h1.fz 4; have f5 := h1.fz 5; have rl := h1.lt; have Hh1 := hid h1; clear h1)
    go_wp2_with fail
    refine (only_c 10 _ (by omega)).mono ?_
    rintro _ w2 ⟨a2, d2, L, rfl, hL, ho, b2⟩
    have Hx := hid (And.intro ho b2)
    clear ho b2
    clear rl c0 c1 c2 c3 c4 c5 f1 f2 f3 f4 f5
    go_wp2_with fail
    go_ret
    rw [ER.out]
    exact one_set hL.out (Hx.out.1.base_le (by simpa using hz1)) ((K1.out.set _).bel Hx.out.2 (by simpa using hz1)) ((Hh1.out.set1 (i + 1)).bel Hx.out.2) rfl rfl (by omega) (by omega) hg (Nat.le_refl _)
  have eR : atomI p k i g d = .ok [nSet false [nx p i, nx p i]] (p.drop (i + 1)) g := by
    unfold atomI; rw [if_neg h46, if_neg h40, if_neg h91, if_neg h92, if_neg hm]
  have ER := hid (HR.out.trans eR)
  have b6 : (nx p i == 91) = false := by simpa using h91
  have b7 : (nx p i == 92) = false := by simpa using h92
  have b8 : (nx p i == 46) = false := by simpa using h46
  generalize nx p i = q at *
  clear IH h hm h40 h91 h92 h46 eR
  go_enter Tryz.func126, Tryz.ntmps126
  go_wp2_with fail
  refine C.out.mono ?_
  rintro _ w1 ⟨rfl, h1, k1⟩
  have hz1 := k1.size
  have K1 := hid k1
  clear k1
  (have c0 := h1.c0; have c1 := h1.c1; have c2 := h1.c2; have c3 := h1.c3; have c4 := h1.c4; have c5 := h1.c5; have f1 := h1.fz 1; have f2 := h1.fz 2; have f3 := h1.fz 3; have f4 := h1.fz 4; have f5 := h1.fz 5; have rl := h1.lt; have Hh1 := hid h1; clear h1)
  go_wp2_with fail
  refine (only_c q _ hrg).mono ?_
  rintro _ w2 ⟨a2, d2, L, rfl, hL, ho, b2⟩
  have Hx := hid (And.intro ho b2)
  clear ho b2
  clear rl c0 c1 c2 c3 c4 c5 f1 f2 f3 f4 f5
  go_wp2_with fail
  go_ret
  rw [ER.out]
  exact one_set hL.out (Hx.out.1.base_le (by simpa using hz1)) ((K1.out.set _).bel Hx.out.2 (by simpa using hz1)) ((Hh1.out.set1 (i + 1)).bel Hx.out.2) rfl rfl (by omega) (by omega) hg (Nat.le_refl _)
end Go.Proofs.YtefgjicegbhcaaaGreat
