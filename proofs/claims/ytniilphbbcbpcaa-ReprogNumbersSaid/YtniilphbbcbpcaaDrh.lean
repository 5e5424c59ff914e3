/- The document's reader: a group. -/
import Derived.Test.YtniilphbbcbpcaaDrf
import Derived.Test.YtniilphbbcbpcaaReA
namespace Go.Proofs.Ytniilphbbcbpcaa
open Go.RowKit ReM

/-- what the document's patterns leave, with rounds k -/
def PatD (B r : Nat) (a : Option Addr) (c : Nat) (p : List Int) (k : Nat) : Prop := ∀ (w : World) (i g d : Nat), Rdr B w r a c p i g d 0 0 → i ≤ p.length → d ≤ 12 → g ≤ 9 → 4 * (p.length - i) + 2 ≤ k →
  Calls Try.prog 32 #[.pointer (some ⟨r, 0, none⟩)] w (OutD (altP CC p.length k (p.drop i) g d) B w r a c p i d 4 4)
set_option maxRecDepth 20000 in
set_option maxHeartbeats 32000000 in
theorem dgroup_c (B : Nat) (w : World) (r : Nat) (a : Option Addr) (c : Nat) (p : List Int) (k i g d : Nat) (h : Rdr B w r a c p i g d 0 0) (hi : i < p.length) (hT : Txt1 p) (hd : d ≤ 12) (hg : g ≤ 9) (hk : 4 * (p.length - i) ≤ k + 2)
    (h40 : nx p i = 40) (IH : PatD B r a c p k) :
    Calls Try.prog 81 #[.pointer (some ⟨r, 0, none⟩)] w (OutD (atomI p k i g d) B w r a c p i d 1 1) := by
  have hl := hT.1
  have hB := h.Bw
  have hrw : r < w.heap.size := h.lt
  have W0 : IntKind.i64.wrap ((i : Int) + 1) = ((i + 1 : Nat) : Int) := by rw [IntKind.wrap_i64]; omega
  obtain ⟨X, hX⟩ : ∃ X, X = atomI p k i g d := ⟨_, rfl⟩
  rw [← hX]
  unfold atomI at hX
  rw [if_neg (by omega), if_pos h40] at hX
  obtain ⟨V, hV⟩ : ∃ V, V = (w.setCell ⟨r, 1, none⟩ (.int .i64 ((i : Int) + 1))).alloc (.cells #[.int .i64 5, .int .i64 0, .int .i64 0, .int .i64 0, .bool false, .bool false, .slice none 0 0] 50) := ⟨_, rfl⟩
  have nV : NdC V w.heap.size 5 0 0 0 false false (.slice none 0 0) := by rw [hV]; exact NdC.new _ _ _ _ _ _ _ _ _ _ (by simp)
  have rV : Rdr B V r a c p (i + 1) g d 0 0 := by
    rw [hV]
    have := h.set1 (i + 1)
    rw [show ((i + 1 : Nat) : Int) = (i : Int) + 1 by omega] at this
    exact this.alloc _
  have kV : KR r w V := by rw [hV]; exact ((KR.refl r w).set _).alloc _
  (have c0 := h.c0; have c1 := h.c1; have c2 := h.c2; have c3 := h.c3; have c4 := h.c4; have c5 := h.c5; have f1 := h.fz 1; have f2 := h.fz 2; have f3 := h.fz 3; have f4 := h.fz 4; have f5 := h.fz 5; have rl := h.lt; have Hh := hid h; clear h)
  have HNV := hid nV
  have HRV := hid rV
  have HKV := hid kV
  have hnx : ∀ q, nx p q ≠ -1 → q < p.length := fun q hq => by
    rcases Nat.lt_or_ge q p.length with h1 | h1
    · exact h1
    · exact absurd (nx_end h1) hq
  have n63 := hnx (i + 1)
  have n58 := hnx (i + 2)
  clear Hh hnx nV rV kV
  by_cases hd12 : 12 ≤ d
  · rw [if_pos hd12] at hX
    have bd : decide ((12 : Int) ≤ (d : Int)) = true := decide_eq_true (by omega)
    have HX := hid hX
    clear hX n63 n58
    skip
    go_enter Try.func81, Try.ntmps81
    go_upto_region 4 with fail
    rw [← hV]; clear hV
    clear rl c0 c1 c2 c3 c4 c5 f1 f2 f3 f4 f5
    have hh := HRV.out
    (have c0 := hh.c0; have c1 := hh.c1; have c2 := hh.c2; have c3 := hh.c3; have c4 := hh.c4; have c5 := hh.c5; have f1 := hh.fz 1; have f2 := hh.fz 2; have f3 := hh.fz 3; have f4 := hh.fz 4; have f5 := hh.fz 5; have rl := hh.lt; have Hhh := hid hh; clear hh)
    go_wp2_with fail
    refine (dbad_one 6 i B _ r a c p (i + 1) g d 0 Hhh.out).mono ?_
    rintro _ w3 ⟨rfl, h3, k3⟩
    have H3 := hid h3
    have K3 := hid (HKV.out.tr k3)
    clear h3 k3
    go_wp2_with fail
    go_ret
    rw [HX.out]
    exact ⟨none, 0, [], i + 1, g, rfl, ROwn.nil _ _, Sml.nil _ _, by decide, by omega, H3.out, K3.out⟩
  rw [if_neg hd12] at hX
  have bd : decide ((12 : Int) ≤ (d : Int)) = false := decide_eq_false (by omega)
  by_cases h63 : nx p (i + 1) = 63
  · have l63 := n63 (by omega)
    rw [if_pos h63] at hX
    have W2 : IntKind.i64.wrap ((i : Int) + 1 + 1) = ((i + 2 : Nat) : Int) := by rw [IntKind.wrap_i64]; omega
    have W3 : IntKind.i64.wrap ((i : Int) + 2 + 1) = ((i + 3 : Nat) : Int) := by rw [IntKind.wrap_i64]; omega
    by_cases h58 : nx p (i + 2) = 58
    · have l58 := n58 (by omega)
      rw [if_pos h58] at hX
      have HXg := hid hX
      clear hX n63 n58
      skip
      go_enter Try.func81, Try.ntmps81
      go_upto_region 4 with fail
      rw [← hV]; clear hV
      clear rl c0 c1 c2 c3 c4 c5 f1 f2 f3 f4 f5
      have hh := HRV.out
      (have c0 := hh.c0; have c1 := hh.c1; have c2 := hh.c2; have c3 := hh.c3; have c4 := hh.c4; have c5 := hh.c5; have f1 := hh.fz 1; have f2 := hh.fz 2; have f3 := hh.fz 3; have f4 := hh.fz 4; have f5 := hh.fz 5; have rl := hh.lt; have Hhh := hid hh; clear hh)
      go_wp2_with fail
      refine (dnext_c B _ r a c p (i + 1) g d 0 0 Hhh.out).mono ?_
      clear rl c0 c1 c2 c3 c4 c5 f1 f2 f3 f4 f5
      rw [h63]
      rintro _ w3 ⟨rfl, h3, k3⟩
      have HN3 := hid (HNV.out.kpt k3 (by omega))
      have HK3 := hid (HKV.out.tr k3)
      clear k3 Hhh
      (have c0 := h3.c0; have c1 := h3.c1; have c2 := h3.c2; have c3 := h3.c3; have c4 := h3.c4; have c5 := h3.c5; have f1 := h3.fz 1; have f2 := h3.fz 2; have f3 := h3.fz 3; have f4 := h3.fz 4; have f5 := h3.fz 5; have rl := h3.lt; have Hh3 := hid h3; clear h3)
      have H4 := hid (Hh3.out.set1 (i + 2))
      have S4 := hid ((KR.refl r w3).set (o := 1) (.int .i64 ((i + 2 : Nat) : Int)))
      clear Hh3
      go_wp2_with fail
      refine (dnext_c B _ r a c p (i + 2) g d 0 0 H4.out).mono ?_
      clear rl c0 c1 c2 c3 c4 c5 f1 f2 f3 f4 f5
      rw [h58]
      rintro _ w5 ⟨rfl, h5, k5⟩
      have HN5 := hid ((HN3.out.kpt S4.out (by omega)).kpt k5 (by omega))
      have HK5 := hid ((HK3.out.tr S4.out).tr k5)
      clear k5 H4 S4 HN3 HK3
      (have c0 := h5.c0; have c1 := h5.c1; have c2 := h5.c2; have c3 := h5.c3; have c4 := h5.c4; have c5 := h5.c5; have f1 := h5.fz 1; have f2 := h5.fz 2; have f3 := h5.fz 3; have f4 := h5.fz 4; have f5 := h5.fz 5; have rl := h5.lt; have Hh5 := hid h5; clear h5)
      have HRz := hid (Hh5.out.set1 (i + 3))
      have HKz := hid (HK5.out.set (o := 1) (.int .i64 ((i + 3 : Nat) : Int)))
      have HNz := hid (HN5.out.kpt ((KR.refl r _).set (o := 1) (.int .i64 ((i + 3 : Nat) : Int))) (by omega))
      clear Hh5
      go_upto_region 18 with fail
      clear rl c0 c1 c2 c3 c4 c5 f1 f2 f3 f4 f5
      rw [show ((i + 3 : Nat) : Int) = (i : Int) + 3 by omega] at HRz HKz HNz
      generalize hW : w5.setCell ⟨r, 1, none⟩ (.int .i64 ((i : Int) + 3)) = Wz at HRz HKz HNz ⊢
      clear hW
      have h0 := HRz.out
      (have c0 := h0.c0; have c1 := h0.c1; have c2 := h0.c2; have c3 := h0.c3; have c4 := h0.c4; have c5 := h0.c5; have f1 := h0.fz 1; have f2 := h0.fz 2; have f3 := h0.fz 3; have f4 := h0.fz 4; have f5 := h0.fz 5; have rl := h0.lt; have Hh0 := hid h0; clear h0)
      have Wd : IntKind.i64.wrap ((d : Int) + 1) = ((d + 1 : Nat) : Int) := by rw [IntKind.wrap_i64]; omega
      have Wm : IntKind.i64.wrap (((d + 1 : Nat) : Int) - 1) = (d : Int) := by rw [IntKind.wrap_i64]; omega
      have Wm' : IntKind.i64.wrap ((d : Int) + 1 - 1) = (d : Int) := by rw [IntKind.wrap_i64]; omega
      have HR1 := hid (Hh0.out.set3 (d + 1))
      have HK1 := hid (HKz.out.set (o := 3) (.int .i64 ((d + 1 : Nat) : Int)))
      have HN1 := hid (HNz.out.kpt ((KR.refl r _).set (o := 3) (.int .i64 ((d + 1 : Nat) : Int))) (by omega))
      have PC := hid (IH _ (i + 3) (g) (d + 1) HR1.out (by omega) (by omega) (by omega) (by omega))
      clear Hh0
      go_wp2_with fail
      clear rl c0 c1 c2 c3 c4 c5 f1 f2 f3 f4 f5
      refine PC.out.mono ?_
      clear PC
      rintro e5 w5 ho
      cases hA : altP CC p.length k (p.drop (i + 3)) (g) (d + 1) with
      | bad e f =>
        rw [hA] at ho
        obtain ⟨a2, c2, L, j, y, rfl, o2, s2, he, hj, h5, k5⟩ := ho
        have be : (e == 0) = false := by simpa using he
        have HXf : Hid (X = .bad e f) := by rw [Hid, HXg.out]; unfold grpI; rw [hA]
        have HK5 := hid (HK1.out.tr k5)
        have HN5 := hid (HN1.out.kpt k5 (by omega))
        have HO5 := hid o2
        have HS5 := hid s2
        have zk := HK1.out.size
        have z5 := HK5.out.size
        have hl2 := s2.len
        (have c0 := h5.c0; have c1 := h5.c1; have c2 := h5.c2; have c3 := h5.c3; have c4 := h5.c4; have c5 := h5.c5; have f1 := h5.fz 1; have f2 := h5.fz 2; have f3 := h5.fz 3; have f4 := h5.fz 4; have f5 := h5.fz 5; have rl := h5.lt; have Hh5 := hid h5; clear h5)
        have HR6 := hid (Hh5.out.set3 d)
        have HK6 := hid (HK5.out.set (o := 3) (.int .i64 (d : Int)))
        have HN6 := hid (HN5.out.kpt ((KR.refl r _).set (o := 3) (.int .i64 (d : Int))) (by omega))
        have HO6 := hid (HO5.out.kr ((KR.refl r _).set (o := 3) (.int .i64 (d : Int))) (by omega))
        have He := hid he
        clear hA o2 s2 k5 Hh5 he
        skip
        go_wp2_with fail
        clear rl c0 c1 c2 c3 c4 c5 f1 f2 f3 f4 f5
        refine (dok_c B _ r a c p j y d e f HR6.out).mono ?_
        rintro _ w7 ⟨rfl, h7, k7⟩
        have HK7 := hid (HK6.out.tr k7)
        have HN7 := hid (HN6.out.kpt k7 (by omega))
        have HO7 := hid (HO6.out.kr k7 (by omega))
        have Wj : IntKind.i64.wrap ((j : Int) + 1) = ((j + 1 : Nat) : Int) := by rw [IntKind.wrap_i64]; omega
        clear k7
        (have c0 := h7.c0; have c1 := h7.c1; have c2 := h7.c2; have c3 := h7.c3; have c4 := h7.c4; have c5 := h7.c5; have f1 := h7.fz 1; have f2 := h7.fz 2; have f3 := h7.fz 3; have f4 := h7.fz 4; have f5 := h7.fz 5; have rl := h7.lt; have Hh7 := hid h7; clear h7)
        have HR8 := hid (Hh7.out.set1 (j + 1))
        have HK8 := hid (HK7.out.set (o := 1) (.int .i64 ((j + 1 : Nat) : Int)))
        have HN8 := hid (HN7.out.kpt ((KR.refl r _).set (o := 1) (.int .i64 ((j + 1 : Nat) : Int))) (by omega))
        have HO8 := hid (HO7.out.kr ((KR.refl r _).set (o := 1) (.int .i64 ((j + 1 : Nat) : Int))) (by omega))
        clear Hh7
        go_upto_region 24 with fail
        clear rl c0 c1 c2 c3 c4 c5 f1 f2 f3 f4 f5
        rw [show ((j + 1 : Nat) : Int) = (j : Int) + 1 by omega] at HR8 HK8 HN8 HO8
        generalize hW : w7.setCell ⟨r, 1, none⟩ (.int .i64 ((j : Int) + 1)) = W8 at HR8 HK8 HN8 HO8 ⊢
        clear hW
        obtain ⟨m, hm⟩ : ∃ m : Rm, m = ⟨5, 0, (0), 0, false, false, none, [], 0⟩ := ⟨_, rfl⟩
        have Hm := hid hm
        have n8 : NdC W8 w.heap.size m.kind m.deep m.lo m.hi m.lazy m.not (.slice m.sa m.set.length m.sc) := by rw [hm]; exact HN8.out
        clear hm
        (have n0 := n8.c0; have n1 := n8.c1; have n2 := n8.c2; have n3 := n8.c3; have n4 := n8.c4; have n5 := n8.c5; have n6 := n8.c6; have nf0 := n8.fz 0; have nf1 := n8.fz 1; have nf2 := n8.fz 2; have nf3 := n8.fz 3; have nf4 := n8.fz 4; have nf5 := n8.fz 5; have nf6 := n8.fz 6; have nz := n8.lt; clear n8)
        have zW := HK8.out.size
        have LC := hid (lower_d w.heap.size (some ⟨W8.heap.size, 0, none⟩) a2 1 c2 [m] L (W8.alloc (.cells #[.int .i64 m.kind, .int .i64 m.deep, .int .i64 m.lo, .int .i64 m.hi, .bool m.lazy, .bool m.not, .slice m.sa m.set.length m.sc] 50)) (ROwn.one Try.tyRe m _ _ rfl zW _ rfl) (HO8.out.sl.alloc _) (fun ad had hb => by
          obtain ⟨ae, hae, hbb⟩ := hb
          cases hae
          have := (HO8.out.lt ⟨ad, had, rfl⟩).2
          have hbb' : W8.heap.size = ad.block := hbb
          omega) (by simp; omega) (HS5.out.mono (by omega) (by omega)) (by simp))
        go_wp2_with (go_at_call 49; refine LC.out.mono ?_)
        rintro _ w9 ⟨a9, c9, L9, rfl, hL9, o9, k9, -⟩
        have b9 : Below W8.heap.size W8 w9 := ((Below.refl _ _).alloc (Nat.le_refl _) _).trans (k9.below (fun q hq => by obtain ⟨ae, hae, hbb⟩ := hq; cases hae; exact Nat.le_of_eq hbb) (by simp))
        have H9 := hid o9
        have HL9 := hid hL9
        have B9 := hid b9
        clear o9 k9 b9 hL9 LC
        go_wp2_with fail
        go_ret
        rw [HXf.out]
        refine ⟨a9, c9, L9, j + 1, y, rfl, H9.out, ?_, He.out, by omega, HR8.out.bel B9.out, HK8.out.thn B9.out⟩
        rw [HL9.out.out]
        exact ((Sml.one (4 * (p.length - i) + 1 - 2) (by rw [Hm.out])).app ((HS5.out.low).mono (Nat.le_refl _) (by omega))).mono (by omega) (Nat.le_refl _)
      | ok l s1 g1 =>
        rw [hA] at ho
        obtain ⟨a2, c2, L, j, rfl, hr2, o2, t2, hj0, hj1, s2, hs1, hg1, h5, k5⟩ := ho
        have HA := hid hA
        subst hs1
        have HK5 := hid (HK1.out.tr k5)
        have HN5 := hid (HN1.out.kpt k5 (by omega))
        have HO5 := hid o2
        have HS5 := hid s2
        have HT5 := hid t2
        have HRn := hid hr2
        have zk := HK1.out.size
        have z5 := HK5.out.size
        have hl2 := s2.len
        (have c0 := h5.c0; have c1 := h5.c1; have c2 := h5.c2; have c3 := h5.c3; have c4 := h5.c4; have c5 := h5.c5; have f1 := h5.fz 1; have f2 := h5.fz 2; have f3 := h5.fz 3; have f4 := h5.fz 4; have f5 := h5.fz 5; have rl := h5.lt; have Hh5 := hid h5; clear h5)
        have HR6 := hid (Hh5.out.set3 d)
        have HK6 := hid (HK5.out.set (o := 3) (.int .i64 (d : Int)))
        have HN6 := hid (HN5.out.kpt ((KR.refl r _).set (o := 3) (.int .i64 (d : Int))) (by omega))
        have HO6 := hid (HO5.out.kr ((KR.refl r _).set (o := 3) (.int .i64 (d : Int))) (by omega))
        have HT6 := hid (HT5.out.kr ((KR.refl r _).set (o := 3) (.int .i64 (d : Int))) (by omega))
        have Wj : IntKind.i64.wrap ((j : Int) + 1) = ((j + 1 : Nat) : Int) := by rw [IntKind.wrap_i64]; omega
        clear hA o2 s2 t2 k5 Hh5 hr2
        go_wp2_with fail
        clear rl c0 c1 c2 c3 c4 c5 f1 f2 f3 f4 f5
        refine (dok_c B _ r a c p j g1 d 0 0 HR6.out).mono ?_
        rintro _ w6 ⟨rfl, h6, k6⟩
        have H6 := hid h6
        have K6 := hid k6
        clear h6 k6
        go_wp2_with fail
        refine (dnext_c B _ r a c p j g1 d 0 0 H6.out).mono ?_
        rintro _ w7 ⟨rfl, h7, k7⟩
        have HK7 := hid ((HK6.out.tr K6.out).tr k7)
        have HN7 := hid ((HN6.out.kpt K6.out (by omega)).kpt k7 (by omega))
        have HO7 := hid ((HO6.out.kr K6.out (by omega)).kr k7 (by omega))
        have HT7 := hid ((HT6.out.kr K6.out (by omega)).kr k7 (by omega))
        clear k7
        by_cases h41 : nx p j = 41
        · have jl : j < p.length := by
            rcases Nat.lt_or_ge j p.length with h1 | h1
            · exact h1
            · rw [nx_end h1] at h41; omega
          have HXo : Hid (X = .ok (nGroup (0) :: lower l) (p.drop (j + 1)) g1) := by
            rw [Hid, HXg.out]; unfold grpI; rw [HA.out]; dsimp only; rw [drop_nx jl, h41]; rfl
          rw [h41]
          (have c0 := h7.c0; have c1 := h7.c1; have c2 := h7.c2; have c3 := h7.c3; have c4 := h7.c4; have c5 := h7.c5; have f1 := h7.fz 1; have f2 := h7.fz 2; have f3 := h7.fz 3; have f4 := h7.fz 4; have f5 := h7.fz 5; have rl := h7.lt; have Hh7 := hid h7; clear h7)
          have HR8 := hid (Hh7.out.set1 (j + 1))
          have HK8 := hid (HK7.out.set (o := 1) (.int .i64 ((j + 1 : Nat) : Int)))
          have HN8 := hid (HN7.out.kpt ((KR.refl r _).set (o := 1) (.int .i64 ((j + 1 : Nat) : Int))) (by omega))
          have HO8 := hid (HO7.out.kr ((KR.refl r _).set (o := 1) (.int .i64 ((j + 1 : Nat) : Int))) (by omega))
          have HT8 := hid (HT7.out.kr ((KR.refl r _).set (o := 1) (.int .i64 ((j + 1 : Nat) : Int))) (by omega))
          clear Hh7 h41
          rw [show ((j + 1 : Nat) : Int) = (j : Int) + 1 by omega] at HT8
          go_upto_region 24 with fail
          clear rl c0 c1 c2 c3 c4 c5 f1 f2 f3 f4 f5
          rw [show ((j + 1 : Nat) : Int) = (j : Int) + 1 by omega] at HR8 HK8 HN8 HO8
          generalize hW : w7.setCell ⟨r, 1, none⟩ (.int .i64 ((j : Int) + 1)) = W8 at HR8 HK8 HN8 HO8 HT8 ⊢
          clear hW
          obtain ⟨m, hm⟩ : ∃ m : Rm, m = ⟨5, 0, (0), 0, false, false, none, [], 0⟩ := ⟨_, rfl⟩
          have Hm := hid hm
          have n8 : NdC W8 w.heap.size m.kind m.deep m.lo m.hi m.lazy m.not (.slice m.sa m.set.length m.sc) := by rw [hm]; exact HN8.out
          clear hm
          (have n0 := n8.c0; have n1 := n8.c1; have n2 := n8.c2; have n3 := n8.c3; have n4 := n8.c4; have n5 := n8.c5; have n6 := n8.c6; have nf0 := n8.fz 0; have nf1 := n8.fz 1; have nf2 := n8.fz 2; have nf3 := n8.fz 3; have nf4 := n8.fz 4; have nf5 := n8.fz 5; have nf6 := n8.fz 6; have nz := n8.lt; clear n8)
          have zW := HK8.out.size
          have LC := hid (lower_d w.heap.size (some ⟨W8.heap.size, 0, none⟩) a2 1 c2 [m] L (W8.alloc (.cells #[.int .i64 m.kind, .int .i64 m.deep, .int .i64 m.lo, .int .i64 m.hi, .bool m.lazy, .bool m.not, .slice m.sa m.set.length m.sc] 50)) (ROwn.one Try.tyRe m _ _ rfl zW _ rfl) (HO8.out.sl.alloc _) (fun ad had hb => by
            obtain ⟨ae, hae, hbb⟩ := hb
            cases hae
            have := (HO8.out.lt ⟨ad, had, rfl⟩).2
            have hbb' : W8.heap.size = ad.block := hbb
            omega) (by simp; omega) (HS5.out.mono (by omega) (by omega)) (by simp))
          go_wp2_with (go_at_call 49; refine LC.out.mono ?_)
          rintro _ w9 ⟨a9, c9, L9, rfl, hL9, o9, k9, -⟩
          have b9 : Below W8.heap.size W8 w9 := ((Below.refl _ _).alloc (Nat.le_refl _) _).trans (k9.below (fun q hq => by obtain ⟨ae, hae, hbb⟩ := hq; cases hae; exact Nat.le_of_eq hbb) (by simp))
          have H9 := hid o9
          have HL9 := hid hL9
          have B9 := hid b9
          clear o9 k9 b9 hL9 LC
          go_wp2_with fail
          go_ret
          rw [HXo.out]
          refine ⟨a9, c9, L9, j + 1, rfl, ?_, H9.out, ?_, by omega, by omega, ?_, rfl, hg1, HR8.out.bel B9.out, HK8.out.thn B9.out⟩
          · rw [HL9.out.out, rns_app, rns_low, HRn.out, Hm.out]; rfl
          · rw [HL9.out.out]
            exact (((HT8.out.bel B9.out).base_le (by have := HKz.out.size; simp; omega)).low).cons0 (m := m) (by rw [Hm.out]) (by rw [Hm.out]) (by rw [Hm.out])
          · rw [HL9.out.out]
            exact ((Sml.one (4 * (p.length - i) + 1 - 2) (by rw [Hm.out])).app ((HS5.out.low).mono (Nat.le_refl _) (by omega))).mono (by omega) (Nat.le_refl _)
        · have b41 : (nx p j != 41) = true := by simpa using h41
          have HXf : Hid (X = .bad 5 (j : Int)) := by
            rw [Hid, HXg.out]; unfold grpI; rw [HA.out]; dsimp only
            rw [at_drop p j hj1]
            split
            · rename_i hq
              exact absurd (nx_drop hq).2.1 h41
            · rfl
          have H7 := hid h7
          (have c0 := h7.c0; have c1 := h7.c1; have c2 := h7.c2; have c3 := h7.c3; have c4 := h7.c4; have c5 := h7.c5; have f1 := h7.fz 1; have f2 := h7.fz 2; have f3 := h7.fz 3; have f4 := h7.fz 4; have f5 := h7.fz 5; have rl := h7.lt; have Hh7 := hid h7; clear h7)
          go_wp2_with fail
          refine (dbad_one 5 j B _ r a c p j g1 d 0 H7.out).mono ?_
          clear rl c0 c1 c2 c3 c4 c5 f1 f2 f3 f4 f5
          clear Hh7 h41
          rintro _ wb ⟨rfl, hb, kb⟩
          have HKb := hid (HK7.out.tr kb)
          have HNb := hid (HN7.out.kpt kb (by omega))
          have HOb := hid (HO7.out.kr kb (by omega))
          clear kb
          (have c0 := hb.c0; have c1 := hb.c1; have c2 := hb.c2; have c3 := hb.c3; have c4 := hb.c4; have c5 := hb.c5; have f1 := hb.fz 1; have f2 := hb.fz 2; have f3 := hb.fz 3; have f4 := hb.fz 4; have f5 := hb.fz 5; have rl := hb.lt; have Hhb := hid hb; clear hb)
          have HR8 := hid (Hhb.out.set1 (j + 1))
          have HK8 := hid (HKb.out.set (o := 1) (.int .i64 ((j + 1 : Nat) : Int)))
          have HN8 := hid (HNb.out.kpt ((KR.refl r _).set (o := 1) (.int .i64 ((j + 1 : Nat) : Int))) (by omega))
          have HO8 := hid (HOb.out.kr ((KR.refl r _).set (o := 1) (.int .i64 ((j + 1 : Nat) : Int))) (by omega))
          clear Hhb
          go_upto_region 24 with fail
          clear rl c0 c1 c2 c3 c4 c5 f1 f2 f3 f4 f5
          rw [show ((j + 1 : Nat) : Int) = (j : Int) + 1 by omega] at HR8 HK8 HN8 HO8
          generalize hW : wb.setCell ⟨r, 1, none⟩ (.int .i64 ((j : Int) + 1)) = W8 at HR8 HK8 HN8 HO8 ⊢
          clear hW
          obtain ⟨m, hm⟩ : ∃ m : Rm, m = ⟨5, 0, (0), 0, false, false, none, [], 0⟩ := ⟨_, rfl⟩
          have Hm := hid hm
          have n8 : NdC W8 w.heap.size m.kind m.deep m.lo m.hi m.lazy m.not (.slice m.sa m.set.length m.sc) := by rw [hm]; exact HN8.out
          clear hm
          (have n0 := n8.c0; have n1 := n8.c1; have n2 := n8.c2; have n3 := n8.c3; have n4 := n8.c4; have n5 := n8.c5; have n6 := n8.c6; have nf0 := n8.fz 0; have nf1 := n8.fz 1; have nf2 := n8.fz 2; have nf3 := n8.fz 3; have nf4 := n8.fz 4; have nf5 := n8.fz 5; have nf6 := n8.fz 6; have nz := n8.lt; clear n8)
          have zW := HK8.out.size
          have LC := hid (lower_d w.heap.size (some ⟨W8.heap.size, 0, none⟩) a2 1 c2 [m] L (W8.alloc (.cells #[.int .i64 m.kind, .int .i64 m.deep, .int .i64 m.lo, .int .i64 m.hi, .bool m.lazy, .bool m.not, .slice m.sa m.set.length m.sc] 50)) (ROwn.one Try.tyRe m _ _ rfl zW _ rfl) (HO8.out.sl.alloc _) (fun ad had hb => by
            obtain ⟨ae, hae, hbb⟩ := hb
            cases hae
            have := (HO8.out.lt ⟨ad, had, rfl⟩).2
            have hbb' : W8.heap.size = ad.block := hbb
            omega) (by simp; omega) (HS5.out.mono (by omega) (by omega)) (by simp))
          go_wp2_with (go_at_call 49; refine LC.out.mono ?_)
          rintro _ w9 ⟨a9, c9, L9, rfl, hL9, o9, k9, -⟩
          have b9 : Below W8.heap.size W8 w9 := ((Below.refl _ _).alloc (Nat.le_refl _) _).trans (k9.below (fun q hq => by obtain ⟨ae, hae, hbb⟩ := hq; cases hae; exact Nat.le_of_eq hbb) (by simp))
          have H9 := hid o9
          have HL9 := hid hL9
          have B9 := hid b9
          clear o9 k9 b9 hL9 LC
          go_wp2_with fail
          go_ret
          rw [HXf.out]
          refine ⟨a9, c9, L9, j + 1, g1, rfl, H9.out, ?_, by decide, by omega, HR8.out.bel B9.out, HK8.out.thn B9.out⟩
          rw [HL9.out.out]
          exact ((Sml.one (4 * (p.length - i) + 1 - 2) (by rw [Hm.out])).app ((HS5.out.low).mono (Nat.le_refl _) (by omega))).mono (by omega) (Nat.le_refl _)
    · rw [if_neg h58] at hX
      have HXb := hid hX
      have b58 : (nx p (i + 2) != 58) = true := by simpa using h58
      clear hX n63 n58
      go_enter Try.func81, Try.ntmps81
      go_upto_region 4 with fail
      rw [← hV]; clear hV
      clear rl c0 c1 c2 c3 c4 c5 f1 f2 f3 f4 f5
      have hh := HRV.out
      (have c0 := hh.c0; have c1 := hh.c1; have c2 := hh.c2; have c3 := hh.c3; have c4 := hh.c4; have c5 := hh.c5; have f1 := hh.fz 1; have f2 := hh.fz 2; have f3 := hh.fz 3; have f4 := hh.fz 4; have f5 := hh.fz 5; have rl := hh.lt; have Hhh := hid hh; clear hh)
      go_wp2_with fail
      refine (dnext_c B _ r a c p (i + 1) g d 0 0 Hhh.out).mono ?_
      clear rl c0 c1 c2 c3 c4 c5 f1 f2 f3 f4 f5
      rw [h63]
      rintro _ w3 ⟨rfl, h3, k3⟩
      have HK3 := hid (HKV.out.tr k3)
      clear k3 Hhh
      (have c0 := h3.c0; have c1 := h3.c1; have c2 := h3.c2; have c3 := h3.c3; have c4 := h3.c4; have c5 := h3.c5; have f1 := h3.fz 1; have f2 := h3.fz 2; have f3 := h3.fz 3; have f4 := h3.fz 4; have f5 := h3.fz 5; have rl := h3.lt; have Hh3 := hid h3; clear h3)
      have H4 := hid (Hh3.out.set1 (i + 2))
      have S4 := hid ((KR.refl r w3).set (o := 1) (.int .i64 ((i + 2 : Nat) : Int)))
      clear Hh3
      go_wp2_with fail
      refine (dnext_c B _ r a c p (i + 2) g d 0 0 H4.out).mono ?_
      clear rl c0 c1 c2 c3 c4 c5 f1 f2 f3 f4 f5
      rintro _ w5 ⟨rfl, h5, k5⟩
      have HK5 := hid ((HK3.out.tr S4.out).tr k5)
      have H5 := hid h5
      clear k5 H4 S4 HK3
      (have c0 := h5.c0; have c1 := h5.c1; have c2 := h5.c2; have c3 := h5.c3; have c4 := h5.c4; have c5 := h5.c5; have f1 := h5.fz 1; have f2 := h5.fz 2; have f3 := h5.fz 3; have f4 := h5.fz 4; have f5 := h5.fz 5; have rl := h5.lt; have Hh5 := hid h5; clear h5)
      go_wp2_with fail
      rw [show (i : Int) + 2 = ((i + 2 : Nat) : Int) from rfl]
      refine (dbad_one 5 ((i + 2 : Nat) : Int) B _ r a c p (i + 2) g d 0 Hh5.out).mono ?_
      rintro _ w6 ⟨rfl, h6, k6⟩
      have H6 := hid h6
      have K6 := hid (HK5.out.tr k6)
      clear h6 k6
      go_wp2_with fail
      go_ret
      rw [HXb.out]
      exact ⟨none, 0, [], i + 2, g, rfl, ROwn.nil _ _, Sml.nil _ _, by decide, by omega, H6.out, K6.out⟩
  · rw [if_neg h63] at hX
    have b63 : (nx p (i + 1) == 63) = false := by simpa using h63
    by_cases h9 : 9 ≤ g
    · rw [if_pos h9] at hX
      have b9 : decide ((9 : Int) ≤ (g : Int)) = true := decide_eq_true (by omega)
      have HXb := hid hX
      clear hX n63 n58
      go_enter Try.func81, Try.ntmps81
      go_upto_region 4 with fail
      rw [← hV]; clear hV
      clear rl c0 c1 c2 c3 c4 c5 f1 f2 f3 f4 f5
      have hh := HRV.out
      (have c0 := hh.c0; have c1 := hh.c1; have c2 := hh.c2; have c3 := hh.c3; have c4 := hh.c4; have c5 := hh.c5; have f1 := hh.fz 1; have f2 := hh.fz 2; have f3 := hh.fz 3; have f4 := hh.fz 4; have f5 := hh.fz 5; have rl := hh.lt; have Hhh := hid hh; clear hh)
      go_wp2_with fail
      refine (dnext_c B _ r a c p (i + 1) g d 0 0 Hhh.out).mono ?_
      clear rl c0 c1 c2 c3 c4 c5 f1 f2 f3 f4 f5
      rintro _ w3 ⟨rfl, h3, k3⟩
      have HK3 := hid (HKV.out.tr k3)
      clear k3 Hhh
      (have c0 := h3.c0; have c1 := h3.c1; have c2 := h3.c2; have c3 := h3.c3; have c4 := h3.c4; have c5 := h3.c5; have f1 := h3.fz 1; have f2 := h3.fz 2; have f3 := h3.fz 3; have f4 := h3.fz 4; have f5 := h3.fz 5; have rl := h3.lt; have Hh3 := hid h3; clear h3)
      go_wp2_with fail
      refine (dbad_one 3 i B _ r a c p (i + 1) g d 0 Hh3.out).mono ?_
      rintro _ w6 ⟨rfl, h6, k6⟩
      have H6 := hid h6
      have K6 := hid (HK3.out.tr k6)
      clear h6 k6
      go_wp2_with fail
      go_ret
      rw [HXb.out]
      exact ⟨none, 0, [], i + 1, g, rfl, ROwn.nil _ _, Sml.nil _ _, by decide, by omega, H6.out, K6.out⟩
    · rw [if_neg h9] at hX
      have b9 : decide ((9 : Int) ≤ (g : Int)) = false := decide_eq_false (by omega)
      have Wg : IntKind.i64.wrap ((g : Int) + 1) = ((g + 1 : Nat) : Int) := by rw [IntKind.wrap_i64]; omega
      have HXg := hid hX
      have hi1 : i + 1 ≤ p.length := by omega
      clear hX n63 n58
      go_enter Try.func81, Try.ntmps81
      go_upto_region 4 with fail
      rw [← hV]; clear hV
      clear rl c0 c1 c2 c3 c4 c5 f1 f2 f3 f4 f5
      have hh := HRV.out
      (have c0 := hh.c0; have c1 := hh.c1; have c2 := hh.c2; have c3 := hh.c3; have c4 := hh.c4; have c5 := hh.c5; have f1 := hh.fz 1; have f2 := hh.fz 2; have f3 := hh.fz 3; have f4 := hh.fz 4; have f5 := hh.fz 5; have rl := hh.lt; have Hhh := hid hh; clear hh)
      go_wp2_with fail
      refine (dnext_c B _ r a c p (i + 1) g d 0 0 Hhh.out).mono ?_
      clear rl c0 c1 c2 c3 c4 c5 f1 f2 f3 f4 f5
      rintro _ w3 ⟨rfl, h3, k3⟩
      have HN3 := hid (HNV.out.kpt k3 (by omega))
      have HK3 := hid (HKV.out.tr k3)
      have z3 := HK3.out.size
      have zN := HN3.out.lt
      clear k3 Hhh
      (have c0 := h3.c0; have c1 := h3.c1; have c2 := h3.c2; have c3 := h3.c3; have c4 := h3.c4; have c5 := h3.c5; have f1 := h3.fz 1; have f2 := h3.fz 2; have f3 := h3.fz 3; have f4 := h3.fz 4; have f5 := h3.fz 5; have rl := h3.lt; have Hh3 := hid h3; clear h3)
      have HR4 := Hh3.out.set2 (g + 1)
      have HN4 := HN3.out.kpt ((KR.refl r _).set (o := 2) (.int .i64 ((g + 1 : Nat) : Int))) (by omega)
      rw [show ((g + 1 : Nat) : Int) = (g : Int) + 1 by omega] at HR4 HN4
      have HRz := hid (HR4.setOff w.heap.size 2 hB (.int .i64 ((g : Int) + 1)))
      have HNz := hid (HN4.set2 ((g : Int) + 1))
      have HKz : Hid (KR r w ((w3.setCell ⟨r, 2, none⟩ (.int .i64 ((g : Int) + 1))).setCell ⟨w.heap.size, 2, none⟩ (.int .i64 ((g : Int) + 1)))) := by
        have q := HK3.out.set (o := 2) (.int .i64 ((g : Int) + 1))
        exact hid ⟨q.os, q.tape, q.output, by simpa using q.size, fun kk hkk hn => (Below.heap_setCell _ _ _ _ (by simp; omega)).trans (q.block kk hkk hn)⟩
      have hn3 := HN3.out
      (have n0 := hn3.c0; have n1 := hn3.c1; have n2 := hn3.c2; have n3 := hn3.c3; have n4 := hn3.c4; have n5 := hn3.c5; have n6 := hn3.c6; have nf0 := hn3.fz 0; have nf1 := hn3.fz 1; have nf2 := hn3.fz 2; have nf3 := hn3.fz 3; have nf4 := hn3.fz 4; have nf5 := hn3.fz 5; have nf6 := hn3.fz 6; have nz := hn3.lt; clear hn3)
      go_upto_region 18 with fail
      clear rl c0 c1 c2 c3 c4 c5 f1 f2 f3 f4 f5
      clear Hh3 HR4 HN4
      clear n0 n1 n2 n3 n4 n5 n6 nf0 nf1 nf2 nf3 nf4 nf5 nf6 nz
      generalize hW : (w3.setCell ⟨r, 2, none⟩ (.int .i64 ((g : Int) + 1))).setCell ⟨w.heap.size, 2, none⟩ (.int .i64 ((g : Int) + 1)) = Wz at HRz HKz HNz ⊢
      clear hW
      have h0 := HRz.out
      (have c0 := h0.c0; have c1 := h0.c1; have c2 := h0.c2; have c3 := h0.c3; have c4 := h0.c4; have c5 := h0.c5; have f1 := h0.fz 1; have f2 := h0.fz 2; have f3 := h0.fz 3; have f4 := h0.fz 4; have f5 := h0.fz 5; have rl := h0.lt; have Hh0 := hid h0; clear h0)
      have Wd : IntKind.i64.wrap ((d : Int) + 1) = ((d + 1 : Nat) : Int) := by rw [IntKind.wrap_i64]; omega
      have Wm : IntKind.i64.wrap (((d + 1 : Nat) : Int) - 1) = (d : Int) := by rw [IntKind.wrap_i64]; omega
      have Wm' : IntKind.i64.wrap ((d : Int) + 1 - 1) = (d : Int) := by rw [IntKind.wrap_i64]; omega
      have HR1 := hid (Hh0.out.set3 (d + 1))
      have HK1 := hid (HKz.out.set (o := 3) (.int .i64 ((d + 1 : Nat) : Int)))
      have HN1 := hid (HNz.out.kpt ((KR.refl r _).set (o := 3) (.int .i64 ((d + 1 : Nat) : Int))) (by omega))
      have PC := hid (IH _ (i + 1) (g + 1) (d + 1) HR1.out (by omega) (by omega) (by omega) (by omega))
      clear Hh0
      go_wp2_with fail
      clear rl c0 c1 c2 c3 c4 c5 f1 f2 f3 f4 f5
      refine PC.out.mono ?_
      clear PC
      rintro e5 w5 ho
      cases hA : altP CC p.length k (p.drop (i + 1)) (g + 1) (d + 1) with
      | bad e f =>
        rw [hA] at ho
        obtain ⟨a2, c2, L, j, y, rfl, o2, s2, he, hj, h5, k5⟩ := ho
        have be : (e == 0) = false := by simpa using he
        have HXf : Hid (X = .bad e f) := by rw [Hid, HXg.out]; unfold grpI; rw [hA]
        have HK5 := hid (HK1.out.tr k5)
        have HN5 := hid (HN1.out.kpt k5 (by omega))
        have HO5 := hid o2
        have HS5 := hid s2
        have zk := HK1.out.size
        have z5 := HK5.out.size
        have hl2 := s2.len
        (have c0 := h5.c0; have c1 := h5.c1; have c2 := h5.c2; have c3 := h5.c3; have c4 := h5.c4; have c5 := h5.c5; have f1 := h5.fz 1; have f2 := h5.fz 2; have f3 := h5.fz 3; have f4 := h5.fz 4; have f5 := h5.fz 5; have rl := h5.lt; have Hh5 := hid h5; clear h5)
        have HR6 := hid (Hh5.out.set3 d)
        have HK6 := hid (HK5.out.set (o := 3) (.int .i64 (d : Int)))
        have HN6 := hid (HN5.out.kpt ((KR.refl r _).set (o := 3) (.int .i64 (d : Int))) (by omega))
        have HO6 := hid (HO5.out.kr ((KR.refl r _).set (o := 3) (.int .i64 (d : Int))) (by omega))
        have He := hid he
        clear hA o2 s2 k5 Hh5 he
        skip
        go_wp2_with fail
        clear rl c0 c1 c2 c3 c4 c5 f1 f2 f3 f4 f5
        refine (dok_c B _ r a c p j y d e f HR6.out).mono ?_
        rintro _ w7 ⟨rfl, h7, k7⟩
        have HK7 := hid (HK6.out.tr k7)
        have HN7 := hid (HN6.out.kpt k7 (by omega))
        have HO7 := hid (HO6.out.kr k7 (by omega))
        have Wj : IntKind.i64.wrap ((j : Int) + 1) = ((j + 1 : Nat) : Int) := by rw [IntKind.wrap_i64]; omega
        clear k7
        (have c0 := h7.c0; have c1 := h7.c1; have c2 := h7.c2; have c3 := h7.c3; have c4 := h7.c4; have c5 := h7.c5; have f1 := h7.fz 1; have f2 := h7.fz 2; have f3 := h7.fz 3; have f4 := h7.fz 4; have f5 := h7.fz 5; have rl := h7.lt; have Hh7 := hid h7; clear h7)
        have HR8 := hid (Hh7.out.set1 (j + 1))
        have HK8 := hid (HK7.out.set (o := 1) (.int .i64 ((j + 1 : Nat) : Int)))
        have HN8 := hid (HN7.out.kpt ((KR.refl r _).set (o := 1) (.int .i64 ((j + 1 : Nat) : Int))) (by omega))
        have HO8 := hid (HO7.out.kr ((KR.refl r _).set (o := 1) (.int .i64 ((j + 1 : Nat) : Int))) (by omega))
        clear Hh7
        go_upto_region 24 with fail
        clear rl c0 c1 c2 c3 c4 c5 f1 f2 f3 f4 f5
        rw [show ((j + 1 : Nat) : Int) = (j : Int) + 1 by omega] at HR8 HK8 HN8 HO8
        generalize hW : w7.setCell ⟨r, 1, none⟩ (.int .i64 ((j : Int) + 1)) = W8 at HR8 HK8 HN8 HO8 ⊢
        clear hW
        obtain ⟨m, hm⟩ : ∃ m : Rm, m = ⟨5, 0, ((g : Int) + 1), 0, false, false, none, [], 0⟩ := ⟨_, rfl⟩
        have Hm := hid hm
        have n8 : NdC W8 w.heap.size m.kind m.deep m.lo m.hi m.lazy m.not (.slice m.sa m.set.length m.sc) := by rw [hm]; exact HN8.out
        clear hm
        (have n0 := n8.c0; have n1 := n8.c1; have n2 := n8.c2; have n3 := n8.c3; have n4 := n8.c4; have n5 := n8.c5; have n6 := n8.c6; have nf0 := n8.fz 0; have nf1 := n8.fz 1; have nf2 := n8.fz 2; have nf3 := n8.fz 3; have nf4 := n8.fz 4; have nf5 := n8.fz 5; have nf6 := n8.fz 6; have nz := n8.lt; clear n8)
        have zW := HK8.out.size
        have LC := hid (lower_d w.heap.size (some ⟨W8.heap.size, 0, none⟩) a2 1 c2 [m] L (W8.alloc (.cells #[.int .i64 m.kind, .int .i64 m.deep, .int .i64 m.lo, .int .i64 m.hi, .bool m.lazy, .bool m.not, .slice m.sa m.set.length m.sc] 50)) (ROwn.one Try.tyRe m _ _ rfl zW _ rfl) (HO8.out.sl.alloc _) (fun ad had hb => by
          obtain ⟨ae, hae, hbb⟩ := hb
          cases hae
          have := (HO8.out.lt ⟨ad, had, rfl⟩).2
          have hbb' : W8.heap.size = ad.block := hbb
          omega) (by simp; omega) (HS5.out.mono (by omega) (by omega)) (by simp))
        go_wp2_with (go_at_call 49; refine LC.out.mono ?_)
        rintro _ w9 ⟨a9, c9, L9, rfl, hL9, o9, k9, -⟩
        have b9 : Below W8.heap.size W8 w9 := ((Below.refl _ _).alloc (Nat.le_refl _) _).trans (k9.below (fun q hq => by obtain ⟨ae, hae, hbb⟩ := hq; cases hae; exact Nat.le_of_eq hbb) (by simp))
        have H9 := hid o9
        have HL9 := hid hL9
        have B9 := hid b9
        clear o9 k9 b9 hL9 LC
        go_wp2_with fail
        go_ret
        rw [HXf.out]
        refine ⟨a9, c9, L9, j + 1, y, rfl, H9.out, ?_, He.out, by omega, HR8.out.bel B9.out, HK8.out.thn B9.out⟩
        rw [HL9.out.out]
        exact ((Sml.one (4 * (p.length - i) + 1 - 2) (by rw [Hm.out])).app ((HS5.out.low).mono (Nat.le_refl _) (by omega))).mono (by omega) (Nat.le_refl _)
      | ok l s1 g1 =>
        rw [hA] at ho
        obtain ⟨a2, c2, L, j, rfl, hr2, o2, t2, hj0, hj1, s2, hs1, hg1, h5, k5⟩ := ho
        have HA := hid hA
        subst hs1
        have HK5 := hid (HK1.out.tr k5)
        have HN5 := hid (HN1.out.kpt k5 (by omega))
        have HO5 := hid o2
        have HS5 := hid s2
        have HT5 := hid t2
        have HRn := hid hr2
        have zk := HK1.out.size
        have z5 := HK5.out.size
        have hl2 := s2.len
        (have c0 := h5.c0; have c1 := h5.c1; have c2 := h5.c2; have c3 := h5.c3; have c4 := h5.c4; have c5 := h5.c5; have f1 := h5.fz 1; have f2 := h5.fz 2; have f3 := h5.fz 3; have f4 := h5.fz 4; have f5 := h5.fz 5; have rl := h5.lt; have Hh5 := hid h5; clear h5)
        have HR6 := hid (Hh5.out.set3 d)
        have HK6 := hid (HK5.out.set (o := 3) (.int .i64 (d : Int)))
        have HN6 := hid (HN5.out.kpt ((KR.refl r _).set (o := 3) (.int .i64 (d : Int))) (by omega))
        have HO6 := hid (HO5.out.kr ((KR.refl r _).set (o := 3) (.int .i64 (d : Int))) (by omega))
        have HT6 := hid (HT5.out.kr ((KR.refl r _).set (o := 3) (.int .i64 (d : Int))) (by omega))
        have Wj : IntKind.i64.wrap ((j : Int) + 1) = ((j + 1 : Nat) : Int) := by rw [IntKind.wrap_i64]; omega
        clear hA o2 s2 t2 k5 Hh5 hr2
        go_wp2_with fail
        clear rl c0 c1 c2 c3 c4 c5 f1 f2 f3 f4 f5
        refine (dok_c B _ r a c p j g1 d 0 0 HR6.out).mono ?_
        rintro _ w6 ⟨rfl, h6, k6⟩
        have H6 := hid h6
        have K6 := hid k6
        clear h6 k6
        go_wp2_with fail
        refine (dnext_c B _ r a c p j g1 d 0 0 H6.out).mono ?_
        rintro _ w7 ⟨rfl, h7, k7⟩
        have HK7 := hid ((HK6.out.tr K6.out).tr k7)
        have HN7 := hid ((HN6.out.kpt K6.out (by omega)).kpt k7 (by omega))
        have HO7 := hid ((HO6.out.kr K6.out (by omega)).kr k7 (by omega))
        have HT7 := hid ((HT6.out.kr K6.out (by omega)).kr k7 (by omega))
        clear k7
        by_cases h41 : nx p j = 41
        · have jl : j < p.length := by
            rcases Nat.lt_or_ge j p.length with h1 | h1
            · exact h1
            · rw [nx_end h1] at h41; omega
          have HXo : Hid (X = .ok (nGroup ((g : Int) + 1) :: lower l) (p.drop (j + 1)) g1) := by
            rw [Hid, HXg.out]; unfold grpI; rw [HA.out]; dsimp only; rw [drop_nx jl, h41]; rfl
          rw [h41]
          (have c0 := h7.c0; have c1 := h7.c1; have c2 := h7.c2; have c3 := h7.c3; have c4 := h7.c4; have c5 := h7.c5; have f1 := h7.fz 1; have f2 := h7.fz 2; have f3 := h7.fz 3; have f4 := h7.fz 4; have f5 := h7.fz 5; have rl := h7.lt; have Hh7 := hid h7; clear h7)
          have HR8 := hid (Hh7.out.set1 (j + 1))
          have HK8 := hid (HK7.out.set (o := 1) (.int .i64 ((j + 1 : Nat) : Int)))
          have HN8 := hid (HN7.out.kpt ((KR.refl r _).set (o := 1) (.int .i64 ((j + 1 : Nat) : Int))) (by omega))
          have HO8 := hid (HO7.out.kr ((KR.refl r _).set (o := 1) (.int .i64 ((j + 1 : Nat) : Int))) (by omega))
          have HT8 := hid (HT7.out.kr ((KR.refl r _).set (o := 1) (.int .i64 ((j + 1 : Nat) : Int))) (by omega))
          clear Hh7 h41
          rw [show ((j + 1 : Nat) : Int) = (j : Int) + 1 by omega] at HT8
          go_upto_region 24 with fail
          clear rl c0 c1 c2 c3 c4 c5 f1 f2 f3 f4 f5
          rw [show ((j + 1 : Nat) : Int) = (j : Int) + 1 by omega] at HR8 HK8 HN8 HO8
          generalize hW : w7.setCell ⟨r, 1, none⟩ (.int .i64 ((j : Int) + 1)) = W8 at HR8 HK8 HN8 HO8 HT8 ⊢
          clear hW
          obtain ⟨m, hm⟩ : ∃ m : Rm, m = ⟨5, 0, ((g : Int) + 1), 0, false, false, none, [], 0⟩ := ⟨_, rfl⟩
          have Hm := hid hm
          have n8 : NdC W8 w.heap.size m.kind m.deep m.lo m.hi m.lazy m.not (.slice m.sa m.set.length m.sc) := by rw [hm]; exact HN8.out
          clear hm
          (have n0 := n8.c0; have n1 := n8.c1; have n2 := n8.c2; have n3 := n8.c3; have n4 := n8.c4; have n5 := n8.c5; have n6 := n8.c6; have nf0 := n8.fz 0; have nf1 := n8.fz 1; have nf2 := n8.fz 2; have nf3 := n8.fz 3; have nf4 := n8.fz 4; have nf5 := n8.fz 5; have nf6 := n8.fz 6; have nz := n8.lt; clear n8)
          have zW := HK8.out.size
          have LC := hid (lower_d w.heap.size (some ⟨W8.heap.size, 0, none⟩) a2 1 c2 [m] L (W8.alloc (.cells #[.int .i64 m.kind, .int .i64 m.deep, .int .i64 m.lo, .int .i64 m.hi, .bool m.lazy, .bool m.not, .slice m.sa m.set.length m.sc] 50)) (ROwn.one Try.tyRe m _ _ rfl zW _ rfl) (HO8.out.sl.alloc _) (fun ad had hb => by
            obtain ⟨ae, hae, hbb⟩ := hb
            cases hae
            have := (HO8.out.lt ⟨ad, had, rfl⟩).2
            have hbb' : W8.heap.size = ad.block := hbb
            omega) (by simp; omega) (HS5.out.mono (by omega) (by omega)) (by simp))
          go_wp2_with (go_at_call 49; refine LC.out.mono ?_)
          rintro _ w9 ⟨a9, c9, L9, rfl, hL9, o9, k9, -⟩
          have b9 : Below W8.heap.size W8 w9 := ((Below.refl _ _).alloc (Nat.le_refl _) _).trans (k9.below (fun q hq => by obtain ⟨ae, hae, hbb⟩ := hq; cases hae; exact Nat.le_of_eq hbb) (by simp))
          have H9 := hid o9
          have HL9 := hid hL9
          have B9 := hid b9
          clear o9 k9 b9 hL9 LC
          go_wp2_with fail
          go_ret
          rw [HXo.out]
          refine ⟨a9, c9, L9, j + 1, rfl, ?_, H9.out, ?_, by omega, by omega, ?_, rfl, hg1, HR8.out.bel B9.out, HK8.out.thn B9.out⟩
          · rw [HL9.out.out, rns_app, rns_low, HRn.out, Hm.out]; rfl
          · rw [HL9.out.out]
            exact (((HT8.out.bel B9.out).base_le (by have := HKz.out.size; simp; omega)).low).cons0 (m := m) (by rw [Hm.out]) (by rw [Hm.out]) (by rw [Hm.out])
          · rw [HL9.out.out]
            exact ((Sml.one (4 * (p.length - i) + 1 - 2) (by rw [Hm.out])).app ((HS5.out.low).mono (Nat.le_refl _) (by omega))).mono (by omega) (Nat.le_refl _)
        · have b41 : (nx p j != 41) = true := by simpa using h41
          have HXf : Hid (X = .bad 5 (j : Int)) := by
            rw [Hid, HXg.out]; unfold grpI; rw [HA.out]; dsimp only
            rw [at_drop p j hj1]
            split
            · rename_i hq
              exact absurd (nx_drop hq).2.1 h41
            · rfl
          have H7 := hid h7
          (have c0 := h7.c0; have c1 := h7.c1; have c2 := h7.c2; have c3 := h7.c3; have c4 := h7.c4; have c5 := h7.c5; have f1 := h7.fz 1; have f2 := h7.fz 2; have f3 := h7.fz 3; have f4 := h7.fz 4; have f5 := h7.fz 5; have rl := h7.lt; have Hh7 := hid h7; clear h7)
          go_wp2_with fail
          refine (dbad_one 5 j B _ r a c p j g1 d 0 H7.out).mono ?_
          clear rl c0 c1 c2 c3 c4 c5 f1 f2 f3 f4 f5
          clear Hh7 h41
          rintro _ wb ⟨rfl, hb, kb⟩
          have HKb := hid (HK7.out.tr kb)
          have HNb := hid (HN7.out.kpt kb (by omega))
          have HOb := hid (HO7.out.kr kb (by omega))
          clear kb
          (have c0 := hb.c0; have c1 := hb.c1; have c2 := hb.c2; have c3 := hb.c3; have c4 := hb.c4; have c5 := hb.c5; have f1 := hb.fz 1; have f2 := hb.fz 2; have f3 := hb.fz 3; have f4 := hb.fz 4; have f5 := hb.fz 5; have rl := hb.lt; have Hhb := hid hb; clear hb)
          have HR8 := hid (Hhb.out.set1 (j + 1))
          have HK8 := hid (HKb.out.set (o := 1) (.int .i64 ((j + 1 : Nat) : Int)))
          have HN8 := hid (HNb.out.kpt ((KR.refl r _).set (o := 1) (.int .i64 ((j + 1 : Nat) : Int))) (by omega))
          have HO8 := hid (HOb.out.kr ((KR.refl r _).set (o := 1) (.int .i64 ((j + 1 : Nat) : Int))) (by omega))
          clear Hhb
          go_upto_region 24 with fail
          clear rl c0 c1 c2 c3 c4 c5 f1 f2 f3 f4 f5
          rw [show ((j + 1 : Nat) : Int) = (j : Int) + 1 by omega] at HR8 HK8 HN8 HO8
          generalize hW : wb.setCell ⟨r, 1, none⟩ (.int .i64 ((j : Int) + 1)) = W8 at HR8 HK8 HN8 HO8 ⊢
          clear hW
          obtain ⟨m, hm⟩ : ∃ m : Rm, m = ⟨5, 0, ((g : Int) + 1), 0, false, false, none, [], 0⟩ := ⟨_, rfl⟩
          have Hm := hid hm
          have n8 : NdC W8 w.heap.size m.kind m.deep m.lo m.hi m.lazy m.not (.slice m.sa m.set.length m.sc) := by rw [hm]; exact HN8.out
          clear hm
          (have n0 := n8.c0; have n1 := n8.c1; have n2 := n8.c2; have n3 := n8.c3; have n4 := n8.c4; have n5 := n8.c5; have n6 := n8.c6; have nf0 := n8.fz 0; have nf1 := n8.fz 1; have nf2 := n8.fz 2; have nf3 := n8.fz 3; have nf4 := n8.fz 4; have nf5 := n8.fz 5; have nf6 := n8.fz 6; have nz := n8.lt; clear n8)
          have zW := HK8.out.size
          have LC := hid (lower_d w.heap.size (some ⟨W8.heap.size, 0, none⟩) a2 1 c2 [m] L (W8.alloc (.cells #[.int .i64 m.kind, .int .i64 m.deep, .int .i64 m.lo, .int .i64 m.hi, .bool m.lazy, .bool m.not, .slice m.sa m.set.length m.sc] 50)) (ROwn.one Try.tyRe m _ _ rfl zW _ rfl) (HO8.out.sl.alloc _) (fun ad had hb => by
            obtain ⟨ae, hae, hbb⟩ := hb
            cases hae
            have := (HO8.out.lt ⟨ad, had, rfl⟩).2
            have hbb' : W8.heap.size = ad.block := hbb
            omega) (by simp; omega) (HS5.out.mono (by omega) (by omega)) (by simp))
          go_wp2_with (go_at_call 49; refine LC.out.mono ?_)
          rintro _ w9 ⟨a9, c9, L9, rfl, hL9, o9, k9, -⟩
          have b9 : Below W8.heap.size W8 w9 := ((Below.refl _ _).alloc (Nat.le_refl _) _).trans (k9.below (fun q hq => by obtain ⟨ae, hae, hbb⟩ := hq; cases hae; exact Nat.le_of_eq hbb) (by simp))
          have H9 := hid o9
          have HL9 := hid hL9
          have B9 := hid b9
          clear o9 k9 b9 hL9 LC
          go_wp2_with fail
          go_ret
          rw [HXf.out]
          refine ⟨a9, c9, L9, j + 1, g1, rfl, H9.out, ?_, by decide, by omega, HR8.out.bel B9.out, HK8.out.thn B9.out⟩
          rw [HL9.out.out]
          exact ((Sml.one (4 * (p.length - i) + 1 - 2) (by rw [Hm.out])).app ((HS5.out.low).mono (Nat.le_refl _) (by omega))).mono (by omega) (Nat.le_refl _)
end Go.Proofs.Ytniilphbbcbpcaa
