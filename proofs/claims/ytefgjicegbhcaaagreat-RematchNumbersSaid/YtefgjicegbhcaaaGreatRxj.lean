/- The code's reader: rows and patterns behind a fault; a group, by what patterns do (PatC). -/
import Derived.Test.YtefgjicegbhcaaaGreatRxi
import Derived.Test.YtefgjicegbhcaaaGreatReA
namespace Go.Proofs.YtefgjicegbhcaaaGreat
open Go.RowKit ReM

theorem ROwn.nil' (w : World) (base : Nat) : RO w base none 0 [] := ROwn.nil _ _
set_option maxHeartbeats 8000000 in
theorem row_bad (B : Nat) (w : World) (r : Nat) (a : Option Addr) (c : Nat) (p : List Int) (x y : Nat) (e f : Int) (h : Rdr B w r a c p p.length x y e f) :
    Calls Tryz.prog 98 #[.pointer (some ⟨r, 0, none⟩)] w fun e' w' => ∃ a2 c2 L, e' = .returned (.slice a2 L.length c2) ∧ RO w' w.heap.size a2 c2 L ∧ Sml 1 0 L ∧ Rdr B w' r a c p p.length x y e f ∧ KR r w w' := by
  have NX := hid (next_o B w r a c p p.length x y e f h (Nat.le_refl _))
  rw [nx_end (Nat.le_refl _)] at NX
  have hB := h.Bw
  clear h
  go_enter Tryz.func98, Tryz.ntmps98
  go_wp2_with fail
  go_loopg [3] 1 (fun g v wr => v = .slice none 0 0 ∧ wr = w)
  case atStart => exact ⟨rfl, rfl⟩
  case round =>
    obtain ⟨rfl, rfl⟩ := hrel
    go_wp2_with fail
    refine NX.out.mono ?_
    rintro _ w1 ⟨rfl, h1, k1⟩
    have H1 := hid h1
    have K1 := hid k1
    clear h1 k1 NX
    go_wp2_with fail
    refine (holding_c w1.heap.size ⟨0, 0, 0, 0, false, false, none, [], 0⟩ none 0 [] w1 (ROwn.nil' _ _) (Sml.nil _ _)).mono ?_
    rintro _ w2 ⟨a2, c2, L, rfl, hL, ho2, k2⟩
    have B2 := hid (bel_none' k2)
    have O2 := hid ho2
    clear ho2 k2
    go_wp2_with fail
    go_ret
    have hz := K1.out.size
    exact ⟨a2, c2, L, rfl, O2.out.base_le hz, by rw [hL.out]; exact Sml.one 0 rfl, H1.out.bel B2.out, K1.out.bel B2.out hz⟩
set_option maxHeartbeats 8000000 in
theorem pattern_bad (B : Nat) (w : World) (r : Nat) (a : Option Addr) (c : Nat) (p : List Int) (x y : Nat) (e f : Int) (h : Rdr B w r a c p p.length x y e f) :
    Calls Tryz.prog 71 #[.pointer (some ⟨r, 0, none⟩)] w fun e' w' => ∃ a2 c2 L, e' = .returned (.slice a2 L.length c2) ∧ RO w' w.heap.size a2 c2 L ∧ Sml 1 0 L ∧ Rdr B w' r a c p p.length x y e f ∧ KR r w w' := by
  have C := hid (row_bad B w r a c p x y e f h)
  have hrw := h.lt
  clear h
  go_enter Tryz.func71, Tryz.ntmps71
  go_wp2_with fail
  refine C.out.mono ?_
  rintro _ w1 ⟨a2, c2, L, rfl, ho, hs, h1, k1⟩
  have NX := hid (next_o B w1 r a c p p.length x y e f h1 (Nat.le_refl _))
  rw [nx_end (Nat.le_refl _)] at NX
  have Ho := hid ho
  have Hs := hid hs
  have K1 := hid k1
  clear ho hs h1 k1 C
  go_wp2_with fail
  refine NX.out.mono ?_
  rintro _ w2 ⟨rfl, h1, k1⟩
  have H1 := hid h1
  have K2 := hid k1
  clear h1 k1 NX
  go_wp2_with fail
  go_ret
  exact ⟨a2, c2, L, rfl, Ho.out.kr K2.out hrw, Hs.out, H1.out, K1.out.tr K2.out⟩
/-- what a pattern's reading leaves, with rounds k -/
def PatC (B r : Nat) (a : Option Addr) (c : Nat) (p : List Int) (k : Nat) : Prop := ∀ (w : World) (i g d : Nat), Rdr B w r a c p i d g 0 0 → i ≤ p.length → d ≤ 12 → g ≤ 9 → 4 * (p.length - i) + 2 ≤ k →
  Calls Tryz.prog 71 #[.pointer (some ⟨r, 0, none⟩)] w (OutP (altP CC p.length k (p.drop i) g d) B w.heap.size w r a c p i d 4 4 (fun k => k = r))
/-- behind a group's opening -/
def GMid (res : Rg) (B : Nat) (w : World) (r : Nat) (a : Option Addr) (c : Nat) (p : List Int) (k i d N : Nat) (wx : World) : Prop :=
  (∃ (no : Int) (i' g' : Nat), res = grpI p k no i' g' d ∧ i + 1 ≤ i' ∧ i' ≤ p.length ∧ g' ≤ 9 ∧ d < 12 ∧ NdC wx N 5 0 no 0 false false (.slice none 0 0) ∧ Rdr B wx r a c p i' d g' 0 0 ∧ KR r w wx) ∨
  (∃ (no e f : Int) (y : Nat), res = .bad e f ∧ e ≠ 0 ∧ NdC wx N 5 0 no 0 false false (.slice none 0 0) ∧ Rdr B wx r a c p p.length d y e f ∧ KR r w wx)
set_option maxHeartbeats 16000000 in
theorem group_c (B : Nat) (w : World) (r : Nat) (a : Option Addr) (c : Nat) (p : List Int) (k i g d : Nat) (h : Rdr B w r a c p i d g 0 0) (hi : i < p.length) (hT : Txt1 p) (hd : d ≤ 12) (hg : g ≤ 9) (hk : 4 * (p.length - i) ≤ k + 2)
    (h40 : nx p i = 40) (IH : PatC B r a c p k) :
    Calls Tryz.prog 135 #[.pointer (some ⟨r, 0, none⟩)] w (OutP (atomI p k i g d) B w.heap.size w r a c p i d 1 1 (fun k => k = r)) := by
  have hl := hT.1
  have hrB := h.rB
  have hB := h.Bw
  have hrw : r < w.heap.size := h.lt
  have eA : atomI p k i g d = (if 12 ≤ d then .bad 6 i
    else if nx p (i + 1) = 63 then (if nx p (i + 2) = 58 then grpI p k 0 (i + 3) g d else .bad 5 (i + 2 : Nat))
    else if 9 ≤ g then .bad 3 i else grpI p k ((g : Int) + 1) (i + 1) (g + 1) d) := by
    unfold atomI; rw [if_neg (by rw [h40]; decide), if_pos h40]
  rw [eA]
  clear eA
  obtain ⟨V, hV⟩ : ∃ V, V = w.alloc (.cells #[.int .i64 5, .int .i64 0, .int .i64 0, .int .i64 0, .bool false, .bool false, .slice none 0 0] 128) := ⟨_, rfl⟩
  have nn : NdC V w.heap.size 5 0 0 0 false false (.slice none 0 0) := by subst hV; exact NdC.new _ _ _ _ _ _ _ _ _ _ rfl
  have HV0 : Rdr B V r a c p i d g 0 0 := by subst hV; exact h.alloc _
  have KV0 : KR r w V := by subst hV; exact (KR.refl _ _).alloc _
  have zV : V.heap.size = w.heap.size + 1 := by subst hV; simp
  have HIH := hid IH
  generalize hR : (if 12 ≤ d then Rg.bad 6 i
    else if nx p (i + 1) = 63 then (if nx p (i + 2) = 58 then grpI p k 0 (i + 3) g d else .bad 5 (i + 2 : Nat))
    else if 9 ≤ g then .bad 3 i else grpI p k ((g : Int) + 1) (i + 1) (g + 1) d) = R
  have HR := hid hR
  clear IH hR h
  have HV := hid HV0
  have KV := hid KV0
  have NN := hid nn
  clear HV0 KV0 nn
  go_enter Tryz.func135, Tryz.ntmps135
  go_upto_region 2 with fail
  rw [← hV]; clear hV
  have hh := HV.out
  (have c0 := hh.c0; have c1 := hh.c1; have c2 := hh.c2; have c3 := hh.c3; have c4 := hh.c4; have c5 := hh.c5; have f1 := hh.fz 1; have f2 := hh.fz 2; have f3 := hh.fz 3; have f4 := hh.fz 4; have f5 := hh.fz 5; have rl := hh.lt; have Hhh := hid hh; clear hh)
  go_upto_block 0 with fail
  have H0 := hid (HV.out.set1 (i + 1))
  have K0 := hid (KV.out.set (o := 1) (.int .i64 ((i : Int) + 1)))
  have N0 := hid (NN.out.setO (show w.heap.size ≠ r by omega) 1 (.int .i64 ((i : Int) + 1)))
  clear rl c0 c1 c2 c3 c4 c5 f1 f2 f3 f4 f5
  clear HV KV NN Hhh
  obtain ⟨V2, hV2⟩ : ∃ V2, V2 = V.setCell ⟨r, 1, none⟩ (.int .i64 ((i : Int) + 1)) := ⟨_, rfl⟩
  have H0 : Hid (Rdr B V2 r a c p (i + 1) d g 0 0) := by rw [hV2]; exact H0
  have K0 : Hid (KR r w V2) := by rw [hV2]; exact K0
  have N0 : Hid (NdC V2 w.heap.size 5 0 0 0 false false (.slice none 0 0)) := by rw [hV2]; exact N0
  rw [← hV2]; clear hV2
  have hh := H0.out
  (have c0 := hh.c0; have c1 := hh.c1; have c2 := hh.c2; have c3 := hh.c3; have c4 := hh.c4; have c5 := hh.c5; have f1 := hh.fz 1; have f2 := hh.fz 2; have f3 := hh.fz 3; have f4 := hh.fz 4; have f5 := hh.fz 5; have rl := hh.lt; have Hhh := hid hh; clear hh)
  go_cut [] (fun wx => GMid R B w r a c p k i d w.heap.size wx)
  case first =>
    by_cases hd12 : d = 12
    · have eR := hid (show R = .bad 6 i by rw [← HR.out, if_pos (by omega)])
      have b1 : ((d : Int) == 12) = true := by simp; omega
      clear hd12
      go_wp2_with fail
      refine (fail_one 6 i B V2 r a c p (i + 1) d g 0 H0.out).mono ?_
      rintro _ w1 ⟨rfl, h1, k1⟩
      have H1 := hid h1
      have K1 := hid (K0.out.tr k1)
      have N1 := hid (N0.out.kpt k1 (by omega))
      clear h1 k1
      go_wp2_with fail
      go_meet
      exact .inr ⟨0, 6, i, g, eR.out, by decide, N1.out, H1.out, K1.out⟩
    · have b1 : ((d : Int) == 12) = false := by simp; omega
      have hd' : ¬ 12 ≤ d := by omega
      have hd2 : d < 12 := by omega
      by_cases h63 : nx p (i + 1) = 63
      · have l1 := nx_is h63 (by decide)
        by_cases h58 : nx p (i + 2) = 58
        · have l2 := nx_is h58 (by decide)
          have eR := hid (show R = grpI p k 0 (i + 3) g d by rw [← HR.out, if_neg hd', if_pos h63, if_pos h58])
          clear hd12 hd'
          go_wp2_with fail
          refine (takes_yes 63 B V2 r a c p (i + 1) d g 0 0 H0.out l1 hl h63).mono ?_
          rintro _ w1 ⟨rfl, h1, k1⟩
          have H1 := hid h1
          have K1 := hid (K0.out.tr k1)
          have N1 := hid (N0.out.kpt k1 (by omega))
          clear h1 k1
          go_wp2_with fail
          refine (needs_yes 58 B w1 r a c p (i + 2) d g 0 0 H1.out l2 hl h58).mono ?_
          rintro _ w2 ⟨rfl, h1, k1⟩
          have H2 := hid h1
          have K2 := hid (K1.out.tr k1)
          have N2 := hid (N1.out.kpt k1 (by omega))
          clear h1 k1
          go_wp2_with fail
          go_meet
          exact .inl ⟨0, i + 3, g, eR.out, by omega, by omega, hg, hd2, N2.out, H2.out, K2.out⟩
        · have eR := hid (show R = .bad 5 (i + 2 : Nat) by rw [← HR.out, if_neg hd', if_pos h63, if_neg h58])
          clear hd12 hd'
          go_wp2_with fail
          refine (takes_yes 63 B V2 r a c p (i + 1) d g 0 0 H0.out l1 hl h63).mono ?_
          rintro _ w1 ⟨rfl, h1, k1⟩
          have H1 := hid h1
          have K1 := hid (K0.out.tr k1)
          have N1 := hid (N0.out.kpt k1 (by omega))
          clear h1 k1
          go_wp2_with fail
          refine (needs_no 58 B w1 r a c p (i + 2) d g 0 H1.out (by omega) h58).mono ?_
          rintro _ w2 ⟨rfl, h1, k1⟩
          have H2 := hid h1
          have K2 := hid (K1.out.tr k1)
          have N2 := hid (N1.out.kpt k1 (by omega))
          clear h1 k1
          go_wp2_with fail
          go_meet
          exact .inr ⟨0, 5, (i + 2 : Nat), g, eR.out, by decide, N2.out, H2.out, K2.out⟩
      · have T := hid (takes_no 63 B V2 r a c p (i + 1) d g 0 0 H0.out (by omega) h63)
        by_cases h9 : g = 9
        · have eR := hid (show R = .bad 3 i by rw [← HR.out, if_neg hd', if_neg h63, if_pos (by omega)])
          have b2 : ((g : Int) == 9) = true := by simp; omega
          clear hd12 hd' h9 h63
          go_wp2_with fail
          refine T.out.mono ?_
          rintro _ w1 ⟨rfl, h1, k1⟩
          have K1 := hid (K0.out.tr k1)
          have N1 := hid (N0.out.kpt k1 (by omega))
          clear k1
          clear rl c0 c1 c2 c3 c4 c5 f1 f2 f3 f4 f5
          (have c0 := h1.c0; have c1 := h1.c1; have c2 := h1.c2; have c3 := h1.c3; have c4 := h1.c4; have c5 := h1.c5; have f1 := h1.fz 1; have f2 := h1.fz 2; have f3 := h1.fz 3; have f4 := h1.fz 4; have f5 := h1.fz 5; have rl := h1.lt; have Hh1 := hid h1; clear h1)
          go_wp2_with fail
          refine (fail_one 3 i B w1 r a c p (i + 1) d g 0 Hh1.out).mono ?_
          rintro _ w2 ⟨rfl, h1, k1⟩
          have H2 := hid h1
          have K2 := hid (K1.out.tr k1)
          have N2 := hid (N1.out.kpt k1 (by omega))
          clear h1 k1
          go_wp2_with fail
          go_meet
          exact .inr ⟨0, 3, i, g, eR.out, by decide, N2.out, H2.out, K2.out⟩
        · have eR := hid (show R = grpI p k ((g : Int) + 1) (i + 1) (g + 1) d by rw [← HR.out, if_neg hd', if_neg h63, if_neg (by omega)])
          have b2 : ((g : Int) == 9) = false := by simp; omega
          have hg9 : g + 1 ≤ 9 := by omega
          clear hd12 hd' h9 h63
          go_wp2_with fail
          refine T.out.mono ?_
          rintro _ w1 ⟨rfl, h1, k1⟩
          have K1 := hid (K0.out.tr k1)
          have nn := N0.out.kpt k1 (by omega)
          have N1 := hid nn
          clear k1
          clear rl c0 c1 c2 c3 c4 c5 f1 f2 f3 f4 f5
          (have c0 := h1.c0; have c1 := h1.c1; have c2 := h1.c2; have c3 := h1.c3; have c4 := h1.c4; have c5 := h1.c5; have f1 := h1.fz 1; have f2 := h1.fz 2; have f3 := h1.fz 3; have f4 := h1.fz 4; have f5 := h1.fz 5; have rl := h1.lt; have Hh1 := hid h1; clear h1)
          (have n0 := nn.c0; have n1 := nn.c1; have n2 := nn.c2; have n3 := nn.c3; have n4 := nn.c4; have n5 := nn.c5; have n6 := nn.c6; have nf0 := nn.fz 0; have nf1 := nn.fz 1; have nf2 := nn.fz 2; have nf3 := nn.fz 3; have nf4 := nn.fz 4; have nf5 := nn.fz 5; have nf6 := nn.fz 6; have nz := nn.lt; clear nn)
          go_wp2_with fail
          go_meet
          exact .inl ⟨(g : Int) + 1, i + 1, g + 1, eR.out, by omega, by omega, hg9, hd2, (N1.out.setO (by omega) _ _).set2 _, (Hh1.out.set3 (g + 1)).setOff _ _ (by omega) _, (K1.out.set _).setN _ _ (Nat.le_refl _) _⟩
  case rest =>
    rename World => w3
    clear rl c0 c1 c2 c3 c4 c5 f1 f2 f3 f4 f5
    clear H0 K0 N0 HR
    rcases hcut with ⟨no, i', g', eR, hi', hin, hg', hd2, hn3, hr3, k3⟩ | ⟨no, e, f, y, eR, he, hn3, hr3, k3⟩
    · have R3 := hid hr3
      have eR := hid eR
      have N3 := hid (hn3.setO (show w.heap.size ≠ r by omega) 2 (.int .i64 ((d : Int) + 1)))
      have K3 := hid (k3.set (o := 2) (.int .i64 ((d : Int) + 1)))
      have zk := k3.size
      have C := hid (HIH.out _ i' g' (d + 1) (R3.out.set2 (d + 1)) hin (by omega) hg' (by omega))
      (have c0 := hr3.c0; have c1 := hr3.c1; have c2 := hr3.c2; have c3 := hr3.c3; have c4 := hr3.c4; have c5 := hr3.c5; have f1 := hr3.fz 1; have f2 := hr3.fz 2; have f3 := hr3.fz 3; have f4 := hr3.fz 4; have f5 := hr3.fz 5; have rl := hr3.lt; have Hhr3 := hid hr3; clear hr3)
      clear hn3 k3
      go_wp2_with fail
      refine C.out.mono ?_
      rintro e4 w4 hx
      cases hA : altP CC p.length k (p.drop i') g' (d + 1) with
      | bad e f =>
        rw [hA] at hx
        obtain ⟨a2, d2, L, y, rfl, ho, hs, he, h4, k4⟩ := hx
        have zk4 := k4.size
        have K4 := hid (K3.out.tr k4)
        have N4 := hid (N3.out.kpt k4 (by omega))
        have H4 := hid h4
        have O4 := hid ho
        have Hs := hid hs
        have HA := hid hA
        have He := hid he
        clear ho hs h4 k4 hA he C K3 N3
        clear rl c0 c1 c2 c3 c4 c5 f1 f2 f3 f4 f5
        go_wp2_with fail
        refine (needs_bad 41 B w4 r a c p (d + 1) y e f H4.out He.out (by decide)).mono ?_
        rintro _ w5 ⟨rfl, h5, k5⟩
        have H5 := hid h5
        have K5 := hid (K4.out.tr k5)
        have N5 := hid (N4.out.kpt k5 (by omega))
        have bz : w.heap.size ≤ (w3.setCell ⟨r, 2, none⟩ (.int .i64 ((d + 1 : Nat) : Int))).heap.size := by simp; omega
        generalize (w3.setCell ⟨r, 2, none⟩ (.int .i64 ((d + 1 : Nat) : Int))).heap.size = b5 at *
        have O5 := hid (O4.out.kr k5 (by omega))
        have hd1 : IntKind.i64.wrap (((d + 1 : Nat) : Int) - 1) = (d : Int) := by rw [IntKind.wrap_i64]; omega
        clear h5 k5
        have hh := H5.out
        have nn := N5.out
        (have c0 := hh.c0; have c1 := hh.c1; have c2 := hh.c2; have c3 := hh.c3; have c4 := hh.c4; have c5 := hh.c5; have f1 := hh.fz 1; have f2 := hh.fz 2; have f3 := hh.fz 3; have f4 := hh.fz 4; have f5 := hh.fz 5; have rl := hh.lt; have Hhh := hid hh; clear hh)
        (have n0 := nn.c0; have n1 := nn.c1; have n2 := nn.c2; have n3 := nn.c3; have n4 := nn.c4; have n5 := nn.c5; have n6 := nn.c6; have nf0 := nn.fz 0; have nf1 := nn.fz 1; have nf2 := nn.fz 2; have nf3 := nn.fz 3; have nf4 := nn.fz 4; have nf5 := nn.fz 5; have nf6 := nn.fz 6; have nz := nn.lt; clear nn)
        go_wp2_with fail
        have H6 := hid (H5.out.set2 d)
        have kd : KR r w5 (w5.setCell ⟨r, 2, none⟩ (.int .i64 d)) := (KR.refl r w5).set _
        have K6 := hid (K5.out.tr kd)
        have O6 := hid (O5.out.kr kd (by omega))
        clear kd
        refine (holding_c _ ⟨5, 0, no, 0, false, false, none, [], 0⟩ a2 d2 L _ O6.out (Hs.out.mono (by omega) (by omega))).mono ?_
        rintro _ w7 ⟨a7, c7, L7, rfl, hL7, ho7, k7⟩
        have O7 := hid (ho7.base_le (base' := w.heap.size) K6.out.size)
        have K7 := hid (Kpt.step K6.out k7 (fun q hq => .inr (by have := (O6.out.lt hq).1; omega)))
        have R7 := hid (H6.out.kpt k7 (fun q hq => by have := (O6.out.lt hq).1; omega))
        clear ho7 k7
        go_wp2_with fail
        go_ret
        have hE : R = .bad e f := by rw [eR.out]; unfold grpI; rw [HA.out]
        rw [hE]
        exact ⟨a7, c7, L7, y, rfl, O7.out, by rw [hL7.out]; exact (Hs.out.low.cons rfl).mono (by omega) (by omega), He.out, R7.out, K7.out⟩
      | ok l s1 g1 =>
        rw [hA] at hx
        obtain ⟨a2, d2, L, j, rfl, hrn, ho, hS, hij, hjn, hs, hs1, hg1, h4, k4⟩ := hx
        have zk4 := k4.size
        have K4 := hid (K3.out.tr k4)
        have N4 := hid (N3.out.kpt k4 (by omega))
        have H4 := hid h4
        have O4 := hid ho
        have S4 := hid hS
        have Hs := hid hs
        have Hrn := hid hrn
        have Hs1 := hid hs1
        have HA := hid hA
        clear hrn ho hS hs hs1 h4 k4 hA C K3 N3
        clear rl c0 c1 c2 c3 c4 c5 f1 f2 f3 f4 f5
        by_cases h41 : nx p j = 41
        · have l1 := nx_is h41 (by decide)
          go_wp2_with fail
          refine (needs_yes 41 B w4 r a c p j (d + 1) g1 0 0 H4.out l1 hl h41).mono ?_
          rintro _ w5 ⟨rfl, h5, k5⟩
          have H5 := hid h5
          have K5 := hid (K4.out.tr k5)
          have N5 := hid (N4.out.kpt k5 (by omega))
          have bz : w.heap.size ≤ (w3.setCell ⟨r, 2, none⟩ (.int .i64 ((d + 1 : Nat) : Int))).heap.size := by simp; omega
          generalize (w3.setCell ⟨r, 2, none⟩ (.int .i64 ((d + 1 : Nat) : Int))).heap.size = b5 at *
          have O5 := hid (O4.out.kr k5 (by omega))
          have S5 := hid (S4.out.kr k5 (by omega))
          have hd1 : IntKind.i64.wrap (((d + 1 : Nat) : Int) - 1) = (d : Int) := by rw [IntKind.wrap_i64]; omega
          clear h5 k5
          have hh := H5.out
          have nn := N5.out
          (have c0 := hh.c0; have c1 := hh.c1; have c2 := hh.c2; have c3 := hh.c3; have c4 := hh.c4; have c5 := hh.c5; have f1 := hh.fz 1; have f2 := hh.fz 2; have f3 := hh.fz 3; have f4 := hh.fz 4; have f5 := hh.fz 5; have rl := hh.lt; have Hhh := hid hh; clear hh)
          (have n0 := nn.c0; have n1 := nn.c1; have n2 := nn.c2; have n3 := nn.c3; have n4 := nn.c4; have n5 := nn.c5; have n6 := nn.c6; have nf0 := nn.fz 0; have nf1 := nn.fz 1; have nf2 := nn.fz 2; have nf3 := nn.fz 3; have nf4 := nn.fz 4; have nf5 := nn.fz 5; have nf6 := nn.fz 6; have nz := nn.lt; clear nn)
          go_wp2_with fail
          have H6 := hid (H5.out.set2 d)
          have kd : KR r w5 (w5.setCell ⟨r, 2, none⟩ (.int .i64 d)) := (KR.refl r w5).set _
          have K6 := hid (K5.out.tr kd)
          have O6 := hid (O5.out.kr kd (by omega))
          have S6 := hid (S5.out.kr kd (by omega))
          clear kd
          refine (holding_c _ ⟨5, 0, no, 0, false, false, none, [], 0⟩ a2 d2 L _ O6.out (Hs.out.mono (by omega) (by omega))).mono ?_
          rintro _ w7 ⟨a7, c7, L7, rfl, hL7, ho7, k7⟩
          have O7 := hid (ho7.base_le (base' := w.heap.size) K6.out.size)
          have K7 := hid (Kpt.step K6.out k7 (fun q hq => .inr (by have := (O6.out.lt hq).1; omega)))
          have R7 := hid (H6.out.kpt k7 (fun q hq => by have := (O6.out.lt hq).1; omega))
          have S7 := hid ((S6.out.list O6.out k7).low.cons0 (m := ⟨5, 0, no, 0, false, false, none, [], 0⟩) rfl rfl rfl)
          clear ho7 k7
          go_wp2_with fail
          go_ret
          have hE : R = .ok (nGroup no :: lower l) (p.drop (j + 1)) g1 := by rw [eR.out]; unfold grpI; rw [HA.out, Hs1.out, drop_nx l1, h41]; rfl
          rw [hE]
          exact ⟨a7, c7, L7, j + 1, rfl, by rw [hL7.out, rns_cons, rns_low, Hrn.out]; rfl, O7.out, by rw [hL7.out]; exact S7.out.base_le bz, by omega, by omega, by rw [hL7.out]; exact (Hs.out.low.cons rfl).mono (by omega) (by omega), rfl, hg1, R7.out, K7.out⟩
        · go_wp2_with fail
          refine (needs_no 41 B w4 r a c p j (d + 1) g1 0 H4.out hjn h41).mono ?_
          rintro _ w5 ⟨rfl, h5, k5⟩
          have H5 := hid h5
          have K5 := hid (K4.out.tr k5)
          have N5 := hid (N4.out.kpt k5 (by omega))
          have bz : w.heap.size ≤ (w3.setCell ⟨r, 2, none⟩ (.int .i64 ((d + 1 : Nat) : Int))).heap.size := by simp; omega
          generalize (w3.setCell ⟨r, 2, none⟩ (.int .i64 ((d + 1 : Nat) : Int))).heap.size = b5 at *
          have O5 := hid (O4.out.kr k5 (by omega))
          have hd1 : IntKind.i64.wrap (((d + 1 : Nat) : Int) - 1) = (d : Int) := by rw [IntKind.wrap_i64]; omega
          clear h5 k5
          have hh := H5.out
          have nn := N5.out
          (have c0 := hh.c0; have c1 := hh.c1; have c2 := hh.c2; have c3 := hh.c3; have c4 := hh.c4; have c5 := hh.c5; have f1 := hh.fz 1; have f2 := hh.fz 2; have f3 := hh.fz 3; have f4 := hh.fz 4; have f5 := hh.fz 5; have rl := hh.lt; have Hhh := hid hh; clear hh)
          (have n0 := nn.c0; have n1 := nn.c1; have n2 := nn.c2; have n3 := nn.c3; have n4 := nn.c4; have n5 := nn.c5; have n6 := nn.c6; have nf0 := nn.fz 0; have nf1 := nn.fz 1; have nf2 := nn.fz 2; have nf3 := nn.fz 3; have nf4 := nn.fz 4; have nf5 := nn.fz 5; have nf6 := nn.fz 6; have nz := nn.lt; clear nn)
          go_wp2_with fail
          have H6 := hid (H5.out.set2 d)
          have kd : KR r w5 (w5.setCell ⟨r, 2, none⟩ (.int .i64 d)) := (KR.refl r w5).set _
          have K6 := hid (K5.out.tr kd)
          have O6 := hid (O5.out.kr kd (by omega))
          clear kd
          refine (holding_c _ ⟨5, 0, no, 0, false, false, none, [], 0⟩ a2 d2 L _ O6.out (Hs.out.mono (by omega) (by omega))).mono ?_
          rintro _ w7 ⟨a7, c7, L7, rfl, hL7, ho7, k7⟩
          have O7 := hid (ho7.base_le (base' := w.heap.size) K6.out.size)
          have K7 := hid (Kpt.step K6.out k7 (fun q hq => .inr (by have := (O6.out.lt hq).1; omega)))
          have R7 := hid (H6.out.kpt k7 (fun q hq => by have := (O6.out.lt hq).1; omega))
          clear ho7 k7
          go_wp2_with fail
          go_ret
          have hE : R = .bad 5 j := by
            rw [eR.out]; unfold grpI; rw [HA.out, Hs1.out]
            have e := at_drop p j hjn
            dsimp only
            rw [e]
            split
            · rename_i hh
              rcases Nat.lt_or_ge j p.length with h | h
              · rw [drop_nx h] at hh; exact absurd (List.cons.inj hh).1 h41
              · rw [drop_end h] at hh; cases hh
            · rfl
          rw [hE]
          exact ⟨a7, c7, L7, g1, rfl, O7.out, by rw [hL7.out]; exact (Hs.out.low.cons rfl).mono (by omega) (by omega), by decide, R7.out, K7.out⟩
    · have R3 := hid hr3
      have eR := hid eR
      have He := hid he
      have N3 := hid (hn3.setO (show w.heap.size ≠ r by omega) 2 (.int .i64 ((d : Int) + 1)))
      have K3 := hid (k3.set (o := 2) (.int .i64 ((d : Int) + 1)))
      have zk := k3.size
      have C := hid (pattern_bad B _ r a c p (d + 1) y e f (R3.out.set2 (d + 1)))
      (have c0 := hr3.c0; have c1 := hr3.c1; have c2 := hr3.c2; have c3 := hr3.c3; have c4 := hr3.c4; have c5 := hr3.c5; have f1 := hr3.fz 1; have f2 := hr3.fz 2; have f3 := hr3.fz 3; have f4 := hr3.fz 4; have f5 := hr3.fz 5; have rl := hr3.lt; have Hhr3 := hid hr3; clear hr3)
      clear hn3 k3 he
      go_wp2_with fail
      refine C.out.mono ?_
      rintro _ w4 ⟨a2, d2, L, rfl, ho, hs, h4, k4⟩
      have zk4 := k4.size
      have K4 := hid (K3.out.tr k4)
      have N4 := hid (N3.out.kpt k4 (by omega))
      have H4 := hid h4
      have O4 := hid ho
      have Hs := hid hs
      clear ho hs h4 k4 C K3 N3
      clear rl c0 c1 c2 c3 c4 c5 f1 f2 f3 f4 f5
      go_wp2_with fail
      refine (needs_bad 41 B w4 r a c p (d + 1) y e f H4.out He.out (by decide)).mono ?_
      rintro _ w5 ⟨rfl, h5, k5⟩
      have H5 := hid h5
      have K5 := hid (K4.out.tr k5)
      have N5 := hid (N4.out.kpt k5 (by omega))
      have bz : w.heap.size ≤ (w3.setCell ⟨r, 2, none⟩ (.int .i64 ((d + 1 : Nat) : Int))).heap.size := by simp; omega
      generalize (w3.setCell ⟨r, 2, none⟩ (.int .i64 ((d + 1 : Nat) : Int))).heap.size = b5 at *
      have O5 := hid (O4.out.kr k5 (by omega))
      have hd1 : IntKind.i64.wrap (((d + 1 : Nat) : Int) - 1) = (d : Int) := by rw [IntKind.wrap_i64]; omega
      clear h5 k5
      have hh := H5.out
      have nn := N5.out
      (have c0 := hh.c0; have c1 := hh.c1; have c2 := hh.c2; have c3 := hh.c3; have c4 := hh.c4; have c5 := hh.c5; have f1 := hh.fz 1; have f2 := hh.fz 2; have f3 := hh.fz 3; have f4 := hh.fz 4; have f5 := hh.fz 5; have rl := hh.lt; have Hhh := hid hh; clear hh)
      (have n0 := nn.c0; have n1 := nn.c1; have n2 := nn.c2; have n3 := nn.c3; have n4 := nn.c4; have n5 := nn.c5; have n6 := nn.c6; have nf0 := nn.fz 0; have nf1 := nn.fz 1; have nf2 := nn.fz 2; have nf3 := nn.fz 3; have nf4 := nn.fz 4; have nf5 := nn.fz 5; have nf6 := nn.fz 6; have nz := nn.lt; clear nn)
      go_wp2_with fail
      have H6 := hid (H5.out.set2 d)
      have kd : KR r w5 (w5.setCell ⟨r, 2, none⟩ (.int .i64 d)) := (KR.refl r w5).set _
      have K6 := hid (K5.out.tr kd)
      have O6 := hid (O5.out.kr kd (by omega))
      clear kd
      refine (holding_c _ ⟨5, 0, no, 0, false, false, none, [], 0⟩ a2 d2 L _ O6.out (Hs.out.mono (by omega) (by omega))).mono ?_
      rintro _ w7 ⟨a7, c7, L7, rfl, hL7, ho7, k7⟩
      have O7 := hid (ho7.base_le (base' := w.heap.size) K6.out.size)
      have K7 := hid (Kpt.step K6.out k7 (fun q hq => .inr (by have := (O6.out.lt hq).1; omega)))
      have R7 := hid (H6.out.kpt k7 (fun q hq => by have := (O6.out.lt hq).1; omega))
      clear ho7 k7
      go_wp2_with fail
      go_ret
      rw [eR.out]
      exact ⟨a7, c7, L7, y, rfl, O7.out, by rw [hL7.out]; exact (Hs.out.low.cons rfl).mono (by omega) (by omega), He.out, R7.out, K7.out⟩
end Go.Proofs.YtefgjicegbhcaaaGreat
