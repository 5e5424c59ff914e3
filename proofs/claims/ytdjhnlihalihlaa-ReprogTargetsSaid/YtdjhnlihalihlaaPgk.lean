/- What every compiler answers that is one (standishlaw9.known). -/
import Derived.Test.YtdjhnlihalihlaaPgj
namespace Go.Proofs.Ytdjhnlihalihlaa
open Go.RowKit ReM

theorem comp_k1 : compW [97, 42] = ([iSave 0, iSplit 2 4, iSet false [97, 97], iJump 1, iSave 1, iMatch], 0, 0) := by kernel_rfl
theorem comp_k2 : compW [97, 42, 63] = ([iSave 0, iSplit 4 2, iSet false [97, 97], iJump 1, iSave 1, iMatch], 0, 0) := by kernel_rfl
theorem comp_k3 : compW [40] = ([], 5, 1) := by kernel_rfl
theorem inss_at {L : List Im} {l : List Ins} (h : inss L = l) {i : Nat} (hi : i < L.length) : (rgt L i).ins = igt l i := by
  rw [← h, igt_inss hi]
/-- the cells of an instruction of an owned list -/
theorem ino_at {w : World} {base g c : Nat} {L : List Im} (h : ROwn encIn 52 w base (some ⟨g, 0, none⟩) c L) {i : Nat} (hi : i < L.length) :
    w.cell? ⟨g, i * 5, none⟩ = some (.int .i64 (rgt L i).op) ∧ w.cell? ⟨g, i * 5 + 1, none⟩ = some (.int .i64 (rgt L i).x) ∧ w.cell? ⟨g, i * 5 + 2, none⟩ = some (.int .i64 (rgt L i).y) ∧ w.cell? ⟨g, i * 5 + 3, none⟩ = some (.bool (rgt L i).not) ∧ w.cell? ⟨g, i * 5 + 4, none⟩ = some (.slice (rgt L i).sa (rgt L i).set.length (rgt L i).sc) := rec_in (h.at hi)
set_option maxRecDepth 20000 in
set_option maxHeartbeats 16000000 in
theorem known9_c (w : World) : Calls Try.prog 20 #[] w fun e' w' => e' = .returned (.bool true) ∧ Below w.heap.size w w' := by
  obtain ⟨V, hV⟩ : ∃ V, V = w.alloc (.cells #[.int .i32 97, .int .i32 42] 21) := ⟨_, rfl⟩
  have sV : Sl V (some ⟨w.heap.size, 0, none⟩) [97, 42] := by subst hV; exact (Sl.lit' _ [97, 42] _ _ (by simp) (by simp) (by simp [rng]) _ rfl)
  have bV : Below w.heap.size w V := by subst hV; (repeat' (first | exact Below.refl _ _ | assumption | refine bdrewN ?_ _ | refine Below.drew ?_ | refine bal ?_ _ | refine bthen ?_ (by assumption)))
  have zV : V.heap.size = w.heap.size + 1 := by subst hV; simp
  have C1 := hid (compile_c (some ⟨w.heap.size, 0, none⟩) 2 [97, 42] V sV (by simp))
  rw [comp_k1] at C1
  go_enter Try.func20, Try.ntmps20
  go_wp2_with fail
  rw [← hV]; clear hV sV
  refine C1.out.mono ?_
  rintro _ w1 ⟨a2, c2, L, rfl, hin, -, ho, -, b1⟩
  have hL := hid (show L.length = 6 by rw [← inss_len, hin]; rfl)
  have hat := hid (fun i hi => inss_at hin (i := i) hi)
  obtain ⟨g, rfl, hg1, hg2, hg3⟩ : ∃ g, a2 = some ⟨g, 0, none⟩ ∧ V.heap.size ≤ g ∧ g < w1.heap.size ∧ L.length ≤ c2 := by
    rcases ho.shape with ⟨_, _, h0⟩ | h0
    · rw [h0] at hL; cases hL.out
    · exact h0
  have Ho := hid ho
  have B1 := hid (bV.trans (b1.mono (by omega)))
  have zw := b1.size
  clear hin ho b1 C1
  go_upto_region 2 with fail
  obtain ⟨V2, hV2⟩ : ∃ V2, V2 = w1.alloc (.cells #[.int .i64 0, .int .i64 0] 36) := ⟨_, rfl⟩
  have F1 : FtC V2 w1.heap.size 0 0 := by rw [hV2]; exact FtC.new _ _ _ _ _ rfl
  have O2 : ROwn encIn 52 V2 V.heap.size (some ⟨g, 0, none⟩) c2 L := by rw [hV2]; exact Ho.out.grow (by (repeat' (first | exact Below.refl _ _ | assumption | refine bdrewN ?_ _ | refine Below.drew ?_ | refine bal ?_ _ | refine bthen ?_ (by assumption))))
  have B2 : Hid (Below w.heap.size w V2) := by rw [hV2]; exact B1.out.trans (Below.mono (by (repeat' (first | exact Below.refl _ _ | assumption | refine bdrewN ?_ _ | refine Below.drew ?_ | refine bal ?_ _ | refine bthen ?_ (by assumption)))) (by omega))
  rw [← hV2]; clear hV2 Ho B1
  obtain ⟨V3, hV3⟩ : ∃ V3, V3 = V2.alloc (.cells #[.int .i32 97, .int .i32 42, .int .i32 63] 21) := ⟨_, rfl⟩
  have sV : Sl V3 (some ⟨V2.heap.size, 0, none⟩) [97, 42, 63] := by subst hV3; exact (Sl.lit' _ [97, 42, 63] _ _ (by simp) (by simp) (by simp [rng]) _ rfl)
  have bV3 : Below V2.heap.size V2 V3 := by subst hV3; (repeat' (first | exact Below.refl _ _ | assumption | refine bdrewN ?_ _ | refine Below.drew ?_ | refine bal ?_ _ | refine bthen ?_ (by assumption)))
  have C2 := hid (compile_c (some ⟨V2.heap.size, 0, none⟩) 3 [97, 42, 63] V3 sV (by simp))
  rw [comp_k2] at C2
  have F2 := hid (F1.bel bV3)
  have O3 := hid (O2.grow bV3)
  have B3 := hid (B2.out.trans (bV3.mono B2.out.size))
  clear F1 O2 B2
  go_wp2_with fail
  rw [← hV3]; clear hV3 sV bV3
  refine C2.out.mono ?_
  rintro _ w3 ⟨a4, c4, M, rfl, hin, -, ho, -, b4⟩
  have hM := hid (show M.length = 6 by rw [← inss_len, hin]; rfl)
  have hbt := hid (fun i hi => inss_at hin (i := i) hi)
  obtain ⟨g2, rfl, hg4, hg5, hg6⟩ : ∃ g, a4 = some ⟨g, 0, none⟩ ∧ V3.heap.size ≤ g ∧ g < w3.heap.size ∧ M.length ≤ c4 := by
    rcases ho.shape with ⟨_, _, h0⟩ | h0
    · rw [h0] at hM; cases hM.out
    · exact h0
  have F4 := hid (F2.out.bel b4)
  have O4 := hid (O3.out.grow b4)
  have B4 := hid (B3.out.trans (b4.mono B3.out.size))
  have N4 := hid ho
  clear hin ho b4 C2 F2 O3 B3
  go_upto_region 3 with fail
  obtain ⟨V5, hV5⟩ : ∃ V5, V5 = w3.alloc (.cells #[.int .i64 0, .int .i64 0] 36) := ⟨_, rfl⟩
  have bV5 : Below w3.heap.size w3 V5 := by rw [hV5]; (repeat' (first | exact Below.refl _ _ | assumption | refine bdrewN ?_ _ | refine Below.drew ?_ | refine bal ?_ _ | refine bthen ?_ (by assumption)))
  have F5 := hid (F4.out.bel bV5)
  have O5 := hid (O4.out.grow bV5)
  have N5 := hid (N4.out.grow bV5)
  have B5 := hid (B4.out.trans (bV5.mono B4.out.size))
  rw [← hV5]; clear hV5 F4 O4 N4 B4 bV5
  obtain ⟨V6, hV6⟩ : ∃ V6, V6 = V5.alloc (.cells #[.int .i32 40] 21) := ⟨_, rfl⟩
  have sV : Sl V6 (some ⟨V5.heap.size, 0, none⟩) [40] := by subst hV6; exact (Sl.lit' _ [40] _ _ (by simp) (by simp) (by simp [rng]) _ rfl)
  have bV6 : Below V5.heap.size V5 V6 := by subst hV6; (repeat' (first | exact Below.refl _ _ | assumption | refine bdrewN ?_ _ | refine Below.drew ?_ | refine bal ?_ _ | refine bthen ?_ (by assumption)))
  have C3 := hid (compile_c (some ⟨V5.heap.size, 0, none⟩) 1 [40] V6 sV (by simp))
  rw [comp_k3] at C3
  have F6 := hid (F5.out.bel bV6)
  have O6 := hid (O5.out.grow bV6)
  have N6 := hid (N5.out.grow bV6)
  have B6 := hid (B5.out.trans (bV6.mono B5.out.size))
  clear F5 O5 N5 B5
  go_wp2_with fail
  rw [← hV6]; clear hV6 sV bV6
  refine C3.out.mono ?_
  rintro _ w7 ⟨a8, c8, L8, rfl, -, -, -, -, b8⟩
  have F8 := F6.out.bel b8
  have O8 := O6.out.grow b8
  have N8 := N6.out.grow b8
  have B8 := hid (B6.out.trans (b8.mono B6.out.size))
  have p0 := (ino_at O8 (i := 0) (by rw [hL.out]; decide)).1
  have p1 := (ino_at O8 (i := 1) (by rw [hL.out]; decide)).1
  have x1 := (ino_at O8 (i := 1) (by rw [hL.out]; decide)).2.1
  have y1 := (ino_at O8 (i := 1) (by rw [hL.out]; decide)).2.2.1
  have p2 := (ino_at O8 (i := 2) (by rw [hL.out]; decide)).1
  have p3 := (ino_at O8 (i := 3) (by rw [hL.out]; decide)).1
  have x3 := (ino_at O8 (i := 3) (by rw [hL.out]; decide)).2.1
  have x4 := (ino_at O8 (i := 4) (by rw [hL.out]; decide)).2.1
  have p5 := (ino_at O8 (i := 5) (by rw [hL.out]; decide)).1
  have u1 := (ino_at N8 (i := 1) (by rw [hM.out]; decide)).2.1
  have v1 := (ino_at N8 (i := 1) (by rw [hM.out]; decide)).2.2.1
  have e0 := hat.out 0 (by rw [hL.out]; decide)
  have e1 := hat.out 1 (by rw [hL.out]; decide)
  have e2 := hat.out 2 (by rw [hL.out]; decide)
  have e3 := hat.out 3 (by rw [hL.out]; decide)
  have e4 := hat.out 4 (by rw [hL.out]; decide)
  have e5 := hat.out 5 (by rw [hL.out]; decide)
  have d1 := hbt.out 1 (by rw [hM.out]; decide)
  rw [show (rgt L 0).op = 3 from congrArg Ins.op e0] at p0
  rw [show (rgt L 1).op = 4 from congrArg Ins.op e1] at p1
  rw [show (rgt L 1).x = 2 from congrArg Ins.x e1] at x1
  rw [show (rgt L 1).y = 4 from congrArg Ins.y e1] at y1
  rw [show (rgt L 2).op = 0 from congrArg Ins.op e2] at p2
  rw [show (rgt L 3).op = 5 from congrArg Ins.op e3] at p3
  rw [show (rgt L 3).x = 1 from congrArg Ins.x e3] at x3
  rw [show (rgt L 4).x = 1 from congrArg Ins.x e4] at x4
  rw [show (rgt L 5).op = 6 from congrArg Ins.op e5] at p5
  rw [show (rgt M 1).x = 4 from congrArg Ins.x d1] at u1
  rw [show (rgt M 1).y = 2 from congrArg Ins.y d1] at v1
  have m0 := F8.c0
  have m1 := F8.c1
  have m2 := F8.lt
  have z3 : g < w7.heap.size := World.block_lt_of_cell? w7 _ p0
  have z4 : g2 < w7.heap.size := World.block_lt_of_cell? w7 _ u1
  have z7 : ((L.length : Int) == 6) = true := by rw [hL.out]; rfl
  have z8 : ((M.length : Int) == 6) = true := by rw [hM.out]; rfl
  have zp : 5 < L.length := by rw [hL.out]; decide
  have zq : 1 < M.length := by rw [hM.out]; decide
  clear F8 O8 N8 F6 O6 N6 C3 b8 e0 e1 e2 e3 e4 e5 d1
  dsimp only
  go_wp2_with fail
  go_ret
  exact ⟨rfl, B8.out.trans (Below.mono (by (repeat' (first | exact Below.refl _ _ | assumption | refine bdrewN ?_ _ | refine Below.drew ?_ | refine Below.setCell ?_ (Nat.le_refl _) _ | refine bal ?_ _ | refine bthen ?_ (by assumption)))) B8.out.size)⟩
end Go.Proofs.Ytdjhnlihalihlaa
