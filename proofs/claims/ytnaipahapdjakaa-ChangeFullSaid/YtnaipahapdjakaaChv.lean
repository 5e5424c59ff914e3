/- The walk of ChangeFull. -/
import Derived.Test.YtnaipahapdjakaaChu
namespace Go.Proofs.Ytnaipahapdjakaa
open Go.RowKit

theorem make_z (n : Nat) (w : World) (hn : n ≤ 100000) : (Instr.makeSlice 22 (.int .i64 n) (.int .i64 n)).run Try.prog w = .ok (.slice (some ⟨w.heap.size, 0, none⟩) n n) (w.alloc (.cells (madeCells #[.int .i32 0] n) 21)) := by
  obtain ⟨i0, hi, hz0, hz1, hz2⟩ := info_parts Try.infoI32
  have h := run_make (P := Try.prog) w 22 21 i0 (.int .i32 0) Try.underlying22 hi hz0 .i64 .i64 n n (by omega) (by omega) (by rw [hz2]; omega) (by omega)
  rw [h, hz1]
  simp [Value.cells]
set_option maxHeartbeats 4000000 in
theorem full_w (x0 x1 x2 x3 : Int) (W : World) : Calls Try.prog 4 #[.int .i64 x0, .int .i64 x1, .int .i64 x2, .int .i64 x3] W fun e w' => e = .returned (.bool true) ∧ Below W.heap.size W w' := by
  have i1 := index_c x0 5 W (by omega) (by omega)
  go_enter Try.func4, Try.ntmps4
  go_wp2_with fail
  refine i1.mono ?_
  rintro e w' ⟨⟨i, hi, rfl⟩, rfl⟩
  obtain ⟨n, hn⟩ : ∃ n : Nat, (998 : Int) + i = n := ⟨998 + i, by omega⟩
  have hn1 : n ≤ 1002 := by omega
  have mk1 := fun w' => make_z n w' (by omega)
  have hs : Hid (Sl (W.alloc (.cells (madeCells #[.int .i32 0] n) 21)) (some ⟨W.heap.size, 0, none⟩) (List.replicate n 0)) := Sl.made W n _ (by omega)
  have hx1 : Below W.heap.size W (W.alloc (.cells (madeCells #[.int .i32 0] n) 21)) := bal (Below.refl _ _) _
  clear i1
  go_wp2_with fail
  generalize W.alloc (.cells (madeCells #[.int .i32 0] n) 21) = w1 at hs hx1 ⊢
  refine (index_c x2 5 w1 (by omega) (by omega)).mono ?_
  rintro e w' ⟨⟨j, hj, rfl⟩, rfl⟩
  go_wp2_with fail
  refine (index_c x3 5 w1 (by omega) (by omega)).mono ?_
  rintro e w' ⟨⟨p, hp, rfl⟩, rfl⟩
  have mk2 := fun w' => make_z p w' (by omega)
  have hs2 : Hid (Sl (w1.alloc (.cells (madeCells #[.int .i32 0] p) 21)) (some ⟨w1.heap.size, 0, none⟩) (List.replicate p 0)) := Sl.made w1 p _ (by omega)
  have hx2 : Below W.heap.size W (w1.alloc (.cells (madeCells #[.int .i32 0] p) 21)) := bal hx1 _
  have hs1 := hid (hs.out.alloc (.cells (madeCells #[.int .i32 0] p) 21))
  clear hs
  obtain ⟨S, hS⟩ : ∃ S : List Int, S = List.replicate n 0 := ⟨_, rfl⟩
  obtain ⟨T, hT⟩ : ∃ T : List Int, T = List.replicate p 0 := ⟨_, rfl⟩
  have eS : S.length = n := by rw [hS]; simp
  have eT : T.length = p := by rw [hT]; simp
  rw [← hS] at hs1
  rw [← hT] at hs2
  clear hS hT
  subst eS eT
  have ht2 : T.length ≤ 4 := by omega
  go_wp2_with fail
  generalize w1.alloc (.cells (madeCells #[.int .i32 0] T.length) 21) = w2 at hs1 hs2 hx2 ⊢
  refine (fitw_c _ _ S.length T.length S T x1 j w2 hs1.out hs2.out (Nat.le_refl _) (by omega) (by omega)).mono ?_
  rintro e w3 ⟨q, C, P, a1, c1, a2, c2, rfl, hq, hC, hP, sC, sP, hb3⟩
  have hx3 : Below W.heap.size W w3 := bthen hx2 hb3
  have sS := hid (hs1.out.bel hb3)
  have SC := hid sC; have SP := hid sP
  clear sC sP hb3 hs1 hs2 hx1
  go_wp2_with fail
  refine (same_g _ a1 a2 S.length c1 c2 S C P q w3 sS.out SC.out SP.out (Nat.le_refl _) (by unfold ir; omega) (by omega) (by omega) (by omega)).mono ?_
  rintro e w4 ⟨rfl, hb4⟩
  have hx4 : Below W.heap.size W w4 := bthen hx3 hb4
  clear hb4
  go_wp2_with fail
  refine (known_c w4).mono ?_
  rintro e w5 ⟨rfl, hb5⟩
  go_wp2
  go_ret
  exact ⟨rfl, bthen hx4 hb5⟩
end Go.Proofs.Ytnaipahapdjakaa
