/- The document's own answer for a variable: what a name tells. -/
import Derived.Test.YtijhkpbnalnpbaaDoorRy
namespace Go.Proofs.YtijhkpbnalnpbaaDoor
open Go.RowKit

/-- two results: a readable text, and whether it is one -/
def RtE (w : World) (L : List Int) (e : Ending) (w' : World) : Prop := ∃ a c, e = .returned (.tuple #[.slice a L.length c, .bool true]) ∧ Sl w' a L ∧ Below w.heap.size w w'
theorem RcE.rt {w w1 w' : World} {L : List Int} {e : Ending} (hb : Below w.heap.size w w1) (h : RcE w1 L e w') : RtE w L e w' := by
  obtain ⟨a, c, he, ho, hb2⟩ := h
  exact ⟨a, c, he, ho.sl, hb.trans (hb2.mono hb.size)⟩
set_option maxHeartbeats 1000000 in
set_option maxRecDepth 100000 in
theorem rtexts0_c (m : En) (N : ByteArray) (w : World) (hE : Hid (EnOk w m)) (hm : Hid (mayE m = true)) (hN : N = bStr (nameL 0)) : Calls Tryd.prog 30 #[.agg (enC m), .string N] w (RtE w (m.t0)) := by
  have e0 : (N.toList == [84, 77, 95, 83, 69, 76, 69, 67, 84, 69, 68, 95, 84, 69, 88, 84]) = true := by rw [hN]; decide +kernel
  have X := mayE_tx hm.out
  clear hN
  have S := hid hE.out.s0
  clear X
  simp only [enC]
  go_enter Tryd.func30, Tryd.ntmps30
  go_wp2
  go_ret2
  exact ⟨_, _, rfl, S.out.alloc _, bal (Below.refl _ _) _⟩
set_option maxHeartbeats 1000000 in
set_option maxRecDepth 100000 in
theorem rtexts1_c (m : En) (N : ByteArray) (w : World) (hE : Hid (EnOk w m)) (hm : Hid (mayE m = true)) (hN : N = bStr (nameL 1)) : Calls Tryd.prog 30 #[.agg (enC m), .string N] w (RtE w (m.t1)) := by
  have e0 : (N.toList == [84, 77, 95, 83, 69, 76, 69, 67, 84, 69, 68, 95, 84, 69, 88, 84]) = false := by rw [hN]; decide +kernel
  have e1 : (N.toList == [84, 77, 95, 67, 85, 82, 82, 69, 78, 84, 95, 76, 73, 78, 69]) = true := by rw [hN]; decide +kernel
  have X := mayE_tx hm.out
  clear hN
  have S := hid hE.out.s1
  clear X
  simp only [enC]
  go_enter Tryd.func30, Tryd.ntmps30
  go_wp2
  go_ret2
  exact ⟨_, _, rfl, S.out.alloc _, bal (Below.refl _ _) _⟩
set_option maxHeartbeats 1000000 in
set_option maxRecDepth 100000 in
theorem rtexts2_c (m : En) (N : ByteArray) (w : World) (hE : Hid (EnOk w m)) (hm : Hid (mayE m = true)) (hN : N = bStr (nameL 2)) : Calls Tryd.prog 30 #[.agg (enC m), .string N] w (RtE w (m.t2)) := by
  have e0 : (N.toList == [84, 77, 95, 83, 69, 76, 69, 67, 84, 69, 68, 95, 84, 69, 88, 84]) = false := by rw [hN]; decide +kernel
  have e1 : (N.toList == [84, 77, 95, 67, 85, 82, 82, 69, 78, 84, 95, 76, 73, 78, 69]) = false := by rw [hN]; decide +kernel
  have e2 : (N.toList == [84, 77, 95, 67, 85, 82, 82, 69, 78, 84, 95, 87, 79, 82, 68]) = true := by rw [hN]; decide +kernel
  have X := mayE_tx hm.out
  clear hN
  have S := hid hE.out.s2
  clear X
  simp only [enC]
  go_enter Tryd.func30, Tryd.ntmps30
  go_wp2
  go_ret2
  exact ⟨_, _, rfl, S.out.alloc _, bal (Below.refl _ _) _⟩
set_option maxHeartbeats 1000000 in
set_option maxRecDepth 100000 in
theorem rtexts5_c (m : En) (N : ByteArray) (w : World) (hE : Hid (EnOk w m)) (hm : Hid (mayE m = true)) (hN : N = bStr (nameL 5)) : Calls Tryd.prog 30 #[.agg (enC m), .string N] w (RtE w (m.t3)) := by
  have e0 : (N.toList == [84, 77, 95, 83, 69, 76, 69, 67, 84, 69, 68, 95, 84, 69, 88, 84]) = false := by rw [hN]; decide +kernel
  have e1 : (N.toList == [84, 77, 95, 67, 85, 82, 82, 69, 78, 84, 95, 76, 73, 78, 69]) = false := by rw [hN]; decide +kernel
  have e2 : (N.toList == [84, 77, 95, 67, 85, 82, 82, 69, 78, 84, 95, 87, 79, 82, 68]) = false := by rw [hN]; decide +kernel
  have e3 : (N.toList == [84, 77, 95, 76, 73, 78, 69, 95, 73, 78, 68, 69, 88]) = false := by rw [hN]; decide +kernel
  have e4 : (N.toList == [84, 77, 95, 76, 73, 78, 69, 95, 78, 85, 77, 66, 69, 82]) = false := by rw [hN]; decide +kernel
  have e5 : (N.toList == [84, 77, 95, 70, 73, 76, 69, 78, 65, 77, 69]) = true := by rw [hN]; decide +kernel
  have X := mayE_tx hm.out
  clear hN
  have S := hid hE.out.s3
  clear X
  simp only [enC]
  go_enter Tryd.func30, Tryd.ntmps30
  go_wp2
  go_ret2
  exact ⟨_, _, rfl, S.out.alloc _, bal (Below.refl _ _) _⟩
set_option maxHeartbeats 1000000 in
set_option maxRecDepth 100000 in
theorem rtexts7_c (m : En) (N : ByteArray) (w : World) (hE : Hid (EnOk w m)) (hm : Hid (mayE m = true)) (hN : N = bStr (nameL 7)) : Calls Tryd.prog 30 #[.agg (enC m), .string N] w (RtE w (m.t4)) := by
  have e0 : (N.toList == [84, 77, 95, 83, 69, 76, 69, 67, 84, 69, 68, 95, 84, 69, 88, 84]) = false := by rw [hN]; decide +kernel
  have e1 : (N.toList == [84, 77, 95, 67, 85, 82, 82, 69, 78, 84, 95, 76, 73, 78, 69]) = false := by rw [hN]; decide +kernel
  have e2 : (N.toList == [84, 77, 95, 67, 85, 82, 82, 69, 78, 84, 95, 87, 79, 82, 68]) = false := by rw [hN]; decide +kernel
  have e3 : (N.toList == [84, 77, 95, 76, 73, 78, 69, 95, 73, 78, 68, 69, 88]) = false := by rw [hN]; decide +kernel
  have e4 : (N.toList == [84, 77, 95, 76, 73, 78, 69, 95, 78, 85, 77, 66, 69, 82]) = false := by rw [hN]; decide +kernel
  have e5 : (N.toList == [84, 77, 95, 70, 73, 76, 69, 78, 65, 77, 69]) = false := by rw [hN]; decide +kernel
  have e6 : (N.toList == [84, 77, 95, 70, 73, 76, 69, 78, 65, 77, 69, 95, 66, 65, 83, 69]) = false := by rw [hN]; decide +kernel
  have e7 : (N.toList == [84, 77, 95, 68, 73, 82, 69, 67, 84, 79, 82, 89]) = true := by rw [hN]; decide +kernel
  have X := mayE_tx hm.out
  clear hN
  have S := hid hE.out.s4
  clear X
  simp only [enC]
  go_enter Tryd.func30, Tryd.ntmps30
  go_wp2
  go_ret2
  exact ⟨_, _, rfl, S.out.alloc _, bal (Below.refl _ _) _⟩
set_option maxHeartbeats 1000000 in
set_option maxRecDepth 100000 in
theorem rtexts9_c (m : En) (N : ByteArray) (w : World) (hE : Hid (EnOk w m)) (hm : Hid (mayE m = true)) (hN : N = bStr (nameL 9)) : Calls Tryd.prog 30 #[.agg (enC m), .string N] w (RtE w (m.t5)) := by
  have e0 : (N.toList == [84, 77, 95, 83, 69, 76, 69, 67, 84, 69, 68, 95, 84, 69, 88, 84]) = false := by rw [hN]; decide +kernel
  have e1 : (N.toList == [84, 77, 95, 67, 85, 82, 82, 69, 78, 84, 95, 76, 73, 78, 69]) = false := by rw [hN]; decide +kernel
  have e2 : (N.toList == [84, 77, 95, 67, 85, 82, 82, 69, 78, 84, 95, 87, 79, 82, 68]) = false := by rw [hN]; decide +kernel
  have e3 : (N.toList == [84, 77, 95, 76, 73, 78, 69, 95, 73, 78, 68, 69, 88]) = false := by rw [hN]; decide +kernel
  have e4 : (N.toList == [84, 77, 95, 76, 73, 78, 69, 95, 78, 85, 77, 66, 69, 82]) = false := by rw [hN]; decide +kernel
  have e5 : (N.toList == [84, 77, 95, 70, 73, 76, 69, 78, 65, 77, 69]) = false := by rw [hN]; decide +kernel
  have e6 : (N.toList == [84, 77, 95, 70, 73, 76, 69, 78, 65, 77, 69, 95, 66, 65, 83, 69]) = false := by rw [hN]; decide +kernel
  have e7 : (N.toList == [84, 77, 95, 68, 73, 82, 69, 67, 84, 79, 82, 89]) = false := by rw [hN]; decide +kernel
  have e8 : (N.toList == [84, 77, 95, 70, 73, 76, 69, 80, 65, 84, 72]) = false := by rw [hN]; decide +kernel
  have e9 : (N.toList == [67, 76, 73, 80, 66, 79, 65, 82, 68]) = true := by rw [hN]; decide +kernel
  have X := mayE_tx hm.out
  clear hN
  have S := hid hE.out.s5
  clear X
  simp only [enC]
  go_enter Tryd.func30, Tryd.ntmps30
  go_wp2
  go_ret2
  exact ⟨_, _, rfl, S.out.alloc _, bal (Below.refl _ _) _⟩
set_option maxHeartbeats 1000000 in
set_option maxRecDepth 100000 in
theorem rtexts3_c (m : En) (N : ByteArray) (w : World) (_ : Hid (EnOk w m)) (hm : Hid (mayE m = true)) (hN : N = bStr (nameL 3)) : Calls Tryd.prog 30 #[.agg (enC m), .string N] w (RtE w (itoaL m.ix.toNat)) := by
  have e0 : (N.toList == [84, 77, 95, 83, 69, 76, 69, 67, 84, 69, 68, 95, 84, 69, 88, 84]) = false := by rw [hN]; decide +kernel
  have e1 : (N.toList == [84, 77, 95, 67, 85, 82, 82, 69, 78, 84, 95, 76, 73, 78, 69]) = false := by rw [hN]; decide +kernel
  have e2 : (N.toList == [84, 77, 95, 67, 85, 82, 82, 69, 78, 84, 95, 87, 79, 82, 68]) = false := by rw [hN]; decide +kernel
  have e3 : (N.toList == [84, 77, 95, 76, 73, 78, 69, 95, 73, 78, 68, 69, 88]) = true := by rw [hN]; decide +kernel
  have X := mayE_tx hm.out
  clear hN
  obtain ⟨x, hx⟩ : ∃ x : Nat, m.ix = (x : Int) := ⟨m.ix.toNat, by have := X.ix; omega⟩
  have hX := X.ix
  simp only [enC]
  rw [hx] at hX ⊢
  rw [Int.toNat_natCast]
  clear hx X
  go_enter Tryd.func30, Tryd.ntmps30
  go_wp2_with fail
  generalize hW : World.alloc w _ = W
  have hb : Hid (Below w.heap.size w W) := hid (by rw [← hW]; exact bal (Below.refl _ _) _)
  clear hW
  refine (rdigits_c x 1 W (by omega) (by omega)).mono ?_
  rintro e w2 ⟨L, hL, a, c, rfl, ho, hb2⟩
  have hL2 : Hid (L = itoaL x) := hid hL.one
  have Ho := hid ho
  have Hb2 := hid hb2
  clear ho hb2 hL
  go_wp2
  go_ret2
  rw [← hL2.out]
  exact ⟨_, _, rfl, Ho.out.sl, bthen hb.out Hb2.out⟩
set_option maxHeartbeats 1000000 in
set_option maxRecDepth 100000 in
theorem rtexts4_c (m : En) (N : ByteArray) (w : World) (_ : Hid (EnOk w m)) (hm : Hid (mayE m = true)) (hN : N = bStr (nameL 4)) : Calls Tryd.prog 30 #[.agg (enC m), .string N] w (RtE w (itoaL (m.ix.toNat + 1))) := by
  have e0 : (N.toList == [84, 77, 95, 83, 69, 76, 69, 67, 84, 69, 68, 95, 84, 69, 88, 84]) = false := by rw [hN]; decide +kernel
  have e1 : (N.toList == [84, 77, 95, 67, 85, 82, 82, 69, 78, 84, 95, 76, 73, 78, 69]) = false := by rw [hN]; decide +kernel
  have e2 : (N.toList == [84, 77, 95, 67, 85, 82, 82, 69, 78, 84, 95, 87, 79, 82, 68]) = false := by rw [hN]; decide +kernel
  have e3 : (N.toList == [84, 77, 95, 76, 73, 78, 69, 95, 73, 78, 68, 69, 88]) = false := by rw [hN]; decide +kernel
  have e4 : (N.toList == [84, 77, 95, 76, 73, 78, 69, 95, 78, 85, 77, 66, 69, 82]) = true := by rw [hN]; decide +kernel
  have X := mayE_tx hm.out
  clear hN
  obtain ⟨x, hx⟩ : ∃ x : Nat, m.ix = (x : Int) := ⟨m.ix.toNat, by have := X.ix; omega⟩
  have hX := X.ix
  simp only [enC]
  rw [hx] at hX ⊢
  rw [Int.toNat_natCast]
  clear hx X
  go_enter Tryd.func30, Tryd.ntmps30
  go_wp2_with fail
  generalize hW : World.alloc w _ = W
  have hb : Hid (Below w.heap.size w W) := hid (by rw [← hW]; exact bal (Below.refl _ _) _)
  clear hW
  rw [show (x : Int) + 1 = ((x + 1 : Nat) : Int) from by omega]
  refine (rdigits_c (x + 1) 1 W (by omega) (by omega)).mono ?_
  rintro e w2 ⟨L, hL, a, c, rfl, ho, hb2⟩
  have hL2 : Hid (L = itoaL (x + 1)) := hid hL.one
  have Ho := hid ho
  have Hb2 := hid hb2
  clear ho hb2 hL
  go_wp2
  go_ret2
  rw [← hL2.out]
  exact ⟨_, _, rfl, Ho.out.sl, bthen hb.out Hb2.out⟩
set_option maxHeartbeats 1000000 in
set_option maxRecDepth 100000 in
theorem rtexts6_c (m : En) (N : ByteArray) (w : World) (hE : Hid (EnOk w m)) (hm : Hid (mayE m = true)) (hN : N = bStr (nameL 6)) : Calls Tryd.prog 30 #[.agg (enC m), .string N] w (RtE w (baseL m.t3)) := by
  have e0 : (N.toList == [84, 77, 95, 83, 69, 76, 69, 67, 84, 69, 68, 95, 84, 69, 88, 84]) = false := by rw [hN]; decide +kernel
  have e1 : (N.toList == [84, 77, 95, 67, 85, 82, 82, 69, 78, 84, 95, 76, 73, 78, 69]) = false := by rw [hN]; decide +kernel
  have e2 : (N.toList == [84, 77, 95, 67, 85, 82, 82, 69, 78, 84, 95, 87, 79, 82, 68]) = false := by rw [hN]; decide +kernel
  have e3 : (N.toList == [84, 77, 95, 76, 73, 78, 69, 95, 73, 78, 68, 69, 88]) = false := by rw [hN]; decide +kernel
  have e4 : (N.toList == [84, 77, 95, 76, 73, 78, 69, 95, 78, 85, 77, 66, 69, 82]) = false := by rw [hN]; decide +kernel
  have e5 : (N.toList == [84, 77, 95, 70, 73, 76, 69, 78, 65, 77, 69]) = false := by rw [hN]; decide +kernel
  have e6 : (N.toList == [84, 77, 95, 70, 73, 76, 69, 78, 65, 77, 69, 95, 66, 65, 83, 69]) = true := by rw [hN]; decide +kernel
  have X := mayE_tx hm.out
  clear hN
  have S := hid hE.out.s3
  have hl := hE.out.l3
  clear X
  simp only [enC]
  go_enter Tryd.func30, Tryd.ntmps30
  go_wp2_with fail
  generalize hW : World.alloc w _ = W
  have hb : Hid (Below w.heap.size w W) := hid (by rw [← hW]; exact bal (Below.refl _ _) _)
  clear hW
  refine (rbase_c m.a3 m.c3 m.t3 W (S.out.bel hb.out) hl).mono ?_
  rintro e w2 ⟨a', c', rfl, s2, _, rfl⟩
  have S2 := hid s2
  clear s2
  generalize hB : baseL m.t3 = B at S2
  have HB := hid hB
  clear hB
  go_wp2
  go_ret2
  rw [HB.out]
  exact ⟨_, _, rfl, S2.out, hb.out⟩
set_option maxHeartbeats 1000000 in
set_option maxRecDepth 100000 in
theorem rtexts8_c (m : En) (N : ByteArray) (w : World) (hE : Hid (EnOk w m)) (hm : Hid (mayE m = true)) (hN : N = bStr (nameL 8)) : Calls Tryd.prog 30 #[.agg (enC m), .string N] w (RtE w (m.t4 ++ [47] ++ m.t3)) := by
  have e0 : (N.toList == [84, 77, 95, 83, 69, 76, 69, 67, 84, 69, 68, 95, 84, 69, 88, 84]) = false := by rw [hN]; decide +kernel
  have e1 : (N.toList == [84, 77, 95, 67, 85, 82, 82, 69, 78, 84, 95, 76, 73, 78, 69]) = false := by rw [hN]; decide +kernel
  have e2 : (N.toList == [84, 77, 95, 67, 85, 82, 82, 69, 78, 84, 95, 87, 79, 82, 68]) = false := by rw [hN]; decide +kernel
  have e3 : (N.toList == [84, 77, 95, 76, 73, 78, 69, 95, 73, 78, 68, 69, 88]) = false := by rw [hN]; decide +kernel
  have e4 : (N.toList == [84, 77, 95, 76, 73, 78, 69, 95, 78, 85, 77, 66, 69, 82]) = false := by rw [hN]; decide +kernel
  have e5 : (N.toList == [84, 77, 95, 70, 73, 76, 69, 78, 65, 77, 69]) = false := by rw [hN]; decide +kernel
  have e6 : (N.toList == [84, 77, 95, 70, 73, 76, 69, 78, 65, 77, 69, 95, 66, 65, 83, 69]) = false := by rw [hN]; decide +kernel
  have e7 : (N.toList == [84, 77, 95, 68, 73, 82, 69, 67, 84, 79, 82, 89]) = false := by rw [hN]; decide +kernel
  have e8 : (N.toList == [84, 77, 95, 70, 73, 76, 69, 80, 65, 84, 72]) = true := by rw [hN]; decide +kernel
  have X := mayE_tx hm.out
  clear hN
  have S3 : Hid (∀ w', Below w.heap.size w w' → Sl w' m.a3 m.t3) := hid fun w' hb => hE.out.s3.bel hb
  have S4 : Hid (∀ w', Below w.heap.size w w' → Sl w' m.a4 m.t4) := hid fun w' hb => hE.out.s4.bel hb
  have hl3 := X.l3
  have hl4 := X.l4
  clear X
  simp only [enC]
  go_enter Tryd.func30, Tryd.ntmps30
  go_wp2
  generalize hW : World.alloc w _ = W
  have hb : Below w.heap.size w W := by rw [← hW]; exact bal (Below.refl _ _) _
  have hz : w.heap.size < W.heap.size := by rw [← hW]; simp
  have g3 : W.cell? ⟨w.heap.size, 3, none⟩ = some (.slice m.a3 m.t3.length m.c3) := by rw [← hW, cell_alloc_new]; rfl
  have g4 : W.cell? ⟨w.heap.size, 4, none⟩ = some (.slice m.a4 m.t4.length m.c4) := by rw [← hW, cell_alloc_new]; rfl
  clear hW
  have hzw := hb.size
  go_region_law
    (first
      | (((refine step_appn rfl ((.const (.slice none 0 0))) (.tmp 46) rfl W.heap.size none m.a4 0 m.t4.length 0 m.c4 [] m.t4 rfl (by first | rfl | simp | omega) (Own.nil _ _) rfl (by first | rfl | simp | omega) (S4.out _ (by (repeat' (first | exact Below.refl _ _ | assumption | refine bdrewN ?_ _ | refine Below.drew ?_ | refine bal ?_ _ | refine bthen ?_ (by assumption))))) (by first | omega | (simp; omega)) (by simp) ?_); intro a5 c5 w5 L5 Hl5 ho5 hb5 hk5 hA5; have HA5 := hid hA5; clear hA5; have Ho5 := hid ho5; clear ho5; have Hk5 := hid hk5; clear hk5; have hz5 := hb5.size); have X5 : Below W.heap.size W w5 := (Below.trans (by (repeat' (first | exact Below.refl _ _ | assumption | refine bdrewN ?_ _ | refine Below.drew ?_ | refine bal ?_ _ | refine bthen ?_ (by assumption)))) hb5); have X5z := X5.size; have q5 : w.heap.size < w5.heap.size := (by omega); have l5 : L5.length ≤ 100 := (by rw [Hl5.out]; simpa using hl4); have Y5 : Below w.heap.size w w5 := hb.trans (X5.mono hzw); have g35 := (X5.cell (p := ⟨w.heap.size, 3, none⟩) (by show w.heap.size < _; omega)).trans g3)
      | (((refine step_appn rfl (.tmp 47) (.tmp 48) rfl W.heap.size a5 (some ⟨w5.heap.size, 0, none⟩) _ 1 c5 1 L5 [47] rfl (by first | rfl | simp | omega) (by first | exact Ho5.out | exact Ho5.out.grow (by (repeat' (first | exact Below.refl _ _ | assumption | refine bdrewN ?_ _ | refine Below.drew ?_ | refine bal ?_ _ | refine bthen ?_ (by assumption))))) rfl (by first | rfl | simp | omega) (Sl.lit' _ [47] _ _ (by simp) (by simp) (by simp [rng]) _ rfl) (by first | omega | (simp; omega)) (by first | omega | (simp; omega)) ?_); intro a6 c6 w6 L6 Hl6 ho6 hb6 hk6 hA6; have HA6 := hid hA6; clear hA6; have Ho6 := hid ho6; clear ho6; have Hk6 := hid hk6; clear hk6; have hz6 := hb6.size); have X6 : Below W.heap.size W w6 := (X5.trans (Below.trans (by first | exact Below.refl _ _ | exact (Below.refl _ _).drew | exact (Below.refl _ _).alloc (by omega) _ | exact ((Below.refl _ _).alloc (by omega) _).drew) hb6)); have X6z := X6.size; have q6 : w.heap.size < w6.heap.size := (by omega); have l6 : L6.length ≤ 101 := (by rw [Hl6.out]; simpa using l5); have Y6 : Below w.heap.size w w6 := hb.trans (X6.mono hzw); have g36 := (X6.cell (p := ⟨w.heap.size, 3, none⟩) (by show w.heap.size < _; omega)).trans g3)
      | (((refine step_appn rfl (.tmp 47) (.tmp 48) rfl W.heap.size a5 (some ⟨W.heap.size, 0, none⟩) _ 1 c5 1 L5 [47] rfl (by first | rfl | simp | omega) Ho5.out rfl (by first | rfl | simp | omega) (by first | exact Sl.kpt (Sl.lit' _ [47] _ _ (by simp) (by simp) (by simp [rng]) _ rfl) (fun _ _ ⟨_, h, _⟩ => by cases h) Hk5.out | exact Sl.kpt (Sl.drew (Sl.lit' _ [47] _ _ (by simp) (by simp) (by simp [rng]) _ rfl)) (fun _ _ ⟨_, h, _⟩ => by cases h) Hk5.out | exact (Sl.kpt (Sl.lit' _ [47] _ _ (by simp) (by simp) (by simp [rng]) _ rfl) (fun _ _ ⟨_, h, _⟩ => by cases h) Hk5.out).drew | exact (Sl.kpt (Sl.drew (Sl.lit' _ [47] _ _ (by simp) (by simp) (by simp [rng]) _ rfl)) (fun _ _ ⟨_, h, _⟩ => by cases h) Hk5.out).drew) (by first | omega | (simp; omega)) (by first | omega | (simp; omega)) ?_); intro a6 c6 w6 L6 Hl6 ho6 hb6 hk6 hA6; have HA6 := hid hA6; clear hA6; have Ho6 := hid ho6; clear ho6; have Hk6 := hid hk6; clear hk6; have hz6 := hb6.size); have X6 : Below W.heap.size W w6 := (X5.trans (Below.trans (by first | exact Below.refl _ _ | exact (Below.refl _ _).drew) hb6)); have X6z := X6.size; have q6 : w.heap.size < w6.heap.size := (by omega); have l6 : L6.length ≤ 101 := (by rw [Hl6.out]; simpa using l5); have Y6 : Below w.heap.size w w6 := hb.trans (X6.mono hzw); have g36 := (X6.cell (p := ⟨w.heap.size, 3, none⟩) (by show w.heap.size < _; omega)).trans g3)
      | (((refine step_appn rfl (.tmp 49) (.tmp 51) rfl W.heap.size a6 m.a3 _ m.t3.length c6 m.c3 L6 m.t3 rfl (by first | rfl | simp | omega) (by first | exact Ho6.out | exact Ho6.out.grow (by (repeat' (first | exact Below.refl _ _ | assumption | refine bdrewN ?_ _ | refine Below.drew ?_ | refine bal ?_ _ | refine bthen ?_ (by assumption))))) rfl (by first | rfl | simp | omega) (S3.out _ (by (repeat' (first | exact Below.refl _ _ | assumption | refine bdrewN ?_ _ | refine Below.drew ?_ | refine bal ?_ _ | refine bthen ?_ (by assumption))))) (by omega) (by first | omega | (simp; omega)) ?_); intro a7 c7 w7 L7 Hl7 ho7 hb7 hk7 hA7; have HA7 := hid hA7; clear hA7; have Ho7 := hid ho7; clear ho7; have Hk7 := hid hk7; clear hk7; have hz7 := hb7.size); have X7 : Below W.heap.size W w7 := X6.trans hb7))
  all_goals go_wp2
  all_goals go_ret2
  all_goals
    have hL : Hid (L7 = m.t4 ++ [47] ++ m.t3) := hid (by rw [Hl7.out, Hl6.out, Hl5.out, List.nil_append])
    rw [← hL.out]
    first
      | exact ⟨_, _, rfl, Ho7.out.sl, hb.trans (X7.mono hzw)⟩
      | exact ⟨_, _, rfl, Ho7.out.sl.drew, (hb.trans (X7.mono hzw)).drew⟩
end Go.Proofs.YtijhkpbnalnpbaaDoor
