/- The document's own answer for a variable: what a name of the clock tells. -/
import Derived.Test.YtijhkpbnalnpbaaDoorRx
namespace Go.Proofs.YtijhkpbnalnpbaaDoor
open Go.RowKit

/-- two results: a text that the call made, and whether it is one -/
def RcE (w : World) (L : List Int) (e : Ending) (w' : World) : Prop := ∃ a c, e = .returned (.tuple #[.slice a L.length c, .bool true]) ∧ Own w' w.heap.size a c L ∧ Below w.heap.size w w'
theorem Makes.rc {w w1 w' : World} {L : List Int} {a : Option Addr} {c : Nat} (hb : Below w.heap.size w w1) (ho : Own w' w1.heap.size a c L) (hb2 : Below w1.heap.size w1 w') : RcE w L (.returned (.tuple #[.slice a L.length c, .bool true])) w' :=
  ⟨a, c, rfl, ho.base_le hb.size, hb.trans (hb2.mono hb.size)⟩
set_option maxHeartbeats 1000000 in
set_option maxRecDepth 100000 in
theorem rclock10_c (m : En) (N : ByteArray) (w : World) (hm : Hid (mayE m = true)) (hN : N = bStr (nameL 10)) : Calls Tryd.prog 45 #[.agg (enC m), .string N] w (RcE w (digs 10 4 m.k0.toNat)) := by
  have X := mayE_tx hm.out
  have e10 : (N.toList == [67, 85, 82, 82, 69, 78, 84, 95, 89, 69, 65, 82]) = true := by rw [hN]; decide +kernel
  clear hN
  obtain ⟨x, hx⟩ : ∃ x : Nat, m.k0 = (x : Int) := ⟨m.k0.toNat, by have := X.k0; omega⟩
  have hX := X.k0
  simp only [enC]
  rw [hx] at hX ⊢
  rw [Int.toNat_natCast]
  clear hx X
  go_enter Tryd.func45, Tryd.ntmps45
  go_wp2_with fail
  generalize hW : World.alloc (World.alloc w _) _ = W
  have hb : Hid (Below w.heap.size w W) := hid (by rw [← hW]; exact bal (bal (Below.refl _ _) _) _)
  clear hW
  refine (rdigits_c x 4 W (by omega) (by omega)).mono ?_
  rintro e w2 ⟨L, hL, a, c, rfl, ho, hb2⟩
  have hL2 : Hid (L = digs 10 4 x) := hid (hL.fix (by omega))
  have Ho := hid ho
  have Hb2 := hid hb2
  clear ho hb2 hL
  go_wp2
  go_ret2
  rw [← hL2.out]
  exact Makes.rc hb.out Ho.out Hb2.out
set_option maxHeartbeats 1000000 in
set_option maxRecDepth 100000 in
theorem rclock11_c (m : En) (N : ByteArray) (w : World) (hm : Hid (mayE m = true)) (hN : N = bStr (nameL 11)) : Calls Tryd.prog 45 #[.agg (enC m), .string N] w (RcE w (digs 10 2 (m.k0.toNat % 100))) := by
  have X := mayE_tx hm.out
  have e10 : (N.toList == [67, 85, 82, 82, 69, 78, 84, 95, 89, 69, 65, 82]) = false := by rw [hN]; decide +kernel
  have e11 : (N.toList == [67, 85, 82, 82, 69, 78, 84, 95, 89, 69, 65, 82, 95, 83, 72, 79, 82, 84]) = true := by rw [hN]; decide +kernel
  clear hN
  obtain ⟨x, hx⟩ : ∃ x : Nat, m.k0 = (x : Int) := ⟨m.k0.toNat, by have := X.k0; omega⟩
  have hX := X.k0
  simp only [enC]
  rw [hx] at hX ⊢
  rw [Int.toNat_natCast]
  clear hx X
  have e1 : ((x : Int)).tmod 100 = ((x % 100 : Nat) : Int) := rfl
  go_enter Tryd.func45, Tryd.ntmps45
  go_wp2_with fail
  generalize hW : World.alloc (World.alloc w _) _ = W
  have hb : Hid (Below w.heap.size w W) := hid (by rw [← hW]; exact bal (bal (Below.refl _ _) _) _)
  clear hW
  refine (rdigits_c (x % 100) 2 W (by omega) (by omega)).mono ?_
  rintro e w2 ⟨L, hL, a, c, rfl, ho, hb2⟩
  have hL2 : Hid (L = digs 10 2 (x % 100)) := hid (hL.fix (by have := Nat.mod_lt x (show 0 < 100 by decide); omega))
  have Ho := hid ho
  have Hb2 := hid hb2
  clear ho hb2 hL
  go_wp2
  go_ret2
  rw [← hL2.out]
  exact Makes.rc hb.out Ho.out Hb2.out
set_option maxHeartbeats 1000000 in
set_option maxRecDepth 100000 in
theorem rclock12_c (m : En) (N : ByteArray) (w : World) (hm : Hid (mayE m = true)) (hN : N = bStr (nameL 12)) : Calls Tryd.prog 45 #[.agg (enC m), .string N] w (RcE w (digs 10 2 m.k1.toNat)) := by
  have X := mayE_tx hm.out
  have e10 : (N.toList == [67, 85, 82, 82, 69, 78, 84, 95, 89, 69, 65, 82]) = false := by rw [hN]; decide +kernel
  have e11 : (N.toList == [67, 85, 82, 82, 69, 78, 84, 95, 89, 69, 65, 82, 95, 83, 72, 79, 82, 84]) = false := by rw [hN]; decide +kernel
  have e12 : (N.toList == [67, 85, 82, 82, 69, 78, 84, 95, 77, 79, 78, 84, 72]) = true := by rw [hN]; decide +kernel
  clear hN
  obtain ⟨x, hx⟩ : ∃ x : Nat, m.k1 = (x : Int) := ⟨m.k1.toNat, by have := X.k1; omega⟩
  have hX := X.k1
  simp only [enC]
  rw [hx] at hX ⊢
  rw [Int.toNat_natCast]
  clear hx X
  go_enter Tryd.func45, Tryd.ntmps45
  go_wp2_with fail
  generalize hW : World.alloc (World.alloc w _) _ = W
  have hb : Hid (Below w.heap.size w W) := hid (by rw [← hW]; exact bal (bal (Below.refl _ _) _) _)
  clear hW
  refine (rdigits_c x 2 W (by omega) (by omega)).mono ?_
  rintro e w2 ⟨L, hL, a, c, rfl, ho, hb2⟩
  have hL2 : Hid (L = digs 10 2 x) := hid (hL.fix (by omega))
  have Ho := hid ho
  have Hb2 := hid hb2
  clear ho hb2 hL
  go_wp2
  go_ret2
  rw [← hL2.out]
  exact Makes.rc hb.out Ho.out Hb2.out
set_option maxHeartbeats 1000000 in
set_option maxRecDepth 100000 in
theorem rclock13_c (m : En) (N : ByteArray) (w : World) (hm : Hid (mayE m = true)) (hN : N = bStr (nameL 13)) : Calls Tryd.prog 45 #[.agg (enC m), .string N] w (RcE w (digs 10 2 m.k2.toNat)) := by
  have X := mayE_tx hm.out
  have e10 : (N.toList == [67, 85, 82, 82, 69, 78, 84, 95, 89, 69, 65, 82]) = false := by rw [hN]; decide +kernel
  have e11 : (N.toList == [67, 85, 82, 82, 69, 78, 84, 95, 89, 69, 65, 82, 95, 83, 72, 79, 82, 84]) = false := by rw [hN]; decide +kernel
  have e12 : (N.toList == [67, 85, 82, 82, 69, 78, 84, 95, 77, 79, 78, 84, 72]) = false := by rw [hN]; decide +kernel
  have e13 : (N.toList == [67, 85, 82, 82, 69, 78, 84, 95, 68, 65, 84, 69]) = true := by rw [hN]; decide +kernel
  clear hN
  obtain ⟨x, hx⟩ : ∃ x : Nat, m.k2 = (x : Int) := ⟨m.k2.toNat, by have := X.k2; omega⟩
  have hX := X.k2
  simp only [enC]
  rw [hx] at hX ⊢
  rw [Int.toNat_natCast]
  clear hx X
  go_enter Tryd.func45, Tryd.ntmps45
  go_wp2_with fail
  generalize hW : World.alloc (World.alloc w _) _ = W
  have hb : Hid (Below w.heap.size w W) := hid (by rw [← hW]; exact bal (bal (Below.refl _ _) _) _)
  clear hW
  refine (rdigits_c x 2 W (by omega) (by omega)).mono ?_
  rintro e w2 ⟨L, hL, a, c, rfl, ho, hb2⟩
  have hL2 : Hid (L = digs 10 2 x) := hid (hL.fix (by omega))
  have Ho := hid ho
  have Hb2 := hid hb2
  clear ho hb2 hL
  go_wp2
  go_ret2
  rw [← hL2.out]
  exact Makes.rc hb.out Ho.out Hb2.out
set_option maxHeartbeats 1000000 in
set_option maxRecDepth 100000 in
theorem rclock14_c (m : En) (N : ByteArray) (w : World) (hm : Hid (mayE m = true)) (hN : N = bStr (nameL 14)) : Calls Tryd.prog 45 #[.agg (enC m), .string N] w (RcE w (digs 10 2 m.k3.toNat)) := by
  have X := mayE_tx hm.out
  have e10 : (N.toList == [67, 85, 82, 82, 69, 78, 84, 95, 89, 69, 65, 82]) = false := by rw [hN]; decide +kernel
  have e11 : (N.toList == [67, 85, 82, 82, 69, 78, 84, 95, 89, 69, 65, 82, 95, 83, 72, 79, 82, 84]) = false := by rw [hN]; decide +kernel
  have e12 : (N.toList == [67, 85, 82, 82, 69, 78, 84, 95, 77, 79, 78, 84, 72]) = false := by rw [hN]; decide +kernel
  have e13 : (N.toList == [67, 85, 82, 82, 69, 78, 84, 95, 68, 65, 84, 69]) = false := by rw [hN]; decide +kernel
  have e14 : (N.toList == [67, 85, 82, 82, 69, 78, 84, 95, 72, 79, 85, 82]) = true := by rw [hN]; decide +kernel
  clear hN
  obtain ⟨x, hx⟩ : ∃ x : Nat, m.k3 = (x : Int) := ⟨m.k3.toNat, by have := X.k3; omega⟩
  have hX := X.k3
  simp only [enC]
  rw [hx] at hX ⊢
  rw [Int.toNat_natCast]
  clear hx X
  go_enter Tryd.func45, Tryd.ntmps45
  go_wp2_with fail
  generalize hW : World.alloc (World.alloc w _) _ = W
  have hb : Hid (Below w.heap.size w W) := hid (by rw [← hW]; exact bal (bal (Below.refl _ _) _) _)
  clear hW
  refine (rdigits_c x 2 W (by omega) (by omega)).mono ?_
  rintro e w2 ⟨L, hL, a, c, rfl, ho, hb2⟩
  have hL2 : Hid (L = digs 10 2 x) := hid (hL.fix (by omega))
  have Ho := hid ho
  have Hb2 := hid hb2
  clear ho hb2 hL
  go_wp2
  go_ret2
  rw [← hL2.out]
  exact Makes.rc hb.out Ho.out Hb2.out
set_option maxHeartbeats 1000000 in
set_option maxRecDepth 100000 in
theorem rclock15_c (m : En) (N : ByteArray) (w : World) (hm : Hid (mayE m = true)) (hN : N = bStr (nameL 15)) : Calls Tryd.prog 45 #[.agg (enC m), .string N] w (RcE w (digs 10 2 m.k4.toNat)) := by
  have X := mayE_tx hm.out
  have e10 : (N.toList == [67, 85, 82, 82, 69, 78, 84, 95, 89, 69, 65, 82]) = false := by rw [hN]; decide +kernel
  have e11 : (N.toList == [67, 85, 82, 82, 69, 78, 84, 95, 89, 69, 65, 82, 95, 83, 72, 79, 82, 84]) = false := by rw [hN]; decide +kernel
  have e12 : (N.toList == [67, 85, 82, 82, 69, 78, 84, 95, 77, 79, 78, 84, 72]) = false := by rw [hN]; decide +kernel
  have e13 : (N.toList == [67, 85, 82, 82, 69, 78, 84, 95, 68, 65, 84, 69]) = false := by rw [hN]; decide +kernel
  have e14 : (N.toList == [67, 85, 82, 82, 69, 78, 84, 95, 72, 79, 85, 82]) = false := by rw [hN]; decide +kernel
  have e15 : (N.toList == [67, 85, 82, 82, 69, 78, 84, 95, 77, 73, 78, 85, 84, 69]) = true := by rw [hN]; decide +kernel
  clear hN
  obtain ⟨x, hx⟩ : ∃ x : Nat, m.k4 = (x : Int) := ⟨m.k4.toNat, by have := X.k4; omega⟩
  have hX := X.k4
  simp only [enC]
  rw [hx] at hX ⊢
  rw [Int.toNat_natCast]
  clear hx X
  go_enter Tryd.func45, Tryd.ntmps45
  go_wp2_with fail
  generalize hW : World.alloc (World.alloc w _) _ = W
  have hb : Hid (Below w.heap.size w W) := hid (by rw [← hW]; exact bal (bal (Below.refl _ _) _) _)
  clear hW
  refine (rdigits_c x 2 W (by omega) (by omega)).mono ?_
  rintro e w2 ⟨L, hL, a, c, rfl, ho, hb2⟩
  have hL2 : Hid (L = digs 10 2 x) := hid (hL.fix (by omega))
  have Ho := hid ho
  have Hb2 := hid hb2
  clear ho hb2 hL
  go_wp2
  go_ret2
  rw [← hL2.out]
  exact Makes.rc hb.out Ho.out Hb2.out
set_option maxHeartbeats 1000000 in
set_option maxRecDepth 100000 in
theorem rclock16_c (m : En) (N : ByteArray) (w : World) (hm : Hid (mayE m = true)) (hN : N = bStr (nameL 16)) : Calls Tryd.prog 45 #[.agg (enC m), .string N] w (RcE w (digs 10 2 m.k5.toNat)) := by
  have X := mayE_tx hm.out
  have e10 : (N.toList == [67, 85, 82, 82, 69, 78, 84, 95, 89, 69, 65, 82]) = false := by rw [hN]; decide +kernel
  have e11 : (N.toList == [67, 85, 82, 82, 69, 78, 84, 95, 89, 69, 65, 82, 95, 83, 72, 79, 82, 84]) = false := by rw [hN]; decide +kernel
  have e12 : (N.toList == [67, 85, 82, 82, 69, 78, 84, 95, 77, 79, 78, 84, 72]) = false := by rw [hN]; decide +kernel
  have e13 : (N.toList == [67, 85, 82, 82, 69, 78, 84, 95, 68, 65, 84, 69]) = false := by rw [hN]; decide +kernel
  have e14 : (N.toList == [67, 85, 82, 82, 69, 78, 84, 95, 72, 79, 85, 82]) = false := by rw [hN]; decide +kernel
  have e15 : (N.toList == [67, 85, 82, 82, 69, 78, 84, 95, 77, 73, 78, 85, 84, 69]) = false := by rw [hN]; decide +kernel
  have e16 : (N.toList == [67, 85, 82, 82, 69, 78, 84, 95, 83, 69, 67, 79, 78, 68]) = true := by rw [hN]; decide +kernel
  clear hN
  obtain ⟨x, hx⟩ : ∃ x : Nat, m.k5 = (x : Int) := ⟨m.k5.toNat, by have := X.k5; omega⟩
  have hX := X.k5
  simp only [enC]
  rw [hx] at hX ⊢
  rw [Int.toNat_natCast]
  clear hx X
  go_enter Tryd.func45, Tryd.ntmps45
  go_wp2_with fail
  generalize hW : World.alloc (World.alloc w _) _ = W
  have hb : Hid (Below w.heap.size w W) := hid (by rw [← hW]; exact bal (bal (Below.refl _ _) _) _)
  clear hW
  refine (rdigits_c x 2 W (by omega) (by omega)).mono ?_
  rintro e w2 ⟨L, hL, a, c, rfl, ho, hb2⟩
  have hL2 : Hid (L = digs 10 2 x) := hid (hL.fix (by omega))
  have Ho := hid ho
  have Hb2 := hid hb2
  clear ho hb2 hL
  go_wp2
  go_ret2
  rw [← hL2.out]
  exact Makes.rc hb.out Ho.out Hb2.out
set_option maxHeartbeats 1000000 in
set_option maxRecDepth 100000 in
theorem rclock17_c (m : En) (N : ByteArray) (w : World) (hm : Hid (mayE m = true)) (hN : N = bStr (nameL 17)) : Calls Tryd.prog 45 #[.agg (enC m), .string N] w (RcE w (moL (m.k1.toNat - 1))) := by
  have X := mayE_tx hm.out
  have e10 : (N.toList == [67, 85, 82, 82, 69, 78, 84, 95, 89, 69, 65, 82]) = false := by rw [hN]; decide +kernel
  have e11 : (N.toList == [67, 85, 82, 82, 69, 78, 84, 95, 89, 69, 65, 82, 95, 83, 72, 79, 82, 84]) = false := by rw [hN]; decide +kernel
  have e12 : (N.toList == [67, 85, 82, 82, 69, 78, 84, 95, 77, 79, 78, 84, 72]) = false := by rw [hN]; decide +kernel
  have e13 : (N.toList == [67, 85, 82, 82, 69, 78, 84, 95, 68, 65, 84, 69]) = false := by rw [hN]; decide +kernel
  have e14 : (N.toList == [67, 85, 82, 82, 69, 78, 84, 95, 72, 79, 85, 82]) = false := by rw [hN]; decide +kernel
  have e15 : (N.toList == [67, 85, 82, 82, 69, 78, 84, 95, 77, 73, 78, 85, 84, 69]) = false := by rw [hN]; decide +kernel
  have e16 : (N.toList == [67, 85, 82, 82, 69, 78, 84, 95, 83, 69, 67, 79, 78, 68]) = false := by rw [hN]; decide +kernel
  have e17 : (N.toList == [67, 85, 82, 82, 69, 78, 84, 95, 77, 79, 78, 84, 72, 95, 78, 65, 77, 69]) = true := by rw [hN]; decide +kernel
  clear hN
  obtain ⟨x, hx⟩ : ∃ x : Nat, m.k1 = (x : Int) := ⟨m.k1.toNat, by have := X.k1; omega⟩
  have hX := X.k1
  simp only [enC]
  rw [hx] at hX ⊢
  rw [Int.toNat_natCast]
  clear hx X
  go_enter Tryd.func45, Tryd.ntmps45
  go_wp2_with fail
  generalize hW : World.alloc (World.alloc w _) _ = W
  have hb : Hid (Below w.heap.size w W) := hid (by rw [← hW]; exact bal (bal (Below.refl _ _) _) _)
  clear hW
  refine (rmonth_c x W (by omega) (by omega)).mono ?_
  rintro e w2 ⟨rfl, rfl⟩
  obtain ⟨q1, q2, q3, q4⟩ := mo_at (i := x - 1) (by omega)
  have hs := bStr_str q2
  have hz : (bStr (moL (x - 1))).size = (moL (x - 1)).length := hs.asc_size q2
  have hL : Hid (strL (bStr (moL (x - 1))) = moL (x - 1)) := hid (strL_bStr q2)
  have he : Hid ((bStr (moL (x - 1))).size ≤ 1000) := hid (by omega)
  clear q1 q2 q3 q4 hs hz
  generalize hLL : moL (x - 1) = LL at hL he ⊢
  have HLL := hid hLL
  clear hLL
  generalize bStr LL = s at hL he ⊢
  go_wp2_with fail
  refine (rplain_c s W he.out).mono ?_
  rintro e w2 ⟨a, c, L, rfl, hL2, ho, hb2⟩
  have hL3 : Hid (L = LL) := hid (hL2.out.trans hL.out)
  have Ho := hid ho
  have Hb2 := hid hb2
  clear ho hb2 hL2
  go_wp2
  go_ret2
  rw [HLL.out, ← hL3.out]
  exact Makes.rc hb.out Ho.out Hb2.out
set_option maxHeartbeats 1000000 in
set_option maxRecDepth 100000 in
theorem rclock18_c (m : En) (N : ByteArray) (w : World) (hm : Hid (mayE m = true)) (hN : N = bStr (nameL 18)) : Calls Tryd.prog 45 #[.agg (enC m), .string N] w (RcE w ((moL (m.k1.toNat - 1)).take 3)) := by
  have X := mayE_tx hm.out
  have e10 : (N.toList == [67, 85, 82, 82, 69, 78, 84, 95, 89, 69, 65, 82]) = false := by rw [hN]; decide +kernel
  have e11 : (N.toList == [67, 85, 82, 82, 69, 78, 84, 95, 89, 69, 65, 82, 95, 83, 72, 79, 82, 84]) = false := by rw [hN]; decide +kernel
  have e12 : (N.toList == [67, 85, 82, 82, 69, 78, 84, 95, 77, 79, 78, 84, 72]) = false := by rw [hN]; decide +kernel
  have e13 : (N.toList == [67, 85, 82, 82, 69, 78, 84, 95, 68, 65, 84, 69]) = false := by rw [hN]; decide +kernel
  have e14 : (N.toList == [67, 85, 82, 82, 69, 78, 84, 95, 72, 79, 85, 82]) = false := by rw [hN]; decide +kernel
  have e15 : (N.toList == [67, 85, 82, 82, 69, 78, 84, 95, 77, 73, 78, 85, 84, 69]) = false := by rw [hN]; decide +kernel
  have e16 : (N.toList == [67, 85, 82, 82, 69, 78, 84, 95, 83, 69, 67, 79, 78, 68]) = false := by rw [hN]; decide +kernel
  have e17 : (N.toList == [67, 85, 82, 82, 69, 78, 84, 95, 77, 79, 78, 84, 72, 95, 78, 65, 77, 69]) = false := by rw [hN]; decide +kernel
  have e18 : (N.toList == [67, 85, 82, 82, 69, 78, 84, 95, 77, 79, 78, 84, 72, 95, 78, 65, 77, 69, 95, 83, 72, 79, 82, 84]) = true := by rw [hN]; decide +kernel
  clear hN
  obtain ⟨x, hx⟩ : ∃ x : Nat, m.k1 = (x : Int) := ⟨m.k1.toNat, by have := X.k1; omega⟩
  have hX := X.k1
  simp only [enC]
  rw [hx] at hX ⊢
  rw [Int.toNat_natCast]
  clear hx X
  go_enter Tryd.func45, Tryd.ntmps45
  go_wp2_with fail
  generalize hW : World.alloc (World.alloc w _) _ = W
  have hb : Hid (Below w.heap.size w W) := hid (by rw [← hW]; exact bal (bal (Below.refl _ _) _) _)
  clear hW
  refine (rmonth_c x W (by omega) (by omega)).mono ?_
  rintro e w2 ⟨rfl, rfl⟩
  obtain ⟨q1, q2, q3, q4⟩ := mo_at (i := x - 1) (by omega)
  have hs := bStr_str q2
  have hz : (bStr (moL (x - 1))).size = (moL (x - 1)).length := hs.asc_size q2
  have hs3 := hs.take3 q2
  have hl3 : ((moL (x - 1)).take 3).length = 3 := by rw [List.length_take]; omega
  have hz3 : 3 ≤ (bStr (moL (x - 1))).size := by omega
  have hL : Hid (strL ((bStr (moL (x - 1))).extract 0 3) = (moL (x - 1)).take 3) := hid (by rw [str_bStr hs3 (asc_take q2 3), strL_bStr (asc_take q2 3)])
  have he : Hid (((bStr (moL (x - 1))).extract 0 3).size ≤ 1000) := hid (by rw [hs3.asc_size (asc_take q2 3)]; omega)
  clear q1 q2 q3 q4 hs hz hs3 hl3
  generalize hLL : (moL (x - 1)).take 3 = LL at hL ⊢
  have HLL := hid hLL
  clear hLL
  generalize bStr (moL (x - 1)) = s at hz3 hL he ⊢
  go_wp2_with fail
  refine (rplain_c (s.extract 0 3) W he.out).mono ?_
  rintro e w2 ⟨a, c, L, rfl, hL2, ho, hb2⟩
  have hL3 : Hid (L = LL) := hid (hL2.out.trans hL.out)
  have Ho := hid ho
  have Hb2 := hid hb2
  clear ho hb2 hL2
  go_wp2
  go_ret2
  rw [HLL.out, ← hL3.out]
  exact Makes.rc hb.out Ho.out Hb2.out
set_option maxHeartbeats 1000000 in
set_option maxRecDepth 100000 in
theorem rclock19_c (m : En) (N : ByteArray) (w : World) (hm : Hid (mayE m = true)) (hN : N = bStr (nameL 19)) : Calls Tryd.prog 45 #[.agg (enC m), .string N] w (RcE w (dyL m.k6.toNat)) := by
  have X := mayE_tx hm.out
  have e10 : (N.toList == [67, 85, 82, 82, 69, 78, 84, 95, 89, 69, 65, 82]) = false := by rw [hN]; decide +kernel
  have e11 : (N.toList == [67, 85, 82, 82, 69, 78, 84, 95, 89, 69, 65, 82, 95, 83, 72, 79, 82, 84]) = false := by rw [hN]; decide +kernel
  have e12 : (N.toList == [67, 85, 82, 82, 69, 78, 84, 95, 77, 79, 78, 84, 72]) = false := by rw [hN]; decide +kernel
  have e13 : (N.toList == [67, 85, 82, 82, 69, 78, 84, 95, 68, 65, 84, 69]) = false := by rw [hN]; decide +kernel
  have e14 : (N.toList == [67, 85, 82, 82, 69, 78, 84, 95, 72, 79, 85, 82]) = false := by rw [hN]; decide +kernel
  have e15 : (N.toList == [67, 85, 82, 82, 69, 78, 84, 95, 77, 73, 78, 85, 84, 69]) = false := by rw [hN]; decide +kernel
  have e16 : (N.toList == [67, 85, 82, 82, 69, 78, 84, 95, 83, 69, 67, 79, 78, 68]) = false := by rw [hN]; decide +kernel
  have e17 : (N.toList == [67, 85, 82, 82, 69, 78, 84, 95, 77, 79, 78, 84, 72, 95, 78, 65, 77, 69]) = false := by rw [hN]; decide +kernel
  have e18 : (N.toList == [67, 85, 82, 82, 69, 78, 84, 95, 77, 79, 78, 84, 72, 95, 78, 65, 77, 69, 95, 83, 72, 79, 82, 84]) = false := by rw [hN]; decide +kernel
  have e19 : (N.toList == [67, 85, 82, 82, 69, 78, 84, 95, 68, 65, 89, 95, 78, 65, 77, 69]) = true := by rw [hN]; decide +kernel
  clear hN
  obtain ⟨x, hx⟩ : ∃ x : Nat, m.k6 = (x : Int) := ⟨m.k6.toNat, by have := X.k6; omega⟩
  have hX := X.k6
  simp only [enC]
  rw [hx] at hX ⊢
  rw [Int.toNat_natCast]
  clear hx X
  go_enter Tryd.func45, Tryd.ntmps45
  go_wp2_with fail
  generalize hW : World.alloc (World.alloc w _) _ = W
  have hb : Hid (Below w.heap.size w W) := hid (by rw [← hW]; exact bal (bal (Below.refl _ _) _) _)
  clear hW
  refine (rday_c x W (by omega)).mono ?_
  rintro e w2 ⟨rfl, rfl⟩
  obtain ⟨q1, q2, q3, q4⟩ := dy_at (i := x) (by omega)
  have hs := bStr_str q2
  have hz : (bStr (dyL x)).size = (dyL x).length := hs.asc_size q2
  have hL : Hid (strL (bStr (dyL x)) = dyL x) := hid (strL_bStr q2)
  have he : Hid ((bStr (dyL x)).size ≤ 1000) := hid (by omega)
  clear q1 q2 q3 q4 hs hz
  generalize hLL : dyL x = LL at hL he ⊢
  have HLL := hid hLL
  clear hLL
  generalize bStr LL = s at hL he ⊢
  go_wp2_with fail
  refine (rplain_c s W he.out).mono ?_
  rintro e w2 ⟨a, c, L, rfl, hL2, ho, hb2⟩
  have hL3 : Hid (L = LL) := hid (hL2.out.trans hL.out)
  have Ho := hid ho
  have Hb2 := hid hb2
  clear ho hb2 hL2
  go_wp2
  go_ret2
  rw [HLL.out, ← hL3.out]
  exact Makes.rc hb.out Ho.out Hb2.out
set_option maxHeartbeats 1000000 in
set_option maxRecDepth 100000 in
theorem rclock20_c (m : En) (N : ByteArray) (w : World) (hm : Hid (mayE m = true)) (hN : N = bStr (nameL 20)) : Calls Tryd.prog 45 #[.agg (enC m), .string N] w (RcE w ((dyL m.k6.toNat).take 3)) := by
  have X := mayE_tx hm.out
  have e10 : (N.toList == [67, 85, 82, 82, 69, 78, 84, 95, 89, 69, 65, 82]) = false := by rw [hN]; decide +kernel
  have e11 : (N.toList == [67, 85, 82, 82, 69, 78, 84, 95, 89, 69, 65, 82, 95, 83, 72, 79, 82, 84]) = false := by rw [hN]; decide +kernel
  have e12 : (N.toList == [67, 85, 82, 82, 69, 78, 84, 95, 77, 79, 78, 84, 72]) = false := by rw [hN]; decide +kernel
  have e13 : (N.toList == [67, 85, 82, 82, 69, 78, 84, 95, 68, 65, 84, 69]) = false := by rw [hN]; decide +kernel
  have e14 : (N.toList == [67, 85, 82, 82, 69, 78, 84, 95, 72, 79, 85, 82]) = false := by rw [hN]; decide +kernel
  have e15 : (N.toList == [67, 85, 82, 82, 69, 78, 84, 95, 77, 73, 78, 85, 84, 69]) = false := by rw [hN]; decide +kernel
  have e16 : (N.toList == [67, 85, 82, 82, 69, 78, 84, 95, 83, 69, 67, 79, 78, 68]) = false := by rw [hN]; decide +kernel
  have e17 : (N.toList == [67, 85, 82, 82, 69, 78, 84, 95, 77, 79, 78, 84, 72, 95, 78, 65, 77, 69]) = false := by rw [hN]; decide +kernel
  have e18 : (N.toList == [67, 85, 82, 82, 69, 78, 84, 95, 77, 79, 78, 84, 72, 95, 78, 65, 77, 69, 95, 83, 72, 79, 82, 84]) = false := by rw [hN]; decide +kernel
  have e19 : (N.toList == [67, 85, 82, 82, 69, 78, 84, 95, 68, 65, 89, 95, 78, 65, 77, 69]) = false := by rw [hN]; decide +kernel
  have e20 : (N.toList == [67, 85, 82, 82, 69, 78, 84, 95, 68, 65, 89, 95, 78, 65, 77, 69, 95, 83, 72, 79, 82, 84]) = true := by rw [hN]; decide +kernel
  clear hN
  obtain ⟨x, hx⟩ : ∃ x : Nat, m.k6 = (x : Int) := ⟨m.k6.toNat, by have := X.k6; omega⟩
  have hX := X.k6
  simp only [enC]
  rw [hx] at hX ⊢
  rw [Int.toNat_natCast]
  clear hx X
  go_enter Tryd.func45, Tryd.ntmps45
  go_wp2_with fail
  generalize hW : World.alloc (World.alloc w _) _ = W
  have hb : Hid (Below w.heap.size w W) := hid (by rw [← hW]; exact bal (bal (Below.refl _ _) _) _)
  clear hW
  refine (rday_c x W (by omega)).mono ?_
  rintro e w2 ⟨rfl, rfl⟩
  obtain ⟨q1, q2, q3, q4⟩ := dy_at (i := x) (by omega)
  have hs := bStr_str q2
  have hz : (bStr (dyL x)).size = (dyL x).length := hs.asc_size q2
  have hs3 := hs.take3 q2
  have hl3 : ((dyL x).take 3).length = 3 := by rw [List.length_take]; omega
  have hz3 : 3 ≤ (bStr (dyL x)).size := by omega
  have hL : Hid (strL ((bStr (dyL x)).extract 0 3) = (dyL x).take 3) := hid (by rw [str_bStr hs3 (asc_take q2 3), strL_bStr (asc_take q2 3)])
  have he : Hid (((bStr (dyL x)).extract 0 3).size ≤ 1000) := hid (by rw [hs3.asc_size (asc_take q2 3)]; omega)
  clear q1 q2 q3 q4 hs hz hs3 hl3
  generalize hLL : (dyL x).take 3 = LL at hL ⊢
  have HLL := hid hLL
  clear hLL
  generalize bStr (dyL x) = s at hz3 hL he ⊢
  go_wp2_with fail
  refine (rplain_c (s.extract 0 3) W he.out).mono ?_
  rintro e w2 ⟨a, c, L, rfl, hL2, ho, hb2⟩
  have hL3 : Hid (L = LL) := hid (hL2.out.trans hL.out)
  have Ho := hid ho
  have Hb2 := hid hb2
  clear ho hb2 hL2
  go_wp2
  go_ret2
  rw [HLL.out, ← hL3.out]
  exact Makes.rc hb.out Ho.out Hb2.out
set_option maxHeartbeats 1000000 in
set_option maxRecDepth 100000 in
theorem rclock_none (m : En) (N : ByteArray) (w : World) (h : ∀ j, 10 ≤ j → j ≤ 20 → (N.toList == (nameL j).map fun r => UInt8.ofNat r.toNat) = false) : Calls Tryd.prog 45 #[.agg (enC m), .string N] w fun e w' => e = .returned (.tuple #[.slice none 0 0, .bool false]) ∧ Below w.heap.size w w' := by
  have e10 : (N.toList == [67, 85, 82, 82, 69, 78, 84, 95, 89, 69, 65, 82]) = false := h 10 (by omega) (by omega)
  have e11 : (N.toList == [67, 85, 82, 82, 69, 78, 84, 95, 89, 69, 65, 82, 95, 83, 72, 79, 82, 84]) = false := h 11 (by omega) (by omega)
  have e12 : (N.toList == [67, 85, 82, 82, 69, 78, 84, 95, 77, 79, 78, 84, 72]) = false := h 12 (by omega) (by omega)
  have e13 : (N.toList == [67, 85, 82, 82, 69, 78, 84, 95, 68, 65, 84, 69]) = false := h 13 (by omega) (by omega)
  have e14 : (N.toList == [67, 85, 82, 82, 69, 78, 84, 95, 72, 79, 85, 82]) = false := h 14 (by omega) (by omega)
  have e15 : (N.toList == [67, 85, 82, 82, 69, 78, 84, 95, 77, 73, 78, 85, 84, 69]) = false := h 15 (by omega) (by omega)
  have e16 : (N.toList == [67, 85, 82, 82, 69, 78, 84, 95, 83, 69, 67, 79, 78, 68]) = false := h 16 (by omega) (by omega)
  have e17 : (N.toList == [67, 85, 82, 82, 69, 78, 84, 95, 77, 79, 78, 84, 72, 95, 78, 65, 77, 69]) = false := h 17 (by omega) (by omega)
  have e18 : (N.toList == [67, 85, 82, 82, 69, 78, 84, 95, 77, 79, 78, 84, 72, 95, 78, 65, 77, 69, 95, 83, 72, 79, 82, 84]) = false := h 18 (by omega) (by omega)
  have e19 : (N.toList == [67, 85, 82, 82, 69, 78, 84, 95, 68, 65, 89, 95, 78, 65, 77, 69]) = false := h 19 (by omega) (by omega)
  have e20 : (N.toList == [67, 85, 82, 82, 69, 78, 84, 95, 68, 65, 89, 95, 78, 65, 77, 69, 95, 83, 72, 79, 82, 84]) = false := h 20 (by omega) (by omega)
  clear h
  simp only [enC]
  go_enter Tryd.func45, Tryd.ntmps45
  go_wp2
  go_ret2
  exact ⟨rfl, bal (bal (Below.refl _ _) _) _⟩
end Go.Proofs.YtijhkpbnalnpbaaDoor
