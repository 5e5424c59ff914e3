/- Package fault, by contracts: Trip, Asks. -/
import Derived.Test.YtiockmhjoldidaaDoorFaultN
import Derived.Deep.RegionHeld3
namespace Go.Proofs.YtiockmhjoldidaaDoor
open Go.RowKit

theorem Handle.drew {w : World} (h : Handle w) : Handle w.drew := h

set_option maxHeartbeats 1000000 in
theorem asks_nil (d : Int) (s : Value) (w : World) : Calls Tryd.prog 8 #[.int .i64 0, .int .i64 d, s] w (Tells w false) := by
  go_enter Tryd.func8, Tryd.ntmps8
  go_wp2_with fail
  refine (build_nil _ _).mono ?_
  rintro e w' ⟨rfl, rfl⟩
  go_wp2_with fail
  refine (is_nil _ _).mono ?_
  rintro e w' ⟨rfl, hb⟩
  go_wp2
  go_ret
  exact ⟨rfl, hb⟩
set_option maxHeartbeats 1000000 in
theorem asks_c (c d : Int) (a : Option Addr) (k : Nat) (l : List Int) (w : World) (hc : (c == 0) = false) (hs : I.Sl w a l) :
    Calls Tryd.prog 8 #[.int .i64 c, .int .i64 d, .slice a l.length k] w (Tells w (c == d)) := by
  go_enter Tryd.func8, Tryd.ntmps8
  go_wp2_with fail
  refine (build_c _ _ _ _ _ hc hs).mono ?_
  rintro e w' ⟨rfl, rfl⟩
  go_wp2_with fail
  refine (is_c _ _ _ _).mono ?_
  rintro e w' ⟨rfl, hb⟩
  go_wp2
  go_ret
  exact ⟨rfl, hb⟩

/-- what Trip returns -/
def Trips (w : World) (c : Int) (l : List Int) (e : Ending) (w' : World) : Prop :=
  ∃ a k, e = .returned (.tuple #[.int .i64 c, .slice a l.length k]) ∧ I.Own w' w.heap.size a k l ∧ Below w.heap.size w w'
set_option maxHeartbeats 1000000 in
theorem trip_nil (s : Value) (w : World) : Calls Tryd.prog 7 #[.int .i64 0, s] w (Trips w 0 []) := by
  go_enter Tryd.func7, Tryd.ntmps7
  go_wp2_with fail
  refine (build_nil _ _).mono ?_
  rintro e w' ⟨rfl, rfl⟩
  go_wp2_with fail
  refine (as_nil _ _).mono ?_
  rintro e w' ⟨rfl, rfl⟩
  go_wp2
  go_ret2
  exact ⟨none, 0, rfl, I.Own.nil _ _, (Below.refl _ _).alloc (Nat.le_refl _) _⟩
set_option maxHeartbeats 1000000 in
theorem trip_c (c : Int) (a : Option Addr) (k : Nat) (l : List Int) (w : World) (hc : (c == 0) = false) (hs : I.Sl w a l) (hl : l.length ≤ 100) (hg : Hid (Handle w)) :
    Calls Tryd.prog 7 #[.int .i64 c, .slice a l.length k] w (Trips w c l.reverse) := by
  have hlt : 0 < w.heap.size := World.block_lt_of_cell? w _ hg.out
  have Hr : Hid (I.rng l.reverse) := fun x hx => hs.rng x (by simpa using hx)
  have hrl : l.reverse.length ≤ 100 := by simpa using hl
  have bc := build_c c a k l w hc hs
  generalize l.reverse = r at Hr hrl bc ⊢
  have Bc := hid bc
  clear bc
  go_enter Tryd.func7, Tryd.ntmps7
  go_wp2_with fail
  refine Bc.out.mono ?_
  rintro e w' ⟨rfl, rfl⟩
  go_wp2_with fail
  have hg2 : Hid (Handle (w.alloc (.cells #[.int .i64 0] 36))) := hg.out.bel ((Below.refl _ _).alloc (Nat.le_refl _) _)
  refine (as_c c r _ (.int .i64 0) _ hg2 (by simp) (by simp)).mono ?_
  rintro e w' ⟨rfl, w2, hb2, rfl⟩
  have k2 : (w2.setCell ⟨w.heap.size, 0, none⟩ (.int .i64 c)).cell? ⟨w.heap.size, 0, none⟩ = some (.int .i64 c) := by
    rw [World.cell?_setCell_same (u := .int .i64 0)]
    rw [hb2.cell (p := ⟨w.heap.size, 0, none⟩) (by simp)]; simp
  have B2 : Below w.heap.size w (w2.setCell ⟨w.heap.size, 0, none⟩ (.int .i64 c)) := (bthen ((Below.refl _ _).alloc (Nat.le_refl _) _) hb2).setCell (by simp) _
  generalize w2.setCell ⟨w.heap.size, 0, none⟩ (.int .i64 c) = V at k2 B2 ⊢
  have hgV : Hid (Handle V) := hg.out.bel B2
  have hkV := World.block_lt_of_cell? V _ k2
  have HB := hid B2
  clear hb2 hg2 B2
  go_wp2
  have hgD : Hid (Handle V.drew) := hgV
  go_region_held3 (fun w' => w'.cell? ⟨w.heap.size, 0, none⟩ = some (.int .i64 c)) (first | assumption | go_keep)
    (first | (go_at_call 15; refine (numbers_c c r _ hgD hrl Hr.out).mono ?_; rintro e w' ⟨a', c', rfl, ho, hb⟩; have kk : w'.cell? ⟨w.heap.size, 0, none⟩ = some (.int .i64 c) := (by rw [hb.cell (p := ⟨w.heap.size, 0, none⟩) hkV]; exact k2); have Ho := hid ho; clear ho))
  go_wp2
  go_ret2
  have hlt2 := HB.out.size
  exact ⟨a', c', rfl, Ho.out.base_le (by simpa using hlt2), bthen HB.out (Below.drew (Below.refl _ _) |>.trans (hb.mono (by simp)))⟩
end Go.Proofs.YtiockmhjoldidaaDoor
