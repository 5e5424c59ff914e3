/- Package standishkeep: the tape: Next, Sign, Text. -/
import Derived.Test.YtefgjicegbhcaaaInts
import Derived.Test.YtefgjicegbhcaaaKeepR
namespace Go.Proofs.Ytefgjicegbhcaaa
open Go.RowKit

structure TapeAt (w : World) (p : Nat) (a : Option Addr) (l : List Int) (c i : Nat) : Prop where
  lt : p < w.heap.size
  c0 : w.cell? ⟨p, 0, none⟩ = some (.slice a l.length c)
  c1 : w.cell? ⟨p, 1, none⟩ = some (.int .i64 i)
  fz : w.frozen? ⟨p, 1, none⟩ = false
  le : i ≤ l.length
theorem TapeAt.drewN {w : World} {p : Nat} {a : Option Addr} {l : List Int} {c i : Nat} (h : TapeAt w p a l c i) (n : Nat) : TapeAt (w.drewN n) p a l c i := ⟨h.lt, h.c0, h.c1, h.fz, h.le⟩
theorem TapeAt.below {w w' : World} {p B : Nat} {a : Option Addr} {l : List Int} {c i : Nat} (h : TapeAt w p a l c i) (hb : Below B w w') (hp : p < B) : TapeAt w' p a l c i :=
  ⟨by have := hb.size; have := h.lt; omega, by rw [hb.cell (p := ⟨p, 0, none⟩) hp]; exact h.c0, by rw [hb.cell (p := ⟨p, 1, none⟩) hp]; exact h.c1,
    (World.frozen?_of_block (w := w) (w' := w') (a := ⟨p, 1, none⟩) (hb.block p hp)).trans h.fz, h.le⟩
theorem TapeAt.stepped {w : World} {p : Nat} {a : Option Addr} {l : List Int} {c i : Nat} (h : TapeAt w p a l c i) (hi : i < l.length) : TapeAt (w.setCell ⟨p, 1, none⟩ (.int .i64 ((i : Int) + 1))) p a l c (i + 1) :=
  ⟨by have := h.lt; simpa using this, by rw [World.cell?_setCell_other (h := by simp)]; exact h.c0, by rw [World.cell?_setCell_same (u := .int .i64 i)]; rfl; exact h.c1, by rw [World.frozen?_setCell]; exact h.fz, by omega⟩

/-- what a tape's call leaves -/
def Took (w : World) (p : Nat) (a : Option Addr) (l : List Int) (c : Nat) (w' : World) : Prop := (∃ i, TapeAt w' p a l c i) ∧ Kpt (fun k => k = p) w w'
theorem Kpt.belowp {w w' : World} {p : Nat} (h : Kpt (fun k => k = p) w w') (hp : p ≤ w.heap.size) : Below p w w' := h.below (fun k hk => by omega) hp

set_option maxHeartbeats 4000000 in
theorem next_c (p : Nat) (a : Option Addr) (l : List Int) (c i n : Nat) (w : World) (ht : TapeAt w p a l c i) (hs : I.Sl w a l) (hn : 0 < n) (hn2 : n ≤ 100000) :
    Calls Try.prog 16 #[.pointer (some ⟨p, 0, none⟩), .int .i64 n] w fun e w' => ∃ v : Nat, v < n ∧ e = .returned (.int .i64 v) ∧ Took w p a l c w' := by
  have HT := hid ht
  obtain ⟨hlt, c0, c1, fz, hle⟩ := ht
  have hl := hs.len
  have b2 : decide ((n : Int) < 1) = false := by simp; omega
  by_cases hil : i < l.length
  · have b1 : decide (l.length ≤ i) = false := by simp; omega
    obtain ⟨b, o, rfl, hc⟩ := hs.at hil
    have ck := hc i hil
    have hb := band_le (gt l i) 16777215 (by decide)
    rw [show ((16777215 : Nat) : Int) = 16777215 from rfl] at hb
    obtain ⟨m, hm⟩ := Int.eq_ofNat_of_zero_le hb.1
    rw [hm] at hb
    have hx : ((m : Int)).tmod n = ((m % n : Nat) : Int) := rfl
    have Hx := hid hx
    have hmod := Nat.mod_lt m hn
    clear hx hc
    go_enter Try.func16, Try.ntmps16
    go_wp2
    go_quiet (fail)
    go_wp2
    go_quiet (fail)
    go_wp2
    go_ret
    refine ⟨m % n, hmod, ret_int ?_, ⟨i + 1, ?_⟩, ?_⟩
    · exact Hx.out
    · exact (HT.out.drewN _).stepped hil
    · exact Kpt.setCell (F := fun k => k = p) (p := ⟨p, 1, none⟩) (Kpt.of (bdrewN (Below.refl _ _) _)) rfl _
  · obtain rfl : i = l.length := by omega
    have b1 : decide (l.length ≤ l.length) = true := by simp
    go_enter Try.func16, Try.ntmps16
    go_wp2
    go_quiet (fail)
    go_wp2
    go_ret
    exact ⟨0, hn, rfl, ⟨_, HT.out.drewN _⟩, Kpt.of (bdrewN (Below.refl _ _) _)⟩

end Go.Proofs.Ytefgjicegbhcaaa
