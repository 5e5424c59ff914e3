/- Layer 4's law: tells. -/
import Derived.Test.YtcekoifbgfeahaaNl
namespace Go.Proofs.Ytcekoifbgfeahaa
open Go.RowKit

theorem index_i (k n : Int) (w : World) (hn : 0 < n) (hn2 : n ≤ 9223372036854775807) :
    Calls Try.prog 19 #[.int .i64 k, .int .i64 n] w fun e w' => (∃ i : Nat, (i : Int) < n ∧ e = .returned (.int .i64 i)) ∧ w = w' := by
  obtain ⟨m, rfl⟩ := Int.eq_ofNat_of_zero_le (Int.le_of_lt hn)
  refine (index_l k m w (by omega) (by omega)).mono ?_
  rintro e w' ⟨⟨i, hi, rfl⟩, rfl⟩
  exact ⟨⟨i, by omega, rfl⟩, rfl⟩

set_option maxHeartbeats 4000000 in
theorem tells_l (a : Option Addr) (c : Nat) (l : List Int) (x1 x2 x3 : Int) (W : World) (h : Sl W a l) (hlc : l.length ≤ c) (hln : l.length ≤ 35184372087808)
    (hy2 : x2 ≤ 9223372036854775807) (hy3 : -9223372036854775808 ≤ x3 ∧ x3 ≤ 9223372036854775807) :
    Calls Try.prog 4 #[.slice a l.length c, .int .i64 x1, .int .i64 x2, .int .i64 x3] W fun e W' => e = .returned (.bool true) ∧ Below W.heap.size W W' := by
  have S := hid (show ∀ w', Below W.heap.size W w' → Sl w' a l from fun w' hb => h.bel hb)
  have hn1 := lcnt_le l
  have hn2 := lcnt_pos l
  clear h
  go_enter Try.func4, Try.ntmps4
  go_wp2_with fail
  refine (rcount_c a c l W (S.out _ (Below.refl _ _))).mono ?_
  rintro e w' ⟨rfl, rfl⟩
  generalize lcnt l = n at hn1 hn2 ⊢
  go_wp2_with fail
  refine (same_l a c l x1 x2 x3 W (S.out _ (Below.refl _ _)) hlc (by omega) hy2 hy3).mono ?_
  rintro e w1 ⟨rfl, hb1⟩
  go_wp2_with fail
  refine (index_i x1 _ _ (by omega) (by omega)).mono ?_
  rintro e w' ⟨⟨i1, hi1, rfl⟩, rfl⟩
  go_wp2_with fail
  refine (index_i x2 _ _ (by omega) (by omega)).mono ?_
  rintro e w' ⟨⟨i2, hi2, rfl⟩, rfl⟩
  go_wp2_with fail
  refine (index_i x3 40 _ (by omega) (by omega)).mono ?_
  rintro e w' ⟨⟨i3, hi3, rfl⟩, rfl⟩
  go_wp2_with fail
  refine (same_l a c l i1 i2 i3 w1 (S.out _ hb1) hlc (by omega) (by omega) (by omega)).mono ?_
  rintro e w2 ⟨rfl, hb2⟩
  have hx2 := bthen hb1 hb2
  clear hb2
  go_wp2_with fail
  refine (same_l a c l l.length n 0 w2 (S.out _ hx2) hlc (by omega) (by omega) (by omega)).mono ?_
  rintro e w3 ⟨rfl, hb3⟩
  have hx3 := bthen hx2 hb3
  clear hb3
  go_wp2_with fail
  refine (same_l a c l l.length (n - 1) (-1) w3 (S.out _ hx3) hlc (by omega) (by omega) (by omega)).mono ?_
  rintro e w4 ⟨rfl, hb4⟩
  have hx4 := bthen hx3 hb4
  clear hb4
  go_wp2_with fail
  refine (known_l w4).mono ?_
  rintro e w5 ⟨rfl, hb5⟩
  have hx5 := bthen hx4 hb5
  go_wp2
  go_ret
  exact ⟨rfl, hx5⟩
end Go.Proofs.Ytcekoifbgfeahaa
