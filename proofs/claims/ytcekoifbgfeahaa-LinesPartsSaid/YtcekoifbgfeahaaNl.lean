/- Layer 4's laws: known, same. -/
import Derived.Test.YtcekoifbgfeahaaNi
import Derived.Test.YtcekoifbgfeahaaKeepR
namespace Go.Proofs.Ytcekoifbgfeahaa
open Go.RowKit

set_option maxHeartbeats 400000 in
theorem index_l (k : Int) (n : Nat) (w : World) (hn : 0 < n) (hn2 : n ≤ 9223372036854775807) :
    Calls Try.prog 19 #[.int .i64 k, .int .i64 n] w fun e w' => (∃ i : Nat, i < n ∧ e = .returned (.int .i64 i)) ∧ w = w' := by
  have hb := band_le k 4294967295 (by decide)
  rw [show ((4294967295 : Nat) : Int) = 4294967295 from rfl] at hb
  obtain ⟨m, hm⟩ := Int.eq_ofNat_of_zero_le hb.1
  rw [hm] at hb
  have hx : (bits .and .i64 k 4294967295).tmod n = ((m % n : Nat) : Int) := by rw [hm]; rfl
  have Hx := hid hx
  have hle := Nat.mod_le m n
  clear hx
  go_enter Try.func19, Try.ntmps19
  go_wp2
  go_ret
  refine ⟨⟨m % n, Nat.mod_lt _ hn, ret_int ?_⟩, rfl⟩
  first | exact Hx.out | (have := Hx.out; rw [hm] at this; exact this)

set_option maxHeartbeats 4000000 in
theorem same_l (a : Option Addr) (c : Nat) (l : List Int) (at_ line col : Int) (w : World) (h : Sl w a l) (hlc : l.length ≤ c) (hln : l.length ≤ 35184372088830)
    (hli : line ≤ 9223372036854775807) (hco : -9223372036854775808 ≤ col ∧ col ≤ 9223372036854775807) :
    Calls Try.prog 18 #[.slice a l.length c, .int .i64 at_, .int .i64 line, .int .i64 col] w fun e w' => e = .returned (.bool true) ∧ Below w.heap.size w w' := by
  have S := hid (show ∀ w', Below w.heap.size w w' → Sl w' a l from fun w' hb => h.bel hb)
  clear h
  go_enter Try.func18, Try.ntmps18
  go_wp2_with fail
  refine (lend_c a c l w (S.out _ (Below.refl _ _)) hln).mono ?_
  rintro e w1 ⟨g, cx, rfl, hcx, hg, ho, hb1⟩
  have HO := hid ho
  have XS : Hid (∀ w', Below w1.heap.size w1 w' → Sl w' (some ⟨g, 0, none⟩) l) := fun w' hb => by have := (ho.sl.bel hb).take l.length; simpa using this
  have XL : Hid (∀ w', Below w1.heap.size w1 w' → Sl w' (some ⟨g, 0, none⟩) (l ++ [-77, -78])) := fun w' hb => ho.sl.bel hb
  clear ho
  have hx1 : Below w.heap.size w w1 := hb1
  have hy1 : Below w1.heap.size w1 w1 := Below.refl _ _
  clear hb1
  go_wp2_with fail
  refine (place_c _ cx l at_ w1 (XS.out _ hy1) (by omega)).mono ?_
  rintro e w' ⟨rfl, rfl⟩
  go_wp2_with fail
  refine (rplace_c a c l at_ w1 (S.out _ hx1)).mono ?_
  rintro e w' ⟨rfl, rfl⟩
  generalize lpL l at_ = v1
  generalize lpC l at_ = v2
  generalize lpE l at_ = v3
  go_wp2_with fail
  refine (count_c _ cx l w1 (XS.out _ hy1)).mono ?_
  rintro e w' ⟨rfl, rfl⟩
  go_wp2_with fail
  refine (rcount_c a c l w1 (S.out _ hx1)).mono ?_
  rintro e w' ⟨rfl, rfl⟩
  generalize lcnt l = n1
  go_wp2_with fail
  refine (start_c _ cx l line w1 (XS.out _ hy1)).mono ?_
  rintro e w2 ⟨rfl, hb2⟩
  have hx2 : Below w.heap.size w w2 := bthen hx1 hb2
  have hy2 : Below w1.heap.size w1 w2 := bthen hy1 hb2
  clear hb2
  go_wp2_with fail
  refine (rstart_c a c l line w2 (S.out _ hx2) hli).mono ?_
  rintro e w' ⟨rfl, rfl⟩
  have HE : Hid (lsE l line = lsE l line) := rfl
  go_wp2_with fail
  refine (width_c _ cx l line w2 (XS.out _ hy2)).mono ?_
  rintro e w3 ⟨rfl, hb3⟩
  have hx3 : Below w.heap.size w w3 := bthen hx2 hb3
  have hy3 : Below w1.heap.size w1 w3 := bthen hy2 hb3
  clear hb3
  go_wp2_with fail
  refine (rwidth_c a c l line w3 (S.out _ hx3) hli).mono ?_
  rintro e w' ⟨rfl, rfl⟩
  go_wp2_with fail
  refine (offset_c _ cx l line col w3 (XS.out _ hy3) hco).mono ?_
  rintro e w4 ⟨rfl, hb4⟩
  have hx4 : Below w.heap.size w w4 := bthen hx3 hb4
  have hy4 : Below w1.heap.size w1 w4 := bthen hy3 hb4
  clear hb4
  go_wp2_with fail
  refine (roffset_c a c l line col w4 (S.out _ hx4) hli hco).mono ?_
  rintro e w' ⟨rfl, rfl⟩
  go_wp2_with fail
  refine (indent_c _ cx l line w4 (XS.out _ hy4) (by omega)).mono ?_
  rintro e w5 ⟨a5, c5, rfl, ho5, hb5⟩
  have HO5 := hid ho5
  have hx5 : Below w.heap.size w w5 := bthen hx4 hb5
  have hy5 : Below w1.heap.size w1 w5 := bthen hy4 hb5
  have hz5 : Below w5.heap.size w5 w5 := Below.refl _ _
  clear hb5 ho5
  go_wp2_with fail
  refine (rindent_c a c l line w5 (S.out _ hx5) hlc hli).mono ?_
  rintro e w6 ⟨a6, c6, rfl, ho6, hb6⟩
  have HO6 := hid ho6
  have hx6 : Below w.heap.size w w6 := bthen hx5 hb6
  have hy6 : Below w1.heap.size w1 w6 := bthen hy5 hb6
  have hz6 : Below w5.heap.size w5 w6 := bthen hz5 hb6
  clear hb6 ho6
  go_wp2_with fail
  refine (rsame_c a5 a6 c5 c6 (liV l line) (liV l line) w6 ((HO5.out.sl.bel hz6)) HO6.out.sl).mono ?_
  rw [eqM_self]
  rintro e w' ⟨rfl, n7, rfl⟩
  go_wp2_with fail
  have hq : w1.heap.size ≤ w4.heap.size := hy4.size
  have hq0 : w.heap.size ≤ w4.heap.size := hx4.size
  refine (spoil_c w4.heap.size a5 c5 (liV l line) _ ((HO5.out.grow hz6).drewN n7)).mono ?_
  rintro e w8 ⟨rfl, hb8⟩
  have hx8 : Below w.heap.size w w8 := (bdrewN hx6 n7).trans (hb8.mono hq0)
  have hy8 : Below w1.heap.size w1 w8 := (bdrewN hy6 n7).trans (hb8.mono hq)
  clear hb8
  go_wp2_with fail
  refine (kept_c g cx a c l w8 (XL.out _ hy8) (by omega) (S.out _ hx8)).mono ?_
  rintro e w' ⟨rfl, n9, rfl⟩
  go_wp2
  go_ret
  exact ⟨rfl, bdrewN hx8 n9⟩

theorem kl_1 : lsc [97, 10, 32, 98] 3 = (1, 2) := by decide
theorem kl_2 : lin [97, 10, 32, 98] 1 = some 2 := by decide
theorem kl_3 : nx [97, 10, 32, 98] 2 = 4 := by decide
theorem kl_4 : lin [97, 10, 32, 98] 2 = none := by decide
theorem kl_p1 : lpL [97, 10, 32, 98] 3 = 1 := by decide
theorem kl_p2 : lpC [97, 10, 32, 98] 3 = 1 := by decide
theorem kl_p3 : lpE [97, 10, 32, 98] 3 = 0 := by decide
theorem kl_w : lwV [97, 10, 32, 98] 1 = 2 := by decide
theorem kl_we : lsE [97, 10, 32, 98] 1 = 0 := by decide
theorem kl_o : loV [97, 10, 32, 98] 1 2 = 4 := by decide
theorem kl_oe : loE [97, 10, 32, 98] 1 2 = 0 := by decide
theorem kl_i : liV [97, 10, 32, 98] 1 = [32] := by decide
theorem kl_se : lsE [97, 10, 32, 98] 2 = 2 := by decide
theorem kl_c : lcnt [97, 10, 32, 98] = 2 := by decide
theorem kl_n : lcnt [] = 1 := by decide
set_option maxHeartbeats 4000000 in
theorem known_l (w : World) : Calls Try.prog 20 #[] w fun e w' => e = .returned (.bool true) ∧ Below w.heap.size w w' := by
  have hs : Sl (w.alloc (.cells #[.int .i32 97, .int .i32 10, .int .i32 32, .int .i32 98] 21)) (some ⟨w.heap.size, 0, none⟩) [97, 10, 32, 98] := (Sl.lit' _ [97, 10, 32, 98] _ _ (by simp) (by simp) (by simp [rng]) _ rfl)
  have hx1 : Below w.heap.size w (w.alloc (.cells #[.int .i32 97, .int .i32 10, .int .i32 32, .int .i32 98] 21)) := bal (Below.refl _ _) _
  go_enter Try.func20, Try.ntmps20
  go_wp2_with fail
  generalize w.alloc (.cells #[.int .i32 97, .int .i32 10, .int .i32 32, .int .i32 98] 21) = w1 at hs hx1 ⊢
  have hz1 : w.heap.size ≤ w1.heap.size := hx1.size
  generalize hBw : w.heap.size = B at hs hx1 hz1 ⊢
  have HB := hid hBw
  clear hBw
  have S := hid (show ∀ w', Below w1.heap.size w1 w' → Sl w' (some ⟨B, 0, none⟩) [97, 10, 32, 98] from fun w' hb => hs.bel hb)
  have hy1 : Below w1.heap.size w1 w1 := Below.refl _ _
  clear hs
  refine (place_c _ 4 [97, 10, 32, 98] 3 w1 (S.out _ hy1) (by simp)).mono ?_
  rw [kl_p1, kl_p2, kl_p3]
  rintro e w' ⟨rfl, rfl⟩
  go_wp2_with fail
  refine (width_c _ 4 [97, 10, 32, 98] 1 w1 (S.out _ hy1)).mono ?_
  rw [kl_w, kl_we]
  rintro e w3 ⟨rfl, hb3⟩
  have hx3 : Below B w w3 := hx1.trans (hb3.mono hz1)
  have hy3 : Below w1.heap.size w1 w3 := bthen hy1 hb3
  have hz3 := Nat.le_trans hz1 hb3.size
  clear hb3
  go_wp2_with fail
  refine (offset_c _ 4 [97, 10, 32, 98] 1 2 w3 (S.out _ hy3) (by omega)).mono ?_
  rw [kl_o, kl_oe]
  rintro e w4 ⟨rfl, hb4⟩
  have hx4 : Below B w w4 := hx3.trans (hb4.mono hz3)
  have hy4 : Below w1.heap.size w1 w4 := bthen hy3 hb4
  have hz4 := Nat.le_trans hz3 hb4.size
  clear hb4
  go_wp2_with fail
  refine (indent_c _ 4 [97, 10, 32, 98] 1 w4 (S.out _ hy4) (by simp)).mono ?_
  rw [kl_i, kl_we]
  rintro e w5 ⟨a5, c5, rfl, ho5, hb5⟩
  have HO5 := hid ho5
  have hx5 : Below B w w5 := hx4.trans (hb5.mono hz4)
  have hy5 : Below w1.heap.size w1 w5 := bthen hy4 hb5
  have hz5 := Nat.le_trans hz4 hb5.size
  clear hb5 ho5
  go_wp2_with fail
  refine (start_c _ 4 [97, 10, 32, 98] 2 w5 (S.out _ hy5)).mono ?_
  rw [kl_se]
  rintro e w6 ⟨rfl, hb6⟩
  have hx6 : Below B w w6 := hx5.trans (hb6.mono hz5)
  have hy6 : Below w1.heap.size w1 w6 := bthen hy5 hb6
  have HO6 : Hid (Sl w6 a5 [32]) := HO5.out.sl.bel hb6
  clear hb6
  obtain ⟨b, off, rfl, hc⟩ := HO6.out.at (i := 0) (by decide)
  have ck := hc 0 (by decide)
  rw [show gt [32] 0 = 32 from rfl, Nat.add_zero] at ck
  clear hc
  go_wp2_with fail
  refine (count_c _ 4 [97, 10, 32, 98] w6 (S.out _ hy6)).mono ?_
  rw [kl_c]
  rintro e w' ⟨rfl, rfl⟩
  go_wp2_with fail
  refine (count_c none 0 [] w6 (Sl.nil _ _)).mono ?_
  rw [kl_n]
  rintro e w' ⟨rfl, rfl⟩
  go_wp2
  go_ret
  exact ⟨rfl, by rw [HB.out]; exact hx6⟩
end Go.Proofs.Ytcekoifbgfeahaa
