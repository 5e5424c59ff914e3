/- The document's own answer for a variable: digits, draws, names of months and days, the base of a name. -/
import Derived.Test.YtijhkpbnalnpbaaDoorVc
import Derived.Test.YtijhkpbnalnpbaaDoorKr
namespace Go.Proofs.YtijhkpbnalnpbaaDoor
open Go.RowKit

/-- the digits that Digits tells: at least k -/
def DigL (n k : Nat) (L : List Int) : Prop := ∃ j, L = digs 10 j n ∧ k ≤ j ∧ n < 10 ^ j ∧ ∀ i, i < j → i < k ∨ 0 < n / 10 ^ i
theorem DigL.fix {n k : Nat} {L : List Int} (h : DigL n k L) (hn : n < 10 ^ k) : L = digs 10 k n := by
  obtain ⟨j, rfl, hk, hj, hi⟩ := h
  rcases Nat.lt_or_ge k j with h1 | h1
  · rcases hi k h1 with h2 | h2
    · omega
    · rw [Nat.div_eq_of_lt hn] at h2; omega
  · obtain rfl : j = k := by omega
    rfl
theorem DigL.one {n : Nat} {L : List Int} (h : DigL n 1 L) : L = itoaL n := by
  obtain ⟨j, rfl, hk, hj, hi⟩ := h
  obtain ⟨i, rfl⟩ : ∃ i, j = i + 1 := ⟨j - 1, by omega⟩
  have h1 := nDigits_le i n hj
  have h2 : i + 1 ≤ Lib.nDigits n := by
    rcases hi i (by omega) with h2 | h2
    · have := Lib.nDigits_pos n; omega
    · exact nDigits_lt h2
  rw [itoaL, show Lib.nDigits n = i + 1 by omega]
set_option maxHeartbeats 2000000 in
theorem rdigits_c (n k : Nat) (w : World) (hn : n < 1000000000) (hk : k ≤ 100) : Calls Tryd.prog 26 #[.int .i64 n, .int .i64 k] w fun e w' => ∃ L, DigL n k L ∧ Makes w L e w' := by
  go_enter Tryd.func26, Tryd.ntmps26
  go_wp2
  go_loopw [0, 5] (fun nv ov wr => ∃ (j u : Nat) (a : Option Addr) (c : Nat) (L : List Int), j ≤ 110 ∧ nv = .int .i64 u ∧ ov = .slice a L.length c ∧ Hid (u = n / 10 ^ j) ∧ u < 1000000000 ∧ Hid (L = digs 10 j n) ∧ L.length = j ∧ Hid (∀ i, i < j → i < k ∨ 0 < n / 10 ^ i) ∧ Hid (Own wr w.heap.size a c L) ∧ Hid (Below w.heap.size w wr) ∧ w.heap.size ≤ wr.heap.size)
    (fun nv ov _ => (intOf nv).toNat + (k - (match ov with | .slice _ l _ => l | _ => 0)))
  case atStart => exact ⟨0, n, none, 0, [], by omega, rfl, rfl, hid (by simp), hn, rfl, rfl, hid (fun i hi => by omega), hid (Own.nil _ _), hid (Below.refl _ _), Nat.le_refl _⟩
  case round =>
    obtain ⟨j, u, a, c, L, hj, rfl, rfl, hu, hul, hL, hLj0, hi, ho, hb, hz⟩ := hrel
    have hLj := hid hLj0
    have hLb : L.length ≤ 110 := by omega
    clear hLj0
    have hj100 : j ≤ 100 ∨ u = 0 := by
      rcases Nat.lt_or_ge 9 j with h | h
      · right
        have h1 : (10 : Nat) ^ 10 ≤ 10 ^ j := Nat.pow_le_pow_right (by decide) h
        have h2 : (10 : Nat) ^ 10 = 10000000000 := by decide
        rw [hu.out, Nat.div_eq_of_lt (by omega)]
      · left; omega
    obtain ⟨m, hmm⟩ : ∃ m, u % 10 = m := ⟨_, rfl⟩
    have hm10 : m < 10 := by omega
    have hm : Hid (u % 10 = m) := hmm
    have e1 : ((u : Int)).tmod 10 = (m : Int) := by rw [← hmm]; rfl
    have e3 : IntKind.i32.wrap (48 + (m : Int)) = 48 + (m : Int) := by rw [IntKind.wrap_i32]; omega
    have e4 : ((u : Int)).tdiv 10 = ((u / 10 : Nat) : Int) := rfl
    clear hmm
    by_cases h0 : 0 < u
    · have b1 : decide (0 < u) = true := by simpa using h0
      have Hi : Hid (∀ i, i < j + 1 → i < k ∨ 0 < n / 10 ^ i) := hid fun i h => by
        rcases Nat.lt_or_ge i j with h1 | h1
        · exact hi.out i h1
        · obtain rfl : i = j := by omega
          right; rw [← hu.out]; exact h0
      go_wp2_with (at_builtin; (refine wpL_appn rfl (.tmp 18) (.tmp 19) rfl w.heap.size (some ⟨wr.heap.size, 0, none⟩) a 1 L.length 1 c [48 + (m : Int)] L rfl (by first | rfl | simp | omega) (Own.lit' wr [48 + (m : Int)] _ _ _ rfl hz (by simp) (rng_one (by omega)) _ rfl rfl) rfl (by first | rfl | simp | omega) (ho.out.sl.alloc _) (by have := hLj.out; simp; omega) (by simp; omega) ?_); intro a5 c5 w5 L5 Hl5 ho5 hb5 hk5 hA5; have HA5 := hid hA5; clear hA5; have Ho5 := hid ho5; clear ho5; have Hk5 := hid hk5; clear hk5; have hz5 := hb5.size)
      have hL5 : Hid (L5 = digs 10 (j + 1) n) := hid (by rw [Hl5.out, digs_front, hL.out, ← hu.out, hm.out]; simp [dg]; omega)
      have hl5 : L5.length = j + 1 := by rw [hL5.out, digs_len]
      have hb5 := hid (hb.out.trans (((Below.refl wr.heap.size wr).alloc (Nat.le_refl _) _ |>.mono hz).trans hb5))
      go_roundw
      case rel => exact ⟨j + 1, u / 10, a5, c5, L5, by omega, by go_num, rfl, hid (by rw [hu.out, Nat.pow_succ, Nat.div_div_eq_div_mul]), by omega, hL5, hl5, Hi, Ho5, hb5, hb5.out.size⟩
      case measure => have := hLj.out; simp [intOf, hl5]; omega
    · have b1 : decide (0 < u) = false := by simpa using h0
      have hu0 := hid (show u = 0 by omega)
      by_cases h1 : j < k
      · have b2 : decide (L.length < k) = true := by have := hLj.out; simp; omega
        have Hi : Hid (∀ i, i < j + 1 → i < k ∨ 0 < n / 10 ^ i) := hid fun i h => .inl (by omega)
        go_wp2_with (at_builtin; (refine wpL_appn rfl (.tmp 18) (.tmp 19) rfl w.heap.size (some ⟨wr.heap.size, 0, none⟩) a 1 L.length 1 c [48 + (m : Int)] L rfl (by first | rfl | simp | omega) (Own.lit' wr [48 + (m : Int)] _ _ _ rfl hz (by simp) (rng_one (by omega)) _ rfl rfl) rfl (by first | rfl | simp | omega) (ho.out.sl.alloc _) (by have := hLj.out; simp; omega) (by simp; omega) ?_); intro a5 c5 w5 L5 Hl5 ho5 hb5 hk5 hA5; have HA5 := hid hA5; clear hA5; have Ho5 := hid ho5; clear ho5; have Hk5 := hid hk5; clear hk5; have hz5 := hb5.size)
        have hL5 : Hid (L5 = digs 10 (j + 1) n) := hid (by rw [Hl5.out, digs_front, hL.out, ← hu.out, hm.out]; simp [dg]; omega)
        have hl5 : L5.length = j + 1 := by rw [hL5.out, digs_len]
        have hb5 := hid (hb.out.trans (((Below.refl wr.heap.size wr).alloc (Nat.le_refl _) _ |>.mono hz).trans hb5))
        go_roundw
        case rel => exact ⟨j + 1, u / 10, a5, c5, L5, by omega, by go_num, rfl, hid (by rw [hu.out, Nat.pow_succ, Nat.div_div_eq_div_mul]), by omega, hL5, hl5, Hi, Ho5, hb5, hb5.out.size⟩
        case measure => have := hLj.out; simp [intOf, hl5]; omega
      · have b2 : decide (L.length < k) = false := by have := hLj.out; simp; omega
        go_wp2
        go_ret
        refine ⟨L, ⟨j, hL.out, by omega, ?_, hi.out⟩, a, c, rfl, ho.out, hb.out⟩
        have := hu.out
        have := hu0.out
        have hp : 0 < 10 ^ j := Nat.pow_pos (by decide)
        rcases Nat.lt_or_ge n (10 ^ j) with h | h
        · exact h
        · have := Nat.div_pos h hp; omega
theorem and15i (u : Nat) (h : u < 9223372036854775808) : bits BinOp.and IntKind.i64 (u : Int) 15 = ((u % 16 : Nat) : Int) := by
  have h1 : bits .and .i64 (u : Int) 15 = IntKind.i64.wrap ((BitVec.ofInt 64 (u : Int) &&& BitVec.ofInt 64 ((15 : Nat) : Int)).toNat : Int) := rfl
  have h2 : (BitVec.ofInt 64 (u : Int) &&& BitVec.ofInt 64 ((15 : Nat) : Int)).toNat = u % 16 := by
    rw [BitVec.toNat_and, BitVec.ofInt_natCast, BitVec.ofInt_natCast, BitVec.toNat_ofNat, BitVec.toNat_ofNat, Nat.mod_eq_of_lt (by omega), Nat.mod_eq_of_lt (by decide)]
    exact Nat.and_two_pow_sub_one_eq_mod u 4
  rw [h1, h2, IntKind.wrap_i64]; omega
set_option maxHeartbeats 4000000 in
theorem rhex_c (n : Nat) (w : World) (hn : n < 16777216) : Calls Tryd.prog 28 #[.int .i64 n] w (Makes w (digs 16 6 n)) := by
  go_enter Tryd.func28, Tryd.ntmps28
  go_wp2
  go_loopw [3, 4] (fun ov kv wr => ∃ (t : Nat) (a : Option Addr) (c : Nat) (L : List Int), t ≤ 6 ∧ kv = .int .i64 (20 - 4 * (t : Int)) ∧ ov = .slice a L.length c ∧ Hid (L = digs 16 t (n / 16 ^ (6 - t))) ∧ L.length ≤ 6 ∧ Hid (Own wr w.heap.size a c L) ∧ Hid (Below w.heap.size w wr) ∧ w.heap.size ≤ wr.heap.size)
    (fun _ kv _ => (intOf kv + 4).toNat)
  case atStart => exact ⟨0, none, 0, [], by omega, rfl, rfl, rfl, by simp, hid (Own.nil _ _), hid (Below.refl _ _), Nat.le_refl _⟩
  case round =>
    obtain ⟨t, a, c, L, ht, rfl, rfl, hL, hLl, ho, hb, hz⟩ := hrel
    rcases (show t = 0 ∨ t = 1 ∨ t = 2 ∨ t = 3 ∨ t = 4 ∨ t = 5 ∨ t = 6 by omega) with rfl | rfl | rfl | rfl | rfl | rfl | rfl
    · have a15 : bits BinOp.and IntKind.i64 ((n : Int) / 1048576) 15 = ((n / 1048576 % 16 : Nat) : Int) := and15i (n / 1048576) (by omega)
      have hd : n / 1048576 % 16 < 16 := Nat.mod_lt _ (by decide)
      obtain ⟨d, hd0⟩ : ∃ d, n / 1048576 % 16 = d := ⟨_, rfl⟩
      rw [hd0] at a15 hd
      have hdd := hid hd0
      clear hd0
      by_cases h10 : d < 10
      · have b1 : decide ((d : Int) < 10) = true := by simp; omega
        go_wp2_with (at_builtin; (refine wpL_appn rfl (.tmp 17) (.tmp 21) rfl w.heap.size a (some ⟨wr.heap.size, 0, none⟩) L.length 1 c 1 L [48 + (d : Int)] rfl (by first | rfl | simp | omega) (ho.out.grow (by (repeat' (first | exact Below.refl _ _ | assumption | refine bdrewN ?_ _ | refine Below.drew ?_ | refine bal ?_ _ | refine bthen ?_ (by assumption))))) rfl (by first | rfl | simp | omega) (Sl.lit wr [48 + (d : Int)] _ (by simp) (rng_one (by omega)) _ rfl) (by simp; omega) (by simp; omega) ?_); intro a5 c5 w5 L5 Hl5 ho5 hb5 hk5 hA5; have HA5 := hid hA5; clear hA5; have Ho5 := hid ho5; clear ho5; have Hk5 := hid hk5; clear hk5; have hz5 := hb5.size)
        have hL5 : Hid (L5 = digs 16 1 (n / 16 ^ (6 - 1))) := hid (by rw [Hl5.out, hL.out]; simp only [digs, Nat.reducePow, Nat.reduceSub, Nat.div_div_eq_div_mul, Nat.reduceMul] at *; rw [hdd.out]; simp [dg]; omega)
        have hl5 : L5.length ≤ 6 := by rw [hL5.out, digs_len]; omega
        have hb6 := hid (hb.out.trans (((Below.refl wr.heap.size wr).alloc (Nat.le_refl _) _ |>.mono hz).trans hb5))
        go_roundw
        case rel => exact ⟨1, a5, c5, L5, by omega, by go_num, rfl, hL5, hl5, Ho5, hb6, hb6.out.size⟩
        case measure => simp [intOf]
      · have b1 : decide ((d : Int) < 10) = false := by simp; omega
        go_wp2_with (at_builtin; (refine wpL_appn rfl (.tmp 23) (.tmp 28) rfl w.heap.size a (some ⟨wr.heap.size, 0, none⟩) L.length 1 c 1 L [97 + (d : Int) - 10] rfl (by first | rfl | simp | omega) (ho.out.grow (by (repeat' (first | exact Below.refl _ _ | assumption | refine bdrewN ?_ _ | refine Below.drew ?_ | refine bal ?_ _ | refine bthen ?_ (by assumption))))) rfl (by first | rfl | simp | omega) (Sl.lit wr [97 + (d : Int) - 10] _ (by simp) (rng_one (by omega)) _ rfl) (by simp; omega) (by simp; omega) ?_); intro a5 c5 w5 L5 Hl5 ho5 hb5 hk5 hA5; have HA5 := hid hA5; clear hA5; have Ho5 := hid ho5; clear ho5; have Hk5 := hid hk5; clear hk5; have hz5 := hb5.size)
        have hL5 : Hid (L5 = digs 16 1 (n / 16 ^ (6 - 1))) := hid (by rw [Hl5.out, hL.out]; simp only [digs, Nat.reducePow, Nat.reduceSub, Nat.div_div_eq_div_mul, Nat.reduceMul] at *; rw [hdd.out]; simp [dg]; omega)
        have hl5 : L5.length ≤ 6 := by rw [hL5.out, digs_len]; omega
        have hb6 := hid (hb.out.trans (((Below.refl wr.heap.size wr).alloc (Nat.le_refl _) _ |>.mono hz).trans hb5))
        go_roundw
        case rel => exact ⟨1, a5, c5, L5, by omega, by go_num, rfl, hL5, hl5, Ho5, hb6, hb6.out.size⟩
        case measure => simp [intOf]
    · have a15 : bits BinOp.and IntKind.i64 ((n : Int) / 65536) 15 = ((n / 65536 % 16 : Nat) : Int) := and15i (n / 65536) (by omega)
      have hd : n / 65536 % 16 < 16 := Nat.mod_lt _ (by decide)
      obtain ⟨d, hd0⟩ : ∃ d, n / 65536 % 16 = d := ⟨_, rfl⟩
      rw [hd0] at a15 hd
      have hdd := hid hd0
      clear hd0
      by_cases h10 : d < 10
      · have b1 : decide ((d : Int) < 10) = true := by simp; omega
        go_wp2_with (at_builtin; (refine wpL_appn rfl (.tmp 17) (.tmp 21) rfl w.heap.size a (some ⟨wr.heap.size, 0, none⟩) L.length 1 c 1 L [48 + (d : Int)] rfl (by first | rfl | simp | omega) (ho.out.grow (by (repeat' (first | exact Below.refl _ _ | assumption | refine bdrewN ?_ _ | refine Below.drew ?_ | refine bal ?_ _ | refine bthen ?_ (by assumption))))) rfl (by first | rfl | simp | omega) (Sl.lit wr [48 + (d : Int)] _ (by simp) (rng_one (by omega)) _ rfl) (by simp; omega) (by simp; omega) ?_); intro a5 c5 w5 L5 Hl5 ho5 hb5 hk5 hA5; have HA5 := hid hA5; clear hA5; have Ho5 := hid ho5; clear ho5; have Hk5 := hid hk5; clear hk5; have hz5 := hb5.size)
        have hL5 : Hid (L5 = digs 16 2 (n / 16 ^ (6 - 2))) := hid (by rw [Hl5.out, hL.out]; simp only [digs, Nat.reducePow, Nat.reduceSub, Nat.div_div_eq_div_mul, Nat.reduceMul] at *; rw [hdd.out]; simp [dg]; omega)
        have hl5 : L5.length ≤ 6 := by rw [hL5.out, digs_len]; omega
        have hb6 := hid (hb.out.trans (((Below.refl wr.heap.size wr).alloc (Nat.le_refl _) _ |>.mono hz).trans hb5))
        go_roundw
        case rel => exact ⟨2, a5, c5, L5, by omega, by go_num, rfl, hL5, hl5, Ho5, hb6, hb6.out.size⟩
        case measure => simp [intOf]
      · have b1 : decide ((d : Int) < 10) = false := by simp; omega
        go_wp2_with (at_builtin; (refine wpL_appn rfl (.tmp 23) (.tmp 28) rfl w.heap.size a (some ⟨wr.heap.size, 0, none⟩) L.length 1 c 1 L [97 + (d : Int) - 10] rfl (by first | rfl | simp | omega) (ho.out.grow (by (repeat' (first | exact Below.refl _ _ | assumption | refine bdrewN ?_ _ | refine Below.drew ?_ | refine bal ?_ _ | refine bthen ?_ (by assumption))))) rfl (by first | rfl | simp | omega) (Sl.lit wr [97 + (d : Int) - 10] _ (by simp) (rng_one (by omega)) _ rfl) (by simp; omega) (by simp; omega) ?_); intro a5 c5 w5 L5 Hl5 ho5 hb5 hk5 hA5; have HA5 := hid hA5; clear hA5; have Ho5 := hid ho5; clear ho5; have Hk5 := hid hk5; clear hk5; have hz5 := hb5.size)
        have hL5 : Hid (L5 = digs 16 2 (n / 16 ^ (6 - 2))) := hid (by rw [Hl5.out, hL.out]; simp only [digs, Nat.reducePow, Nat.reduceSub, Nat.div_div_eq_div_mul, Nat.reduceMul] at *; rw [hdd.out]; simp [dg]; omega)
        have hl5 : L5.length ≤ 6 := by rw [hL5.out, digs_len]; omega
        have hb6 := hid (hb.out.trans (((Below.refl wr.heap.size wr).alloc (Nat.le_refl _) _ |>.mono hz).trans hb5))
        go_roundw
        case rel => exact ⟨2, a5, c5, L5, by omega, by go_num, rfl, hL5, hl5, Ho5, hb6, hb6.out.size⟩
        case measure => simp [intOf]
    · have a15 : bits BinOp.and IntKind.i64 ((n : Int) / 4096) 15 = ((n / 4096 % 16 : Nat) : Int) := and15i (n / 4096) (by omega)
      have hd : n / 4096 % 16 < 16 := Nat.mod_lt _ (by decide)
      obtain ⟨d, hd0⟩ : ∃ d, n / 4096 % 16 = d := ⟨_, rfl⟩
      rw [hd0] at a15 hd
      have hdd := hid hd0
      clear hd0
      by_cases h10 : d < 10
      · have b1 : decide ((d : Int) < 10) = true := by simp; omega
        go_wp2_with (at_builtin; (refine wpL_appn rfl (.tmp 17) (.tmp 21) rfl w.heap.size a (some ⟨wr.heap.size, 0, none⟩) L.length 1 c 1 L [48 + (d : Int)] rfl (by first | rfl | simp | omega) (ho.out.grow (by (repeat' (first | exact Below.refl _ _ | assumption | refine bdrewN ?_ _ | refine Below.drew ?_ | refine bal ?_ _ | refine bthen ?_ (by assumption))))) rfl (by first | rfl | simp | omega) (Sl.lit wr [48 + (d : Int)] _ (by simp) (rng_one (by omega)) _ rfl) (by simp; omega) (by simp; omega) ?_); intro a5 c5 w5 L5 Hl5 ho5 hb5 hk5 hA5; have HA5 := hid hA5; clear hA5; have Ho5 := hid ho5; clear ho5; have Hk5 := hid hk5; clear hk5; have hz5 := hb5.size)
        have hL5 : Hid (L5 = digs 16 3 (n / 16 ^ (6 - 3))) := hid (by rw [Hl5.out, hL.out]; simp only [digs, Nat.reducePow, Nat.reduceSub, Nat.div_div_eq_div_mul, Nat.reduceMul] at *; rw [hdd.out]; simp [dg]; omega)
        have hl5 : L5.length ≤ 6 := by rw [hL5.out, digs_len]; omega
        have hb6 := hid (hb.out.trans (((Below.refl wr.heap.size wr).alloc (Nat.le_refl _) _ |>.mono hz).trans hb5))
        go_roundw
        case rel => exact ⟨3, a5, c5, L5, by omega, by go_num, rfl, hL5, hl5, Ho5, hb6, hb6.out.size⟩
        case measure => simp [intOf]
      · have b1 : decide ((d : Int) < 10) = false := by simp; omega
        go_wp2_with (at_builtin; (refine wpL_appn rfl (.tmp 23) (.tmp 28) rfl w.heap.size a (some ⟨wr.heap.size, 0, none⟩) L.length 1 c 1 L [97 + (d : Int) - 10] rfl (by first | rfl | simp | omega) (ho.out.grow (by (repeat' (first | exact Below.refl _ _ | assumption | refine bdrewN ?_ _ | refine Below.drew ?_ | refine bal ?_ _ | refine bthen ?_ (by assumption))))) rfl (by first | rfl | simp | omega) (Sl.lit wr [97 + (d : Int) - 10] _ (by simp) (rng_one (by omega)) _ rfl) (by simp; omega) (by simp; omega) ?_); intro a5 c5 w5 L5 Hl5 ho5 hb5 hk5 hA5; have HA5 := hid hA5; clear hA5; have Ho5 := hid ho5; clear ho5; have Hk5 := hid hk5; clear hk5; have hz5 := hb5.size)
        have hL5 : Hid (L5 = digs 16 3 (n / 16 ^ (6 - 3))) := hid (by rw [Hl5.out, hL.out]; simp only [digs, Nat.reducePow, Nat.reduceSub, Nat.div_div_eq_div_mul, Nat.reduceMul] at *; rw [hdd.out]; simp [dg]; omega)
        have hl5 : L5.length ≤ 6 := by rw [hL5.out, digs_len]; omega
        have hb6 := hid (hb.out.trans (((Below.refl wr.heap.size wr).alloc (Nat.le_refl _) _ |>.mono hz).trans hb5))
        go_roundw
        case rel => exact ⟨3, a5, c5, L5, by omega, by go_num, rfl, hL5, hl5, Ho5, hb6, hb6.out.size⟩
        case measure => simp [intOf]
    · have a15 : bits BinOp.and IntKind.i64 ((n : Int) / 256) 15 = ((n / 256 % 16 : Nat) : Int) := and15i (n / 256) (by omega)
      have hd : n / 256 % 16 < 16 := Nat.mod_lt _ (by decide)
      obtain ⟨d, hd0⟩ : ∃ d, n / 256 % 16 = d := ⟨_, rfl⟩
      rw [hd0] at a15 hd
      have hdd := hid hd0
      clear hd0
      by_cases h10 : d < 10
      · have b1 : decide ((d : Int) < 10) = true := by simp; omega
        go_wp2_with (at_builtin; (refine wpL_appn rfl (.tmp 17) (.tmp 21) rfl w.heap.size a (some ⟨wr.heap.size, 0, none⟩) L.length 1 c 1 L [48 + (d : Int)] rfl (by first | rfl | simp | omega) (ho.out.grow (by (repeat' (first | exact Below.refl _ _ | assumption | refine bdrewN ?_ _ | refine Below.drew ?_ | refine bal ?_ _ | refine bthen ?_ (by assumption))))) rfl (by first | rfl | simp | omega) (Sl.lit wr [48 + (d : Int)] _ (by simp) (rng_one (by omega)) _ rfl) (by simp; omega) (by simp; omega) ?_); intro a5 c5 w5 L5 Hl5 ho5 hb5 hk5 hA5; have HA5 := hid hA5; clear hA5; have Ho5 := hid ho5; clear ho5; have Hk5 := hid hk5; clear hk5; have hz5 := hb5.size)
        have hL5 : Hid (L5 = digs 16 4 (n / 16 ^ (6 - 4))) := hid (by rw [Hl5.out, hL.out]; simp only [digs, Nat.reducePow, Nat.reduceSub, Nat.div_div_eq_div_mul, Nat.reduceMul] at *; rw [hdd.out]; simp [dg]; omega)
        have hl5 : L5.length ≤ 6 := by rw [hL5.out, digs_len]; omega
        have hb6 := hid (hb.out.trans (((Below.refl wr.heap.size wr).alloc (Nat.le_refl _) _ |>.mono hz).trans hb5))
        go_roundw
        case rel => exact ⟨4, a5, c5, L5, by omega, by go_num, rfl, hL5, hl5, Ho5, hb6, hb6.out.size⟩
        case measure => simp [intOf]
      · have b1 : decide ((d : Int) < 10) = false := by simp; omega
        go_wp2_with (at_builtin; (refine wpL_appn rfl (.tmp 23) (.tmp 28) rfl w.heap.size a (some ⟨wr.heap.size, 0, none⟩) L.length 1 c 1 L [97 + (d : Int) - 10] rfl (by first | rfl | simp | omega) (ho.out.grow (by (repeat' (first | exact Below.refl _ _ | assumption | refine bdrewN ?_ _ | refine Below.drew ?_ | refine bal ?_ _ | refine bthen ?_ (by assumption))))) rfl (by first | rfl | simp | omega) (Sl.lit wr [97 + (d : Int) - 10] _ (by simp) (rng_one (by omega)) _ rfl) (by simp; omega) (by simp; omega) ?_); intro a5 c5 w5 L5 Hl5 ho5 hb5 hk5 hA5; have HA5 := hid hA5; clear hA5; have Ho5 := hid ho5; clear ho5; have Hk5 := hid hk5; clear hk5; have hz5 := hb5.size)
        have hL5 : Hid (L5 = digs 16 4 (n / 16 ^ (6 - 4))) := hid (by rw [Hl5.out, hL.out]; simp only [digs, Nat.reducePow, Nat.reduceSub, Nat.div_div_eq_div_mul, Nat.reduceMul] at *; rw [hdd.out]; simp [dg]; omega)
        have hl5 : L5.length ≤ 6 := by rw [hL5.out, digs_len]; omega
        have hb6 := hid (hb.out.trans (((Below.refl wr.heap.size wr).alloc (Nat.le_refl _) _ |>.mono hz).trans hb5))
        go_roundw
        case rel => exact ⟨4, a5, c5, L5, by omega, by go_num, rfl, hL5, hl5, Ho5, hb6, hb6.out.size⟩
        case measure => simp [intOf]
    · have a15 : bits BinOp.and IntKind.i64 ((n : Int) / 16) 15 = ((n / 16 % 16 : Nat) : Int) := and15i (n / 16) (by omega)
      have hd : n / 16 % 16 < 16 := Nat.mod_lt _ (by decide)
      obtain ⟨d, hd0⟩ : ∃ d, n / 16 % 16 = d := ⟨_, rfl⟩
      rw [hd0] at a15 hd
      have hdd := hid hd0
      clear hd0
      by_cases h10 : d < 10
      · have b1 : decide ((d : Int) < 10) = true := by simp; omega
        go_wp2_with (at_builtin; (refine wpL_appn rfl (.tmp 17) (.tmp 21) rfl w.heap.size a (some ⟨wr.heap.size, 0, none⟩) L.length 1 c 1 L [48 + (d : Int)] rfl (by first | rfl | simp | omega) (ho.out.grow (by (repeat' (first | exact Below.refl _ _ | assumption | refine bdrewN ?_ _ | refine Below.drew ?_ | refine bal ?_ _ | refine bthen ?_ (by assumption))))) rfl (by first | rfl | simp | omega) (Sl.lit wr [48 + (d : Int)] _ (by simp) (rng_one (by omega)) _ rfl) (by simp; omega) (by simp; omega) ?_); intro a5 c5 w5 L5 Hl5 ho5 hb5 hk5 hA5; have HA5 := hid hA5; clear hA5; have Ho5 := hid ho5; clear ho5; have Hk5 := hid hk5; clear hk5; have hz5 := hb5.size)
        have hL5 : Hid (L5 = digs 16 5 (n / 16 ^ (6 - 5))) := hid (by rw [Hl5.out, hL.out]; simp only [digs, Nat.reducePow, Nat.reduceSub, Nat.div_div_eq_div_mul, Nat.reduceMul] at *; rw [hdd.out]; simp [dg]; omega)
        have hl5 : L5.length ≤ 6 := by rw [hL5.out, digs_len]; omega
        have hb6 := hid (hb.out.trans (((Below.refl wr.heap.size wr).alloc (Nat.le_refl _) _ |>.mono hz).trans hb5))
        go_roundw
        case rel => exact ⟨5, a5, c5, L5, by omega, by go_num, rfl, hL5, hl5, Ho5, hb6, hb6.out.size⟩
        case measure => simp [intOf]
      · have b1 : decide ((d : Int) < 10) = false := by simp; omega
        go_wp2_with (at_builtin; (refine wpL_appn rfl (.tmp 23) (.tmp 28) rfl w.heap.size a (some ⟨wr.heap.size, 0, none⟩) L.length 1 c 1 L [97 + (d : Int) - 10] rfl (by first | rfl | simp | omega) (ho.out.grow (by (repeat' (first | exact Below.refl _ _ | assumption | refine bdrewN ?_ _ | refine Below.drew ?_ | refine bal ?_ _ | refine bthen ?_ (by assumption))))) rfl (by first | rfl | simp | omega) (Sl.lit wr [97 + (d : Int) - 10] _ (by simp) (rng_one (by omega)) _ rfl) (by simp; omega) (by simp; omega) ?_); intro a5 c5 w5 L5 Hl5 ho5 hb5 hk5 hA5; have HA5 := hid hA5; clear hA5; have Ho5 := hid ho5; clear ho5; have Hk5 := hid hk5; clear hk5; have hz5 := hb5.size)
        have hL5 : Hid (L5 = digs 16 5 (n / 16 ^ (6 - 5))) := hid (by rw [Hl5.out, hL.out]; simp only [digs, Nat.reducePow, Nat.reduceSub, Nat.div_div_eq_div_mul, Nat.reduceMul] at *; rw [hdd.out]; simp [dg]; omega)
        have hl5 : L5.length ≤ 6 := by rw [hL5.out, digs_len]; omega
        have hb6 := hid (hb.out.trans (((Below.refl wr.heap.size wr).alloc (Nat.le_refl _) _ |>.mono hz).trans hb5))
        go_roundw
        case rel => exact ⟨5, a5, c5, L5, by omega, by go_num, rfl, hL5, hl5, Ho5, hb6, hb6.out.size⟩
        case measure => simp [intOf]
    · have a15 : bits BinOp.and IntKind.i64 (n : Int) 15 = ((n % 16 : Nat) : Int) := and15i (n) (by omega)
      have hd : n % 16 < 16 := Nat.mod_lt _ (by decide)
      obtain ⟨d, hd0⟩ : ∃ d, n % 16 = d := ⟨_, rfl⟩
      rw [hd0] at a15 hd
      have hdd := hid hd0
      clear hd0
      by_cases h10 : d < 10
      · have b1 : decide ((d : Int) < 10) = true := by simp; omega
        go_wp2_with (at_builtin; (refine wpL_appn rfl (.tmp 17) (.tmp 21) rfl w.heap.size a (some ⟨wr.heap.size, 0, none⟩) L.length 1 c 1 L [48 + (d : Int)] rfl (by first | rfl | simp | omega) (ho.out.grow (by (repeat' (first | exact Below.refl _ _ | assumption | refine bdrewN ?_ _ | refine Below.drew ?_ | refine bal ?_ _ | refine bthen ?_ (by assumption))))) rfl (by first | rfl | simp | omega) (Sl.lit wr [48 + (d : Int)] _ (by simp) (rng_one (by omega)) _ rfl) (by simp; omega) (by simp; omega) ?_); intro a5 c5 w5 L5 Hl5 ho5 hb5 hk5 hA5; have HA5 := hid hA5; clear hA5; have Ho5 := hid ho5; clear ho5; have Hk5 := hid hk5; clear hk5; have hz5 := hb5.size)
        have hL5 : Hid (L5 = digs 16 6 (n / 16 ^ (6 - 6))) := hid (by rw [Hl5.out, hL.out]; simp only [digs, Nat.reducePow, Nat.reduceSub, Nat.div_div_eq_div_mul, Nat.reduceMul, Nat.div_one, Nat.pow_zero] at *; rw [hdd.out]; simp [dg]; omega)
        have hl5 : L5.length ≤ 6 := by rw [hL5.out, digs_len]; omega
        have hb6 := hid (hb.out.trans (((Below.refl wr.heap.size wr).alloc (Nat.le_refl _) _ |>.mono hz).trans hb5))
        go_roundw
        case rel => exact ⟨6, a5, c5, L5, by omega, by go_num, rfl, hL5, hl5, Ho5, hb6, hb6.out.size⟩
        case measure => simp [intOf]
      · have b1 : decide ((d : Int) < 10) = false := by simp; omega
        go_wp2_with (at_builtin; (refine wpL_appn rfl (.tmp 23) (.tmp 28) rfl w.heap.size a (some ⟨wr.heap.size, 0, none⟩) L.length 1 c 1 L [97 + (d : Int) - 10] rfl (by first | rfl | simp | omega) (ho.out.grow (by (repeat' (first | exact Below.refl _ _ | assumption | refine bdrewN ?_ _ | refine Below.drew ?_ | refine bal ?_ _ | refine bthen ?_ (by assumption))))) rfl (by first | rfl | simp | omega) (Sl.lit wr [97 + (d : Int) - 10] _ (by simp) (rng_one (by omega)) _ rfl) (by simp; omega) (by simp; omega) ?_); intro a5 c5 w5 L5 Hl5 ho5 hb5 hk5 hA5; have HA5 := hid hA5; clear hA5; have Ho5 := hid ho5; clear ho5; have Hk5 := hid hk5; clear hk5; have hz5 := hb5.size)
        have hL5 : Hid (L5 = digs 16 6 (n / 16 ^ (6 - 6))) := hid (by rw [Hl5.out, hL.out]; simp only [digs, Nat.reducePow, Nat.reduceSub, Nat.div_div_eq_div_mul, Nat.reduceMul, Nat.div_one, Nat.pow_zero] at *; rw [hdd.out]; simp [dg]; omega)
        have hl5 : L5.length ≤ 6 := by rw [hL5.out, digs_len]; omega
        have hb6 := hid (hb.out.trans (((Below.refl wr.heap.size wr).alloc (Nat.le_refl _) _ |>.mono hz).trans hb5))
        go_roundw
        case rel => exact ⟨6, a5, c5, L5, by omega, by go_num, rfl, hL5, hl5, Ho5, hb6, hb6.out.size⟩
        case measure => simp [intOf]
    · have hL2 : Hid (L = digs 16 6 n) := hid (by rw [hL.out]; simp)
      go_wp2
      go_ret
      exact ⟨a, c, by rw [← hL2.out]; rfl, by rw [← hL2.out]; exact ho.out, hb.out⟩
end Go.Proofs.YtijhkpbnalnpbaaDoor
