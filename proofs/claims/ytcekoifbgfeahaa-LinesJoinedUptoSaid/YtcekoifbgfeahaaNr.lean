/- Contracts of the document's own lines: Place, Start, Width, Offset. -/
import Derived.Test.YtcekoifbgfeahaaNp
namespace Go.Proofs.Ytcekoifbgfeahaa
open Go.RowKit

set_option maxHeartbeats 1000000 in
theorem rplace_c (a : Option Addr) (c : Nat) (l : List Int) (at_ : Int) (w : World) (h : Sl w a l) :
    Calls Try.prog 47 #[.slice a l.length c, .int .i64 at_] w fun e w' => e = .returned (.tuple #[.int .i64 (lpL l at_), .int .i64 (lpC l at_), .int .i64 (lpE l at_)]) ∧ w = w' := by
  have hl := h.len
  by_cases h0 : 0 ≤ at_ ∧ at_ ≤ l.length
  · have e0 : lpB l at_ = true := by simp [lpB, h0]
    obtain ⟨m, rfl⟩ := Int.eq_ofNat_of_zero_le h0.1
    have hm : m ≤ l.length := by omega
    simp only [lpL, lpC, lpE, e0, if_true, Int.toNat_natCast]
    clear e0 h0
    go_enter Try.func47, Try.ntmps47
    go_wp2
    go_loop [7, 8, 9] (fun nv fv i => ∃ k : Nat, k ≤ m ∧ i = .int .i64 k ∧ nv = .int .i64 (lsc l k).1 ∧ fv = .int .i64 (k - (lsc l k).2)) (fun _ _ i => m - (intOf i).toNat)
    case atStart => exact ⟨0, Nat.zero_le _, rfl, rfl, rfl⟩
    case round =>
      obtain ⟨k, hk, rfl, rfl, rfl⟩ := hrel
      have hle := lsc_le l k
      by_cases hlt : k < m
      · obtain ⟨b, o, rfl, hc⟩ := h.at (i := k) (by omega)
        have ck := hc k (by omega)
        clear hc
        by_cases h10 : gt l k = 10
        · have h1 : (gt l k == 10) = true := by simp [h10]
          have E := hid (lsc_yes h10)
          clear h10
          go_wp2
          go_round
          case rel => exact ⟨k + 1, by omega, by go_num, by rw [E.out]; go_num, by rw [E.out]; simp⟩
          case measure => simp [intOf]; omega
        · have h1 : (gt l k == 10) = false := by simp [h10]
          have E := hid (lsc_not h10)
          clear h10
          go_wp2
          go_round
          case rel => exact ⟨k + 1, by omega, by go_num, by rw [E.out], by rw [E.out]; go_num⟩
          case measure => simp [intOf]; omega
      · obtain rfl : k = m := by omega
        go_wp2
        go_ret3
        exact ⟨rfl, rfl⟩
  · have e0 : lpB l at_ = false := by simpa [lpB] using h0
    simp only [lpL, lpC, lpE, e0]
    go_enter Try.func47, Try.ntmps47
    go_wp2
    all_goals go_ret3
    all_goals first | omega | exact ⟨rfl, rfl⟩

theorem nx_out {l : List Int} {a j : Nat} (h1 : a ≤ j) (h2 : j ≤ nx l a) (h3 : nx l a ≤ l.length) (he : j = l.length ∨ gt l j = 10) : nx l a = j := by
  rcases he with he | he
  · omega
  · rcases Nat.lt_or_ge j (nx l a) with h | h
    · exact absurd he (nx_no h1 h)
    · omega
theorem nx_in {l : List Int} {a j : Nat} (h1 : j < l.length) (h2 : j ≤ nx l a) (he : gt l j ≠ 10) : j + 1 ≤ nx l a := by
  rcases Nat.lt_or_ge j (nx l a) with h | h
  · omega
  · obtain rfl : j = nx l a := by omega
    exact absurd (nx_at h1) he

set_option maxHeartbeats 2000000 in
theorem rstart_c (a : Option Addr) (c : Nat) (l : List Int) (line : Int) (w : World) (h : Sl w a l) (hline : line ≤ 9223372036854775807) :
    Calls Try.prog 48 #[.slice a l.length c, .int .i64 line] w fun e w' => e = .returned (.tuple #[.int .i64 (lsV l line), .int .i64 (lsE l line)]) ∧ w = w' := by
  have hl := h.len
  by_cases h0 : 0 ≤ line
  · obtain ⟨K, rfl⟩ := Int.eq_ofNat_of_zero_le h0
    clear h0
    go_enter Try.func48, Try.ntmps48
    go_wp2
    go_loop [1, 6] (fun nv fv => ∃ r p : Nat, r ≤ K ∧ nv = .int .i64 r ∧ fv = .int .i64 p ∧ Hid (lst l (K - r) = some p)) (fun n _ => (intOf n).toNat)
    case atStart => exact ⟨K, 0, Nat.le_refl _, rfl, rfl, by unfold Hid; rw [Nat.sub_self]; rfl⟩
    case round =>
      obtain ⟨r, p, hr, rfl, rfl, hp⟩ := hrel
      have hpl := lst_le hp.out
      have hnl := nx_le hpl
      by_cases hr0 : 0 < r
      · have h1 : decide (0 < r) = true := by simpa using hr0
        go_wp2
        go_loop [6] (fun v => ∃ j : Nat, p ≤ j ∧ j ≤ nx l p ∧ v = .int .i64 j) (fun v => l.length - (intOf v).toNat)
        case atStart => exact ⟨p, Nat.le_refl _, nx_ge _ _, rfl⟩
        case round =>
          obtain ⟨j, hj1, hj2, rfl⟩ := hrel
          by_cases hjl : j < l.length
          · obtain ⟨b, o, rfl, hc⟩ := h.at (i := j) hjl
            have ck := hc j hjl
            clear hc
            by_cases h10 : gt l j = 10
            · have h2 : (gt l j != 10) = false := by simp [h10]
              have hx := nx_out hj1 hj2 hnl (.inr h10)
              have h3 : ((j : Int) == l.length) = false := by simp; omega
              have Hx := hid hx
              clear h10 hx
              go_wp2
              go_round
              case rel =>
                refine ⟨r - 1, j + 1, by omega, by go_num, by go_num, ?_⟩
                have := lst_succ hp.out
                rw [Hx.out, if_pos hjl] at this
                unfold Hid; rw [show K - (r - 1) = K - r + 1 from by omega]; exact this
              case measure => simp [intOf]; omega
            · have h2 : (gt l j != 10) = true := by simp [h10]
              have hx := nx_in hjl hj2 h10
              clear h10
              go_wp2
              go_round
              case rel => exact ⟨j + 1, by omega, hx, by go_num⟩
              case measure => simp [intOf]; omega
          · obtain rfl : j = l.length := by omega
            have hx := hid (nx_out hj1 hj2 hnl (.inl rfl))
            go_wp2
            go_ret2
            have e0 : lin l K = none := by
              rw [lin_nat]
              refine lst_none_le (k := K - r + 1) ?_ (by omega)
              rw [lst_succ hp.out, hx.out, if_neg (by omega)]
            exact ⟨ret_ii (by simp [lsV, e0]) (by simp [lsE, e0]), rfl⟩
      · obtain rfl : r = 0 := by omega
        go_wp2
        go_ret2
        have e0 : lin l K = some p := by rw [lin_nat]; exact hp.out
        exact ⟨ret_ii (by simp [lsV, e0]) (by simp [lsE, e0]), rfl⟩
  · have e0 : lin l line = none := lin_neg (by omega)
    have e1 : lsV l line = 0 := by simp [lsV, e0]
    have e2 : lsE l line = 2 := by simp [lsE, e0]
    rw [e1, e2]
    clear e0 e1 e2
    go_enter Try.func48, Try.ntmps48
    go_wp2
    go_ret2
    exact ⟨rfl, rfl⟩

set_option maxHeartbeats 1000000 in
theorem rwidth_c (a : Option Addr) (c : Nat) (l : List Int) (line : Int) (w : World) (h : Sl w a l) (hline : line ≤ 9223372036854775807) :
    Calls Try.prog 49 #[.slice a l.length c, .int .i64 line] w fun e w' => e = .returned (.tuple #[.int .i64 (lwV l line), .int .i64 (lsE l line)]) ∧ w = w' := by
  have hl := h.len
  cases hf : lin l line with
  | none =>
    have e1 : lwV l line = 0 := by simp [lwV, hf]
    have e2 : lsE l line = 2 := by simp [lsE, hf]
    rw [e1, e2]
    have E2 := hid e2
    clear e1 e2 hf
    go_enter Try.func49, Try.ntmps49
    go_wp2_with (go_at_call 48; (with_reducible refine (rstart_c a c l line w h hline).mono ?_); rw [E2.out]; rintro e w' ⟨rfl, rfl⟩)
    go_ret2
    exact ⟨rfl, rfl⟩
  | some f =>
    have e1 : lwV l line = nx l f - f := by simp [lwV, hf]
    have e2 : lsE l line = 0 := by simp [lsE, hf]
    have e3 : lsV l line = f := by simp [lsV, hf]
    rw [e1, e2]
    have hn := lin_len hf
    have E2 := hid e2
    have E3 := hid e3
    clear e1 e2 e3 hf
    go_enter Try.func49, Try.ntmps49
    go_wp2_with (go_at_call 48; (with_reducible refine (rstart_c a c l line w h hline).mono ?_); rw [E2.out, E3.out]; rintro e w' ⟨rfl, rfl⟩)
    go_loop [8] (fun v => ∃ j : Nat, f + j ≤ nx l f ∧ v = .int .i64 j) (fun v => l.length - (intOf v).toNat)
    case atStart => exact ⟨0, by omega, rfl⟩
    case round =>
      obtain ⟨j, hj2, rfl⟩ := hrel
      by_cases hjl : f + j < l.length
      · obtain ⟨b, o, rfl, hc⟩ := h.at (i := f + j) hjl
        have ck := hc (f + j) hjl
        clear hc
        by_cases h10 : gt l (f + j) = 10
        · have h2 : (gt l (f + j) != 10) = false := by simp [h10]
          have hx := nx_out (by omega) hj2 hn.2 (.inr h10)
          clear h10
          go_wp2
          go_ret2
          exact ⟨ret_ii (by omega) rfl, rfl⟩
        · have h2 : (gt l (f + j) != 10) = true := by simp [h10]
          have hx := nx_in hjl hj2 h10
          clear h10
          go_wp2
          go_round
          case rel => exact ⟨j + 1, by omega, by go_num⟩
          case measure => simp [intOf]; omega
      · have hx := nx_out (by omega) hj2 hn.2 (.inl (by omega))
        go_wp2
        go_ret2
        exact ⟨ret_ii (by omega) rfl, rfl⟩

set_option maxHeartbeats 1000000 in
theorem roffset_c (a : Option Addr) (c : Nat) (l : List Int) (line col : Int) (w : World) (h : Sl w a l) (hline : line ≤ 9223372036854775807) (hcol : -9223372036854775808 ≤ col ∧ col ≤ 9223372036854775807) :
    Calls Try.prog 50 #[.slice a l.length c, .int .i64 line, .int .i64 col] w fun e w' => e = .returned (.tuple #[.int .i64 (loV l line col), .int .i64 (loE l line col)]) ∧ w = w' := by
  have hl := h.len
  cases hf : lin l line with
  | none =>
    have e0 : loB l line col = false := by simp [loB, hf]
    have e1 : loV l line col = 0 := by simp [loV, e0]
    have e2 : loE l line col = 2 := by simp [loE, e0]
    have e3 : lsE l line = 2 := by simp [lsE, hf]
    rw [e1, e2]
    have E3 := hid e3
    clear e0 e1 e2 e3 hf
    go_enter Try.func50, Try.ntmps50
    go_wp2_with (go_at_call 49; (with_reducible refine (rwidth_c a c l line w h hline).mono ?_); rw [E3.out]; rintro e w' ⟨rfl, rfl⟩)
    go_ret2
    exact ⟨rfl, rfl⟩
  | some f =>
    have hn := lin_len hf
    have e0 : loB l line col = decide (0 ≤ col ∧ col ≤ ((nx l f - f : Nat) : Int)) := by simp [loB, hf, lwV]
    have e3 : lsV l line = f := by simp [lsV, hf]
    have e4 : lsE l line = 0 := by simp [lsE, hf]
    have e5 : lwV l line = nx l f - f := by simp [lwV, hf]
    have e1 : loV l line col = if 0 ≤ col ∧ col ≤ ((nx l f - f : Nat) : Int) then (f : Int) + col else 0 := by simp only [loV, e0, e3, decide_eq_true_eq]
    have e2 : loE l line col = if 0 ≤ col ∧ col ≤ ((nx l f - f : Nat) : Int) then 0 else 2 := by simp only [loE, e0, decide_eq_true_eq]
    rw [e1, e2]
    have E3 := hid e3
    have E4 := hid e4
    generalize hm : nx l f - f = m at e5 ⊢
    have E5 := hid e5
    clear e0 e1 e2 e3 e4 e5 hf
    by_cases h0 : 0 ≤ col ∧ col ≤ (m : Int)
    · rw [if_pos h0, if_pos h0]
      obtain ⟨k, rfl⟩ := Int.eq_ofNat_of_zero_le h0.1
      have hk : k ≤ m := by omega
      clear h0
      go_enter Try.func50, Try.ntmps50
      go_wp2_with (first | (go_at_call 49; (with_reducible refine (rwidth_c a c l line w h hline).mono ?_); rw [E4.out, E5.out]; rintro e w' ⟨rfl, rfl⟩) | (go_at_call 48; (with_reducible refine (rstart_c a c l line w h hline).mono ?_); rw [E4.out, E3.out]; rintro e w' ⟨rfl, rfl⟩))
      all_goals go_ret2
      all_goals first | omega | exact ⟨ret_ii (by omega) rfl, rfl⟩
    · rw [if_neg h0, if_neg h0]
      go_enter Try.func50, Try.ntmps50
      go_wp2_with (first | (go_at_call 49; (with_reducible refine (rwidth_c a c l line w h hline).mono ?_); rw [E4.out, E5.out]; rintro e w' ⟨rfl, rfl⟩) | (go_at_call 48; (with_reducible refine (rstart_c a c l line w h hline).mono ?_); rw [E4.out, E3.out]; rintro e w' ⟨rfl, rfl⟩))
      all_goals go_ret2
      all_goals first | omega | exact ⟨rfl, rfl⟩
end Go.Proofs.Ytcekoifbgfeahaa
