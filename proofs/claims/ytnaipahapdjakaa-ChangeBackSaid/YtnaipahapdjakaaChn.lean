/- Package change: commonPrefix, commonSuffix. -/
import Derived.Test.YtnaipahapdjakaaChj
namespace Go.Proofs.Ytnaipahapdjakaa
open Go.RowKit

set_option maxHeartbeats 1000000 in
theorem prefix_c (a1 a2 : Option Addr) (c1 c2 : Nat) (s t : List Int) (w : World) (h1 : Sl w a1 s) (h2 : Sl w a2 t) :
    Calls Try.prog 40 #[.slice a1 s.length c1, .slice a2 t.length c2] w fun e w' => e = .returned (.int .i64 (cpl s t : Nat)) ∧ ∃ n, w' = w.drewN n := by
  have hl1 := h1.len
  have hl2 := h2.len
  go_enter Try.func40, Try.ntmps40
  go_wp2
  go_loopw [5] (fun i wr => ∃ k : Nat, k ≤ s.length ∧ k ≤ t.length ∧ i = .int .i64 k ∧ Hid (s.take k = t.take k) ∧ ∃ n, wr = w.drewN n) (fun i _ => s.length - (intOf i).toNat)
  case atStart => exact ⟨0, Nat.zero_le _, Nat.zero_le _, rfl, hid (by simp), 0, rfl⟩
  case round =>
    obtain ⟨k, hk1, hk2, rfl, hm, n, rfl⟩ := hrel
    by_cases hlt : k < s.length
    · have hd1 : decide (k < s.length) = true := by simpa using hlt
      by_cases hlt2 : k < t.length
      · have hd2 : decide (k < t.length) = true := by simpa using hlt2
        obtain ⟨b1, o1, rfl, hc1⟩ := h1.at hlt
        obtain ⟨b2, o2, rfl, hc2⟩ := h2.at hlt2
        have c1k := hc1 (k) (by omega)
        have c2k := hc2 (k) (by omega)
        have Hts : Hid (s.take (k + 1) = s.take k ++ [gt s k] ∧ t.take (k + 1) = t.take k ++ [gt t k]) := ⟨take_succ hlt, take_succ hlt2⟩
        have Hg : Hid (gt s k ≠ gt t k → gt s k ≠ gt t k) := fun h => h
        clear hc1 hc2
        cases hne : (gt s k == gt t k)
        · have Hne : Hid (gt s k ≠ gt t k) := hid (by simpa using hne)
          go_wp2
          go_quiet (fail)
          go_wp2
          go_ret
          exact ⟨ret_int (by rw [cpl_eq (n := k) (by (try simp); omega) (by (try simp); omega) hm.out (.inr (.inr (Hg.out Hne.out)))]), by first | exact ⟨_, rfl⟩ | exact drewN_ex _ _ _ | exact drewN_ex2 _ _ _ _⟩
        · have Hne : Hid (gt s k = gt t k) := hid (by simpa using hne)
          go_wp2
          go_quiet (fail)
          go_wp2
          go_roundw
          case rel => exact ⟨k + 1, by omega, by omega, by go_num, hid (by rw [Hts.out.1, Hts.out.2, hm.out, Hne.out]), by first | exact ⟨_, rfl⟩ | exact drewN_ex _ _ _ | exact drewN_ex2 _ _ _ _⟩
          case measure => simp [intOf]; omega
      · have hd2 : decide (k < t.length) = false := by simpa using hlt2
        go_wp2
        go_quiet (fail)
        go_wp2
        go_ret
        exact ⟨ret_int (by rw [cpl_eq (n := k) (by (try simp); omega) (by (try simp); omega) hm.out (.inr (.inl (by (try simp); omega)))]), by first | exact ⟨_, rfl⟩ | exact drewN_ex _ _ _ | exact drewN_ex2 _ _ _ _⟩
    · have hd1 : decide (k < s.length) = false := by simpa using hlt
      go_wp2
      go_quiet (fail)
      go_wp2
      go_ret
      exact ⟨ret_int (by rw [cpl_eq (n := k) (by (try simp); omega) (by (try simp); omega) hm.out (.inl (by (try simp); omega))]), by first | exact ⟨_, rfl⟩ | exact drewN_ex _ _ _ | exact drewN_ex2 _ _ _ _⟩
set_option maxHeartbeats 1000000 in
theorem suffix_c (a1 a2 : Option Addr) (c1 c2 : Nat) (s t : List Int) (w : World) (h1 : Sl w a1 s) (h2 : Sl w a2 t) :
    Calls Try.prog 41 #[.slice a1 s.length c1, .slice a2 t.length c2] w fun e w' => e = .returned (.int .i64 (cpl s.reverse t.reverse : Nat)) ∧ ∃ n, w' = w.drewN n := by
  have hl1 := h1.len
  have hl2 := h2.len
  go_enter Try.func41, Try.ntmps41
  go_wp2
  go_loopw [5] (fun i wr => ∃ k : Nat, k ≤ s.length ∧ k ≤ t.length ∧ i = .int .i64 k ∧ Hid (s.reverse.take k = t.reverse.take k) ∧ ∃ n, wr = w.drewN n) (fun i _ => s.length - (intOf i).toNat)
  case atStart => exact ⟨0, Nat.zero_le _, Nat.zero_le _, rfl, hid (by simp), 0, rfl⟩
  case round =>
    obtain ⟨k, hk1, hk2, rfl, hm, n, rfl⟩ := hrel
    by_cases hlt : k < s.length
    · have hd1 : decide (k < s.length) = true := by simpa using hlt
      by_cases hlt2 : k < t.length
      · have hd2 : decide (k < t.length) = true := by simpa using hlt2
        obtain ⟨b1, o1, rfl, hc1⟩ := h1.at hlt
        obtain ⟨b2, o2, rfl, hc2⟩ := h2.at hlt2
        have c1k := hc1 (s.length - 1 - k) (by omega)
        have c2k := hc2 (t.length - 1 - k) (by omega)
        have e1 : ((s.length - 1 - k : Nat) : Int) = (s.length : Int) - 1 - k := by omega
        have e2 : ((t.length - 1 - k : Nat) : Int) = (t.length : Int) - 1 - k := by omega
        have g1 : gt s.reverse k = gt s (s.length - 1 - k) := gt_rev hlt
        have g2 : gt t.reverse k = gt t (t.length - 1 - k) := gt_rev hlt2
        have Hts : Hid (s.reverse.take (k + 1) = s.reverse.take k ++ [gt s (s.length - 1 - k)] ∧ t.reverse.take (k + 1) = t.reverse.take k ++ [gt t (t.length - 1 - k)]) := ⟨by rw [← g1]; exact take_succ (by simpa using hlt), by rw [← g2]; exact take_succ (by simpa using hlt2)⟩
        have Hg : Hid (gt s (s.length - 1 - k) ≠ gt t (t.length - 1 - k) → gt s.reverse k ≠ gt t.reverse k) := fun h => by rw [g1, g2]; exact h
        clear g1 g2
        obtain ⟨p, hp⟩ : ∃ p, s.length - 1 - k = p := ⟨_, rfl⟩
        obtain ⟨q, hq⟩ : ∃ q, t.length - 1 - k = q := ⟨_, rfl⟩
        rw [hp] at c1k e1 Hts Hg
        rw [hq] at c2k e2 Hts Hg
        have hpl : p < s.length := by omega
        have hql : q < t.length := by omega
        clear hp hq
        have hw1 : IntKind.i64.wrap (IntKind.i64.wrap ((s.length : Int) - 1) - (k : Int)) = (p : Int) := by
          rw [show IntKind.i64.wrap ((s.length : Int) - 1) = (s.length : Int) - 1 by rw [IntKind.wrap_i64]; omega, IntKind.wrap_i64]; omega
        have hw2 : IntKind.i64.wrap (IntKind.i64.wrap ((t.length : Int) - 1) - (k : Int)) = (q : Int) := by
          rw [show IntKind.i64.wrap ((t.length : Int) - 1) = (t.length : Int) - 1 by rw [IntKind.wrap_i64]; omega, IntKind.wrap_i64]; omega
        clear e1 e2
        clear hc1 hc2
        cases hne : (gt s p == gt t q)
        · have Hne : Hid (gt s p ≠ gt t q) := hid (by simpa using hne)
          go_wp2
          go_quiet (fail)
          go_wp2
          go_ret
          exact ⟨ret_int (by rw [cpl_eq (n := k) (by (try simp); omega) (by (try simp); omega) hm.out (.inr (.inr (Hg.out Hne.out)))]), by first | exact ⟨_, rfl⟩ | exact drewN_ex _ _ _ | exact drewN_ex2 _ _ _ _⟩
        · have Hne : Hid (gt s p = gt t q) := hid (by simpa using hne)
          go_wp2
          go_quiet (fail)
          go_wp2
          go_roundw
          case rel => exact ⟨k + 1, by omega, by omega, by go_num, hid (by rw [Hts.out.1, Hts.out.2, hm.out, Hne.out]), by first | exact ⟨_, rfl⟩ | exact drewN_ex _ _ _ | exact drewN_ex2 _ _ _ _⟩
          case measure => simp [intOf]; omega
      · have hd2 : decide (k < t.length) = false := by simpa using hlt2
        go_wp2
        go_quiet (fail)
        go_wp2
        go_ret
        exact ⟨ret_int (by rw [cpl_eq (n := k) (by (try simp); omega) (by (try simp); omega) hm.out (.inr (.inl (by (try simp); omega)))]), by first | exact ⟨_, rfl⟩ | exact drewN_ex _ _ _ | exact drewN_ex2 _ _ _ _⟩
    · have hd1 : decide (k < s.length) = false := by simpa using hlt
      go_wp2
      go_quiet (fail)
      go_wp2
      go_ret
      exact ⟨ret_int (by rw [cpl_eq (n := k) (by (try simp); omega) (by (try simp); omega) hm.out (.inl (by (try simp); omega))]), by first | exact ⟨_, rfl⟩ | exact drewN_ex _ _ _ | exact drewN_ex2 _ _ _ _⟩
end Go.Proofs.Ytnaipahapdjakaa
