/- package standishkeep: SameInts. -/
import Derived.Test.YthkkpcfmifhllaaInts
namespace Go.Proofs.Ythkkpcfmifhllaa
open Go.RowKit

set_option maxHeartbeats 400000 in
theorem sameInts_c (a1 a2 : Option Addr) (c1 c2 : Nat) (l1 l2 : List Int) (w : World) (h1 : I.Sl w a1 l1) (h2 : I.Sl w a2 l2) :
    Calls Try.prog 13 #[.slice a1 l1.length c1, .slice a2 l2.length c2] w fun e w' => e = .returned (.bool (eqM l1 l2)) ∧ ∃ n, w' = w.drewN n := by
  have hl1 := h1.len
  have hl2 := h2.len
  go_enter Try.func13, Try.ntmps13
  by_cases hlen : l1.length = l2.length
  · have hl : ((l1.length : Int) != l2.length) = false := by simp [hlen]
    have Hlen := hid hlen; clear hlen
    go_wp2
    go_loopw [5] (fun i wr => ∃ k : Nat, k ≤ l1.length ∧ i = .int .i64 k ∧ Hid (l1.take k = l2.take k) ∧ ∃ n, wr = w.drewN n) (fun i _ => l1.length - (intOf i).toNat)
    case atStart => exact ⟨0, Nat.zero_le _, rfl, rfl, 0, rfl⟩
    case round =>
      obtain ⟨k, hk, rfl, hm, n, rfl⟩ := hrel
      by_cases hlt : k < l1.length
      · obtain ⟨b1, o1, rfl, hc1⟩ := h1.at hlt
        obtain ⟨b2, o2, rfl, hc2⟩ := h2.at (i := k) (by have := Hlen.out; omega)
        have c1k := hc1 k hlt
        have c2k := hc2 k (by have := Hlen.out; omega)
        have hlt2 : k < l2.length := (by have := Hlen.out; omega)
        have Hts : Hid (l1.take (k + 1) = l1.take k ++ [gt l1 k] ∧ l2.take (k + 1) = l2.take k ++ [gt l2 k]) := ⟨take_succ hlt, take_succ hlt2⟩
        clear hc1 hc2
        go_wp2
        go_quiet (fail)
        go_wp2
        · have hne : (gt l1 k != gt l2 k) = true := by assumption
          go_ret
          exact ⟨ret_bool (by simp [eqM, take_ne hlt hlt2 (by simpa using hne)]), by first | exact ⟨_, rfl⟩ | exact drewN_ex _ _ _ | exact drewN_ex2 _ _ _ _⟩
        · have heq : (gt l1 k != gt l2 k) = false := by assumption
          go_round
          case rel => exact ⟨k + 1, by omega, by go_num, by (unfold Hid at *; rw [Hts.1, Hts.2, hm, show gt l1 k = gt l2 k from by simpa using heq]), _, rfl⟩
          case measure => simp [intOf]; omega
      · go_wp2
        go_ret
        exact ⟨ret_bool (by
          have e1 : l1.take k = l1 := List.take_of_length_le (by omega)
          have e2 : l2.take k = l2 := List.take_of_length_le (by have := Hlen.out; omega)
          unfold Hid at hm; rw [e1, e2] at hm; simp [eqM, hm]), _, rfl⟩
  · have hl : ((l1.length : Int) != l2.length) = true := by simp; omega
    go_wp2
    go_ret
    refine ⟨ret_bool ?_, 0, rfl⟩
    have : l1 ≠ l2 := fun h => hlen (by rw [h])
    simp [eqM, this]
end Go.Proofs.Ythkkpcfmifhllaa
