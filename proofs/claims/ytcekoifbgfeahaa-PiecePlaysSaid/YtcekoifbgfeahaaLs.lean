/- Layer 3's law: samePieces, same. -/
import Derived.Test.YtcekoifbgfeahaaLk
namespace Go.Proofs.Ytcekoifbgfeahaa
open Go.RowKit

set_option maxHeartbeats 1000000 in
theorem samePieces_c (a1 a2 : Option Addr) (c1 c2 : Nat) (l : List Pc) (w : World) (h1 : PSl w a1 l) (h2 : PSl w a2 l) :
    Calls Try.prog 41 #[.slice a1 l.length c1, .slice a2 l.length c2] w fun e w' => e = .returned (.bool true) ∧ ∃ n, w' = w.drewN n := by
  have hl := h1.len
  go_enter Try.func41, Try.ntmps41
  go_wp2
  go_loopw [13] (fun i wr => ∃ k : Nat, k ≤ l.length ∧ i = .int .i64 k ∧ ∃ n, wr = w.drewN n) (fun i _ => l.length - (intOf i).toNat)
  case atStart => exact ⟨0, Nat.zero_le _, rfl, 0, rfl⟩
  case round =>
    obtain ⟨k, hk, rfl, n, rfl⟩ := hrel
    by_cases hlt : k < l.length
    · obtain ⟨b1, o1, rfl, hc1⟩ := h1.at hlt
      obtain ⟨b2, o2, rfl, hc2⟩ := h2.at hlt
      obtain ⟨x0, x1, x2⟩ := hc1 k hlt
      obtain ⟨y0, y1, y2⟩ := hc2 k hlt
      clear hc1 hc2
      go_wp2
      go_quiet (fail)
      go_wp2
      go_round
      case rel => exact ⟨k + 1, by omega, by go_num, by first | exact ⟨_, rfl⟩ | exact drewN_ex _ _ _ | exact drewN_ex2 _ _ _ _⟩
      case measure => simp [intOf]; omega
    · go_wp2
      go_ret
      exact ⟨rfl, _, rfl⟩
theorem same_true (a1 a2 : Option Addr) (c1 c2 : Nat) (l : List Int) (w : World) (h1 : Sl w a1 l) (h2 : Sl w a2 l) :
    Calls Try.prog 30 #[.slice a1 l.length c1, .slice a2 l.length c2] w fun e w' => e = .returned (.bool true) ∧ ∃ n, w' = w.drewN n := by
  have := rsame_c a1 a2 c1 c2 l l w h1 h2
  rwa [eqM_self] at this
theorem same_b (a1 a2 : Option Addr) (c1 c2 : Nat) (l : List Int) (w : World) (h1 : Sl w a1 l) (h2 : Sl w a2 l) :
    Calls Try.prog 30 #[.slice a1 l.length c1, .slice a2 l.length c2] w fun e w' => e = .returned (.bool true) ∧ Below w.heap.size w w' := by
  refine (same_true a1 a2 c1 c2 l w h1 h2).mono ?_
  rintro e w' ⟨rfl, n, rfl⟩
  exact ⟨rfl, bdrewN (Below.refl _ _) _⟩
theorem samePieces_b (a1 a2 : Option Addr) (c1 c2 : Nat) (l : List Pc) (w : World) (h1 : PSl w a1 l) (h2 : PSl w a2 l) :
    Calls Try.prog 41 #[.slice a1 l.length c1, .slice a2 l.length c2] w fun e w' => e = .returned (.bool true) ∧ Below w.heap.size w w' := by
  refine (samePieces_c a1 a2 c1 c2 l w h1 h2).mono ?_
  rintro e w' ⟨rfl, n, rfl⟩
  exact ⟨rfl, bdrewN (Below.refl _ _) _⟩
end Go.Proofs.Ytcekoifbgfeahaa
