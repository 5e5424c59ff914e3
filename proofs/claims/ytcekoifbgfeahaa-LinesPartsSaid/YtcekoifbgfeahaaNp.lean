/- Contracts: Count and Place of package lines and of the document's own. -/
import Derived.Test.YtcekoifbgfeahaaNf
namespace Go.Proofs.Ytcekoifbgfeahaa
open Go.RowKit

theorem lsc_yes {l : List Int} {k : Nat} (h : gt l k = 10) : lsc l (k + 1) = ((lsc l k).1 + 1, k + 1) := by simp only [lsc, h, if_true]
theorem lsc_not {l : List Int} {k : Nat} (h : gt l k ≠ 10) : lsc l (k + 1) = lsc l k := by simp only [lsc, h, if_false]

set_option maxHeartbeats 1000000 in
theorem count_c (a : Option Addr) (c : Nat) (l : List Int) (w : World) (h : Sl w a l) :
    Calls Try.prog 27 #[.slice a l.length c] w fun e w' => e = .returned (.int .i64 (lcnt l)) ∧ w = w' := by
  have hl := h.len
  go_enter Try.func27, Try.ntmps27
  go_wp2
  go_loop [3, 8] (fun nv i => ∃ k : Nat, k ≤ l.length ∧ i = .int .i64 k ∧ nv = .int .i64 ((lsc l k).1 + 1 : Nat)) (fun _ i => l.length - (intOf i).toNat)
  case atStart => exact ⟨0, Nat.zero_le _, rfl, rfl⟩
  case round =>
    obtain ⟨k, hk, rfl, rfl⟩ := hrel
    have hle := lsc_le l k
    by_cases hlt : k < l.length
    · obtain ⟨b, o, rfl, hc⟩ := h.at hlt
      have ck := hc k hlt
      clear hc
      by_cases h10 : gt l k = 10
      · have h1 : (gt l k == 10) = true := by simp [h10]
        have E := hid (lsc_yes h10)
        clear h10
        go_wp2
        go_round
        case rel => exact ⟨k + 1, by omega, by go_num, by rw [E.out]; go_num⟩
        case measure => simp [intOf]; omega
      · have h1 : (gt l k == 10) = false := by simp [h10]
        have E := hid (lsc_not h10)
        clear h10
        go_wp2
        go_round
        case rel => exact ⟨k + 1, by omega, by go_num, by rw [E.out]⟩
        case measure => simp [intOf]; omega
    · obtain rfl : k = l.length := by omega
      go_wp2
      go_ret
      exact ⟨rfl, rfl⟩
set_option maxHeartbeats 1000000 in
theorem rcount_c (a : Option Addr) (c : Nat) (l : List Int) (w : World) (h : Sl w a l) :
    Calls Try.prog 17 #[.slice a l.length c] w fun e w' => e = .returned (.int .i64 (lcnt l)) ∧ w = w' := by
  have hl := h.len
  go_enter Try.func17, Try.ntmps17
  go_wp2
  go_loop [3, 4] (fun nv i => ∃ k : Nat, k ≤ l.length ∧ i = .int .i64 k ∧ nv = .int .i64 ((lsc l k).1 + 1 : Nat)) (fun _ i => l.length - (intOf i).toNat)
  case atStart => exact ⟨0, Nat.zero_le _, rfl, rfl⟩
  case round =>
    obtain ⟨k, hk, rfl, rfl⟩ := hrel
    have hle := lsc_le l k
    by_cases hlt : k < l.length
    · obtain ⟨b, o, rfl, hc⟩ := h.at hlt
      have ck := hc k hlt
      clear hc
      by_cases h10 : gt l k = 10
      · have h1 : (gt l k == 10) = true := by simp [h10]
        have E := hid (lsc_yes h10)
        clear h10
        go_wp2
        go_round
        case rel => exact ⟨k + 1, by omega, by go_num, by rw [E.out]; go_num⟩
        case measure => simp [intOf]; omega
      · have h1 : (gt l k == 10) = false := by simp [h10]
        have E := hid (lsc_not h10)
        clear h10
        go_wp2
        go_round
        case rel => exact ⟨k + 1, by omega, by go_num, by rw [E.out]⟩
        case measure => simp [intOf]; omega
    · obtain rfl : k = l.length := by omega
      go_wp2
      go_ret
      exact ⟨rfl, rfl⟩

def lpB (l : List Int) (at_ : Int) : Bool := decide (0 ≤ at_ ∧ at_ ≤ l.length)
def lpL (l : List Int) (at_ : Int) : Int := if lpB l at_ = true then (lsc l at_.toNat).1 else 0
def lpC (l : List Int) (at_ : Int) : Int := if lpB l at_ = true then at_ - (lsc l at_.toNat).2 else 0
def lpE (l : List Int) (at_ : Int) : Int := if lpB l at_ = true then 0 else 2

theorem lsc_take (l : List Int) {m k : Nat} (h : k ≤ m) : lsc (l.take m) k = lsc l k := by
  induction k with
  | zero => rfl
  | succ k ih => simp only [lsc, ih (by omega), gt_take (show k < m by omega)]

set_option maxHeartbeats 1000000 in
theorem place_c (a : Option Addr) (c : Nat) (l : List Int) (at_ : Int) (w : World) (h : Sl w a l) (hlc : l.length ≤ c) :
    Calls Try.prog 22 #[.slice a l.length c, .int .i64 at_] w fun e w' => e = .returned (.tuple #[.int .i64 (lpL l at_), .int .i64 (lpC l at_), .int .i64 (lpE l at_)]) ∧ w = w' := by
  have hl := h.len
  by_cases h0 : 0 ≤ at_ ∧ at_ ≤ l.length
  · have e0 : lpB l at_ = true := by simp [lpB, h0]
    obtain ⟨m, rfl⟩ := Int.eq_ofNat_of_zero_le h0.1
    have hm : m ≤ l.length := by omega
    simp only [lpL, lpC, lpE, e0, if_true, Int.toNat_natCast]
    clear e0 h0
    obtain ⟨a', c', D, HD, sD, hDc, hrun⟩ := slice_to h m c (by omega) hlc
    have hDl : D.length = m := by rw [HD.out, List.length_take]; omega
    have HL : Hid (∀ k, k ≤ m → lsc D k = lsc l k) := fun k hk => by rw [HD.out]; exact lsc_take l hk
    rw [hDl] at hrun hDc
    go_enter Try.func22, Try.ntmps22
    go_wp2
    go_loop [7, 8, 23] (fun nv fv i => ∃ k : Nat, k ≤ m ∧ i = .int .i64 k ∧ nv = .int .i64 (lsc D k).1 ∧ fv = .int .i64 (lsc D k).2) (fun _ _ i => m - (intOf i).toNat)
    case atStart => exact ⟨0, Nat.zero_le _, rfl, rfl, rfl⟩
    case round =>
      obtain ⟨k, hk, rfl, rfl, rfl⟩ := hrel
      have hle := lsc_le D k
      by_cases hlt : k < m
      · obtain ⟨b, o, rfl, hc⟩ := sD.at (i := k) (by omega)
        have ck := hc k (by omega)
        clear hc
        by_cases h10 : gt D k = 10
        · have h1 : (gt D k == 10) = true := by simp [h10]
          have E := hid (lsc_yes h10)
          clear h10
          go_wp2
          go_round
          case rel => exact ⟨k + 1, by omega, by go_num, by rw [E.out]; go_num, by rw [E.out]; go_num⟩
          case measure => simp [intOf]; omega
        · have h1 : (gt D k == 10) = false := by simp [h10]
          have E := hid (lsc_not h10)
          clear h10
          go_wp2
          go_round
          case rel => exact ⟨k + 1, by omega, by go_num, by rw [E.out], by rw [E.out]⟩
          case measure => simp [intOf]; omega
      · obtain rfl : k = m := by omega
        go_wp2
        go_ret3
        exact ⟨ret_iii (by rw [HL.out _ (Nat.le_refl _)]) (by rw [HL.out _ (Nat.le_refl _)]) rfl, rfl⟩
  · have e0 : lpB l at_ = false := by simpa [lpB] using h0
    simp only [lpL, lpC, lpE, e0]
    go_enter Try.func22, Try.ntmps22
    go_wp2
    all_goals go_ret3
    all_goals first | omega | exact ⟨rfl, rfl⟩
end Go.Proofs.Ytcekoifbgfeahaa
