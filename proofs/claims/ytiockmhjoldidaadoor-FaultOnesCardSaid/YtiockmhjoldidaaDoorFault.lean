/- Package fault, by contracts: build, Trip, Asks, Depth. -/
import Derived.Test.YtiockmhjoldidaaDoorFaultI
import Derived.Test.YtiockmhjoldidaaDoorInts
namespace Go.Proofs.YtiockmhjoldidaaDoor
open Go.RowKit

theorem ch_snoc (c n : Int) (l : List Int) : ch c (l ++ [n]).reverse = .iface 43 (.agg #[ch c l.reverse, .int .i64 n]) := by
  rw [List.reverse_append]; rfl

set_option maxHeartbeats 1000000 in
theorem build_nil (s : Value) (w : World) : Calls Tryd.prog 13 #[.int .i64 0, s] w fun e w' => e = .returned .nilIface ∧ w = w' := by
  go_enter Tryd.func13, Tryd.ntmps13
  go_wp2
  go_ret
  exact ⟨rfl, rfl⟩
set_option maxHeartbeats 1000000 in
theorem build_c (c : Int) (a : Option Addr) (k : Nat) (l : List Int) (w : World) (hc : (c == 0) = false) (hs : I.Sl w a l) :
    Calls Tryd.prog 13 #[.int .i64 c, .slice a l.length k] w fun e w' => e = .returned (ch c l.reverse) ∧ w = w' := by
  have hl := hs.len
  go_enter Tryd.func13, Tryd.ntmps13
  go_wp2
  go_loop [5, 14] (fun v i => ∃ k : Nat, k ≤ l.length ∧ i = .int .i64 k ∧ v = ch c (l.take k).reverse) (fun _ i => l.length - (intOf i).toNat)
  case atStart => exact ⟨0, by omega, rfl, rfl⟩
  case round =>
    obtain ⟨k, hk, rfl, rfl⟩ := hrel
    by_cases hlt : k < l.length
    · obtain ⟨b, o, rfl, hcell⟩ := hs.at hlt
      have ck := hcell k hlt
      clear hcell
      obtain ⟨T, x, hx⟩ := ch_iface c (l.take k).reverse
      have hX := hid hx
      rw [hx]
      clear hx
      go_wp2
      go_round
      case rel => exact ⟨k + 1, by omega, by go_num, by rw [take_succ hlt, ch_snoc, hX.out]⟩
      case measure => simp [intOf]; omega
    · have hke : l.take k = l := List.take_of_length_le (by omega)
      go_wp2
      go_ret
      exact ⟨rfl, rfl⟩

/-! ### Depth -/
theorem depth_nil (s : Value) (w : World) : Calls Tryd.prog 9 #[.int .i64 0, s] w fun e w' => e = .returned (.int .i64 0) ∧ w = w' := by
  go_enter Tryd.func9, Tryd.ntmps9
  go_wp2_with (first | (go_at_call 13; (with_reducible refine (build_nil _ _).mono ?_); rintro e w' ⟨rfl, rfl⟩) | (go_at_call 17; (with_reducible refine (unwrap_nil _).mono ?_); rintro e w' ⟨rfl, rfl⟩))
  go_loop [5, 6] (fun n v => n = .int .i64 0 ∧ v = .nilIface) (fun _ _ => 0)
  case atStart => exact ⟨rfl, rfl⟩
  case round =>
    obtain ⟨rfl, rfl⟩ := hrel
    go_wp2
    go_ret
    exact ⟨rfl, rfl⟩

/-- what errors.Unwrap leaves -/
def un (c : Int) : List Int → Value
  | [] => .nilIface
  | _ :: r => ch c r
def Int64 (w : World) (n : Int) (e : Ending) (w' : World) : Prop := e = .returned (.int .i64 n) ∧ Below w.heap.size w w'
theorem unwrap_c (c : Int) (r : List Int) (w : World) : Calls Tryd.prog 17 #[ch c r] w fun e w' => e = .returned (un c r) ∧ Below w.heap.size w w' := by
  cases r with
  | nil => exact (unwrap_n _ _).mono fun e w' ⟨h1, h2⟩ => ⟨h1, h2 ▸ Below.refl _ _⟩
  | cons n r => exact unwrap_w c n r w

set_option maxHeartbeats 1000000 in
theorem depth_c (c : Int) (a : Option Addr) (k : Nat) (l : List Int) (w : World) (hc : (c == 0) = false) (hs : I.Sl w a l) :
    Calls Tryd.prog 9 #[.int .i64 c, .slice a l.length k] w (Int64 w l.length) := by
  have hl := hs.len
  have hr : l.reverse.length = l.length := by simp
  have Hr := hid hr
  have hlr : l.reverse.length ≤ 17592186044416 := by omega
  clear hr
  go_enter Tryd.func9, Tryd.ntmps9
  go_wp2_with fail
  refine (build_c _ _ _ _ _ hc hs).mono ?_
  rintro e w' ⟨rfl, rfl⟩
  generalize l.reverse = r at Hr hlr ⊢
  go_wp2_with fail
  refine (unwrap_c _ _ _).mono ?_
  rintro e w1 ⟨rfl, hb1⟩
  go_wp2
  go_loopg [5, 6] r.length (fun g n v wr => ∃ (k : Nat) (r' : List Int), r'.length = g ∧ k + r'.length = r.length ∧ n = .int .i64 k ∧ v = un c r' ∧ Below w.heap.size w wr)
  case atStart => exact ⟨0, r, rfl, by omega, rfl, rfl, hb1⟩
  case round =>
    obtain ⟨j, r', hg, hj, rfl, rfl, hb⟩ := hrel
    cases r' with
    | nil =>
      simp only [List.length_nil] at hj
      have Hj := hid hj
      clear hj
      rw [show un c [] = .nilIface from rfl]
      go_wp2
      go_ret
      exact ⟨by rw [← Hr.out, ← Hj.out]; rfl, hb⟩
    | cons n r'' =>
      simp only [List.length_cons] at hj hg
      obtain ⟨T, x, hx⟩ := ch_iface c r''
      have hX := hid hx
      have hun := unwrap_c c r''
      have hu : un c (n :: r'') = .iface T x := hx
      rw [hx] at hun
      have Hun := hid hun
      rw [hu]
      have h1 : j + 1 ≤ 17592186044416 := by omega
      have hgm : r''.length < gk := by omega
      have hj2 : j + 1 + r''.length = r.length := by omega
      have Hj2 := hid hj2
      have Hg := hid hgm
      clear hun hu hx hj hg hj2 hgm
      go_wp2_with fail
      refine (Hun.out _).mono ?_
      rintro e w2 ⟨rfl, hb2⟩
      go_wp2
      go_roundg r''.length
      case measure => exact Hg.out
      case rel => exact ⟨j + 1, r'', rfl, Hj2.out, by go_num, rfl, bthen hb hb2⟩
end Go.Proofs.YtiockmhjoldidaaDoor
