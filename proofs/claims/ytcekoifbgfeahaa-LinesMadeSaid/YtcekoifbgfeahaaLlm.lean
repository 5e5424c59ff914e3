/- Layer 4's law: made. -/
import Derived.Test.YtcekoifbgfeahaaLla
import Derived.Test.YtcekoifbgfeahaaTape
namespace Go.Proofs.Ytcekoifbgfeahaa
open Go.RowKit

set_option maxHeartbeats 4000000 in
theorem made_l (a : Option Addr) (c : Nat) (l : List Int) (W : World) (h : I.Sl W a l) :
    Calls Try.prog 5 #[.slice a l.length c] W fun e W' => e = .returned (.bool true) ∧ Below W.heap.size W W' := by
  have Hb := hid (Below.refl W.heap.size W)
  have S := hid (show ∀ w', Below W.heap.size W w' → I.Sl w' a l from fun w' hb => h.bel hb)
  clear h
  go_enter Try.func5, Try.ntmps5
  go_wp2_with fail
  have hb0 : Below W.heap.size W (W.alloc (.cells #[.slice a l.length c, .int .i64 0] 44)) := bal Hb.out _
  refine (text_c W.heap.size a l c 0 30 _ ⟨by simp, by rw [cell_alloc_new]; rfl, by rw [cell_alloc_new]; rfl, by simp, Nat.zero_le _⟩ (hid (fun w' hb => S.out w' (hb0.trans hb))) (by omega)).mono ?_
  rintro e w1 ⟨a1, c1, L, rfl, hL, ho, hb1⟩
  have hx1 := hb0.trans hb1
  have hlc : L.length ≤ c1 := by
    rcases ho.shape with ⟨_, rfl, h0⟩ | ⟨_, _, _, _, h0⟩
    · rw [h0]; simp
    · exact h0
  have T := hid (show ∀ w', Below w1.heap.size w1 w' → Sl w' a1 L from fun w' hb => ho.sl.bel hb)
  have hy1 := hid (Below.refl w1.heap.size w1)
  clear ho hb0 hb1
  go_wp2_with fail
  go_loopw [4] (fun kv wr => ∃ j : Nat, j ≤ L.length + 3 ∧ kv = .int .i64 ((j : Int) - 1) ∧ Below W.heap.size W wr ∧ Below w1.heap.size w1 wr) (fun kv _ => (L.length + 3) - (intOf kv + 1).toNat)
  case atStart => exact ⟨0, by omega, rfl, hx1, hy1.out⟩
  case round =>
    obtain ⟨j, hj, rfl, hb, hc⟩ := hrel
    by_cases hlt : j ≤ L.length + 2
    · go_wp2_with fail
      refine (same_l a1 c1 L _ _ 0 wr (T.out _ hc) hlc (by omega) (by omega) (by omega)).mono ?_
      rintro e w2 ⟨rfl, hb2⟩
      have hb3 := bthen hb hb2
      have hc3 := bthen hc hb2
      clear hb2
      go_wp2_with fail
      refine (same_l a1 c1 L _ 0 _ w2 (T.out _ hc3) hlc (by omega) (by omega) (by omega)).mono ?_
      rintro e w4 ⟨rfl, hb2⟩
      have hb5 := bthen hb3 hb2
      have hc5 := bthen hc3 hb2
      clear hb2
      go_wp2_with fail
      refine (same_l a1 c1 L _ 1 _ w4 (T.out _ hc5) hlc (by omega) (by omega) (by omega)).mono ?_
      rintro e w6 ⟨rfl, hb2⟩
      have hb7 := bthen hb5 hb2
      have hc7 := bthen hc5 hb2
      clear hb2
      go_wp2_with fail
      go_round
      case rel => exact ⟨j + 1, by omega, by go_num, hb7, hc7⟩
      case measure => simp [intOf]; omega
    · go_wp2_with fail
      refine (known_l wr).mono ?_
      rintro e w5 ⟨rfl, hb5⟩
      have hx5 := bthen hb hb5
      go_wp2
      go_ret
      exact ⟨rfl, hx5⟩
end Go.Proofs.Ytcekoifbgfeahaa
