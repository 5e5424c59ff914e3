/- The walk of TreapPlays. -/
import Derived.Test.YtaondjklclpdkaaTsd
namespace Go.Proofs.Ytaondjklclpdkaa
open Go.RowKit

set_option maxRecDepth 20000 in
set_option maxHeartbeats 20000000 in
theorem plays_w (a : Option Addr) (c : Nat) (l : List Td) (W : World) (h : TSl W a l) (hlen : l.length ≤ 1000000000000000) :
    Calls Try.prog 3 #[.slice a l.length c] W fun e w' => e = .returned (.bool true) ∧ Below W.heap.size W w' := by
  have H := hid h
  clear h
  go_enter Try.func3, Try.ntmps3
  go_wp2_with fail
  refine (one_new (B := W.heap.size) (Nat.le_refl _)).mono ?_
  rintro e w1 ⟨s, rfl, h1, b1⟩
  have T0 := hid (two_new (e := 29) h1 (Below.refl _ _) b1.size)
  have x0 := b1.alloc b1.size (.cells #[.slice none 0 0] 29)
  clear h1
  go_wp2_with fail
  refine (play_c (B := W.heap.size) s w1.heap.size a c l _ T0.out (fun w' hb => H.out.bel (x0.trans hb)) hlen x0.size).mono ?_
  rintro e w2 ⟨rfl, b2⟩
  have x2 := x0.trans b2
  go_wp2_with fail
  refine (known_c w2).mono ?_
  rintro e w3 ⟨rfl, b3⟩
  go_wp2_with fail
  go_ret
  exact ⟨rfl, bthen x2 b3⟩
end Go.Proofs.Ytaondjklclpdkaa
