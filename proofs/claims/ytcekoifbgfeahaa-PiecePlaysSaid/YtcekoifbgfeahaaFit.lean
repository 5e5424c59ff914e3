/- Package standishref1: Copied; package standishkeep: Fit. -/
import Derived.Test.YtcekoifbgfeahaaKeepR
import Derived.Deep.RegionHeld3
namespace Go.Proofs.Ytcekoifbgfeahaa
open Go.RowKit

/-- a change: where, what is cut, what is put -/
def Copies (w : World) (i : Int) (C P : List Int) (e : Ending) (w' : World) : Prop :=
  ∃ a1 c1 a2 c2, e = .returned (.agg #[.int .i64 i, .slice a1 C.length c1, .slice a2 P.length c2]) ∧ Own w' w.heap.size a1 c1 C ∧ Own w' w.heap.size a2 c2 P ∧ Below w.heap.size w w'
/-- a change that fits a text -/
def Fits (w : World) (l put : List Int) (e : Ending) (w' : World) : Prop :=
  ∃ (i k r : Nat) (C P : List Int) (a1 : Option Addr) (c1 : Nat) (a2 : Option Addr) (c2 : Nat), e = .returned (.agg #[.int .i64 i, .slice a1 C.length c1, .slice a2 P.length c2]) ∧ C.length = k ∧ i + k ≤ l.length ∧
    Hid (C = (l.drop i).take k) ∧ Hid (P = put.take r) ∧ P.length + (l.length - k) ≤ 1000 ∧ Own w' w.heap.size a1 c1 C ∧ Sl w' a2 P ∧ P.length ≤ c2 ∧ (∀ ad, a2 = some ad → w.heap.size ≤ ad.block) ∧ Below w.heap.size w w'
theorem add_some (g n : Nat) : (⟨g, 0, none⟩ : Addr).add n = ⟨g, n, none⟩ := by unfold Addr.add; split <;> simp_all
end Go.Proofs.Ytcekoifbgfeahaa
