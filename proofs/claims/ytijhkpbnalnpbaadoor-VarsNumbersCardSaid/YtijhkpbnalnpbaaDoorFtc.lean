/- Variables in memory: a fault, a token; results that lie there. -/
import Derived.Test.YtijhkpbnalnpbaaDoorCore
import Derived.Laws.ResultCell
namespace Go.Proofs.YtijhkpbnalnpbaaDoor
open Go.RowKit

theorem cell_set1 {w : World} {b o o' : Nat} {v u : Value} (h : w.cell? ⟨b, o', none⟩ = some u) (hn : o ≠ o') : (w.setCell ⟨b, o, none⟩ v).cell? ⟨b, o', none⟩ = some u := by
  rw [World.cell?_setCell_other (h := by intro e; simp only [Addr.mk.injEq, and_true, true_and] at e; exact hn e)]; exact h
end Go.Proofs.YtijhkpbnalnpbaaDoor
