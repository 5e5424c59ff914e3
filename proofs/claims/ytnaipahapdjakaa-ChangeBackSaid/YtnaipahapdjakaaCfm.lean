/- A change that is made to fit, in a variable of its own; rows that go through. -/
import Derived.Test.YtnaipahapdjakaaChu
import Derived.Test.YtnaipahapdjakaaInts
import Derived.Deep.CutBlock
import Derived.Deep.DeepCutAuto
namespace Go.Proofs.Ytnaipahapdjakaa
open Go.RowKit

structure FitM (W wr w : World) (X : Nat) (i : Nat) (C P : List Int) (a7 : Option Addr) (c7 : Nat) (a8 : Option Addr) (c8 : Nat) : Prop where
  hW : Below W.heap.size W w
  hwr : Below wr.heap.size wr w
  hX : wr.heap.size ≤ X
  c0 : w.cell? ⟨X, 0, none⟩ = some (.int .i64 i)
  c1 : w.cell? ⟨X, 1, none⟩ = some (.slice a7 C.length c7)
  c2 : w.cell? ⟨X, 2, none⟩ = some (.slice a8 P.length c8)
  sc : Sl w a7 C
  sl : Sl w a8 P
  cc : C.length ≤ c7
  pc : P.length ≤ c8
  bc : ∀ ad, a7 = some ad → wr.heap.size ≤ ad.block
  blk : ∀ ad, a8 = some ad → wr.heap.size ≤ ad.block
theorem FitM.late {W wr w : World} {i : Nat} {C P : List Int} {a7 : Option Addr} {c7 : Nat} {a8 : Option Addr} {c8 : Nat} (e : TypeId) (h1 : Below W.heap.size W w) (h2 : Below wr.heap.size wr w) (hc : Sl w a7 C) (hs : Sl w a8 P) (p : C.length ≤ c7) (q : P.length ≤ c8)
    (hbc : ∀ ad, a7 = some ad → wr.heap.size ≤ ad.block) (hb : ∀ ad, a8 = some ad → wr.heap.size ≤ ad.block) :
    FitM W wr (w.alloc (.cells #[.int .i64 i, .slice a7 C.length c7, .slice a8 P.length c8] e)) w.heap.size i C P a7 c7 a8 c8 :=
  ⟨bal h1 _, bal h2 _, h2.size, by rw [cell_alloc_new]; rfl, by rw [cell_alloc_new]; rfl, by rw [cell_alloc_new]; rfl, hc.alloc _, hs.alloc _, p, q, hbc, hb⟩
theorem FitM.early {W wr w : World} {X : Nat} {i : Nat} {C P : List Int} {a7 : Option Addr} {c7 : Nat} {a8 : Option Addr} {c8 : Nat} (h1 : Below W.heap.size W w) (h2 : Below wr.heap.size wr w) (hW : W.heap.size ≤ X) (hX : wr.heap.size ≤ X)
    {u0 u1 u2 : Value} (z0 : w.cell? ⟨X, 0, none⟩ = some u0) (z1 : w.cell? ⟨X, 1, none⟩ = some u1) (z2 : w.cell? ⟨X, 2, none⟩ = some u2) (hc : Sl w a7 C) (hs : Sl w a8 P) (p : C.length ≤ c7) (q : P.length ≤ c8)
    (hbc : ∀ ad, a7 = some ad → wr.heap.size ≤ ad.block ∧ ad.block ≠ X) (hb : ∀ ad, a8 = some ad → wr.heap.size ≤ ad.block ∧ ad.block ≠ X) :
    FitM W wr (((w.setCell ⟨X, 0, none⟩ (.int .i64 i)).setCell ⟨X, 1, none⟩ (.slice a7 C.length c7)).setCell ⟨X, 2, none⟩ (.slice a8 P.length c8)) X i C P a7 c7 a8 c8 := by
  refine ⟨((h1.setCell hW _).setCell hW _).setCell hW _, ((h2.setCell hX _).setCell hX _).setCell hX _, hX, ?_, ?_, ?_, ((hc.setOther _ _ fun ad ha => (hbc ad ha).2).setOther _ _ fun ad ha => (hbc ad ha).2).setOther _ _ fun ad ha => (hbc ad ha).2, ((hs.setOther _ _ fun ad ha => (hb ad ha).2).setOther _ _ fun ad ha => (hb ad ha).2).setOther _ _ fun ad ha => (hb ad ha).2, p, q, fun ad ha => (hbc ad ha).1, fun ad ha => (hb ad ha).1⟩
  · rw [World.cell?_setCell_other (h := by simp), World.cell?_setCell_other (h := by simp), World.cell?_setCell_same (u := u0)]; exact z0
  · rw [World.cell?_setCell_other (h := by simp), World.cell?_setCell_same (u := u1)]
    rw [World.cell?_setCell_other (h := by simp)]; exact z1
  · rw [World.cell?_setCell_same (u := u2)]
    rw [World.cell?_setCell_other (h := by simp), World.cell?_setCell_other (h := by simp)]; exact z2

theorem rows_yes {w w' : World} {t : List Int} {r : Option (List Int)} {e : Ending} (hr : r = some t) (h : Rows w r e w') : ∃ a c L, e = .returned (.tuple #[.slice a (L : List Int).length c, .int .i64 0]) ∧ Hid (L = t) ∧ Own w' w.heap.size a c L ∧ Below w.heap.size w w' := by
  obtain ⟨a, c, L, x, he, hx, ho, hb⟩ := h
  rcases hx.out with ⟨h1, rfl⟩ | ⟨h1, _⟩
  · rw [hr] at h1
    simp only [Option.some.injEq] at h1
    exact ⟨a, c, L, he, h1.symm, ho, hb⟩
  · rw [hr] at h1; cases h1
theorem rows_cut {S T : List Int} {M : List Cm} (h : rowC S (cgs M) = some T) (k : Nat) : ∃ A, rowC S (cgs (M.take k)) = some A ∧ rowC A (cgs (M.drop k)) = some T := by
  have e : cgs M = cgs (M.take k) ++ cgs (M.drop k) := by rw [← cgs_app, List.take_append_drop]
  rw [e, rowC_app] at h
  cases hr : rowC S (cgs (M.take k)) with
  | none => rw [hr] at h; cases h
  | some A => rw [hr] at h; exact ⟨A, rfl, h⟩
/-- a text in the round of a law: readable, clean, out of the way of the list's block -/
structure Txt (w : World) (a : Option Addr) (c : Nat) (T : List Int) (aL : Option Addr) : Prop where
  sl : Sl w a T
  cap : T.length ≤ c
  may : may T = true
  len : T.length ≤ 1000
  off : T = [] ∨ Off a (Blk aL)
end Go.Proofs.Ytnaipahapdjakaa
