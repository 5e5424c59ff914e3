/- Folding on lists: two signs that are one by their cases; the same machine (RematchFold, RematchPlain). -/
import Derived.Test.YtlokefmieohggaaMtD
namespace Go.Proofs.Ytlokefmieohggaa
open Go.RowKit ReM
namespace ReM
def foldS (s : List Int) (x : Int) : Bool := inR s x || (true && (inR s (up x) || inR s (lo x)))
theorem up_or_lo (x : Int) : x = up x ∨ x = lo x := by
  unfold up lo
  by_cases h : sml x = true
  · right; rw [if_neg]; simp [sml, cpt] at *; omega
  · left; rw [if_neg h]
theorem foldS_eq (s : List Int) (x : Int) : foldS s x = (inR s (up x) || inR s (lo x)) := by
  unfold foldS
  rw [Bool.true_and]
  rcases up_or_lo x with h | h
  · rw [← h]; cases inR s x <;> simp
  · rw [← h]; cases inR s x <;> simp
theorem up_up (x : Int) : up (up x) = up x := by
  unfold up
  by_cases h : sml x = true
  · rw [if_pos h, if_neg]; simp [sml] at *; omega
  · rw [if_neg h, if_neg h]
theorem lo_lo (x : Int) : lo (lo x) = lo x := by
  unfold lo
  by_cases h : cpt x = true
  · rw [if_pos h, if_neg]; simp [cpt] at *; omega
  · rw [if_neg h, if_neg h]
theorem lo_up (x : Int) : lo (up x) = lo x := by
  unfold lo up
  by_cases h : sml x = true
  · rw [if_pos h, if_pos (by simp [sml, cpt] at *; omega), if_neg (by simp [sml, cpt] at *; omega)]; omega
  · rw [if_neg h]
theorem up_lo (x : Int) : up (lo x) = up x := by
  unfold lo up
  by_cases h : cpt x = true
  · rw [if_pos h, if_pos (by simp [sml, cpt] at *; omega), if_neg (by simp [sml, cpt] at *; omega)]; omega
  · rw [if_neg h]
/-- elements that a folding matcher takes for one another -/
def fe (x y : Int) : Prop := up x = up y ∧ lo x = lo y
theorem fe_in {x y : Int} (h : fe x y) (q : Ins) : inW true q x = inW true q y := by
  have : foldS q.set x = foldS q.set y := by rw [foldS_eq, foldS_eq, h.1, h.2]
  show (foldS q.set x != q.not) = (foldS q.set y != q.not)
  rw [this]
theorem mch_fe {P : List Ins} {s t : List Int} (hl : s.length = t.length) (h : ∀ j, j < s.length → fe (gt s j) (gt t j)) : mch P s true = mch P t true := by
  unfold mch
  rw [hl]
  congr 1
  funext i a
  by_cases ha : a < t.length
  · rw [fe_in (h a (by omega))]
  · rw [decide_eq_false ha, Bool.false_and, Bool.false_and]
end ReM
end Go.Proofs.Ytlokefmieohggaa
