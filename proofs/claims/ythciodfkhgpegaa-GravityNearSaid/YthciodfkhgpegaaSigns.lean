/- Contracts of package signs and of the document's own answers for it: the functions of one number. -/
import Derived.Test.YthciodfkhgpegaaSignsM
namespace Go.Proofs.Ythciodfkhgpegaa
open Go.RowKit

/-! the document's own -/
def ltr (r : Int) : Bool := decide ((97 ≤ r ∧ r ≤ 122) ∨ (65 ≤ r ∧ r ≤ 90))
def dgt (r : Int) : Bool := decide (48 ≤ r ∧ r ≤ 57)
theorem up_eq {r c : Int} (h : (c = r - 32 ∧ ((97 ≤ r ∧ r ≤ 122) ∨ (224 ≤ r ∧ r ≤ 254 ∧ r ≠ 247))) ∨ (c = r ∧ ¬((97 ≤ r ∧ r ≤ 122) ∨ (224 ≤ r ∧ r ≤ 254 ∧ r ≠ 247)))) : c = up r := by
  unfold up; split <;> rename_i h1 <;> simp only [sml, decide_eq_true_eq] at h1 <;> omega
theorem lo_eq {r c : Int} (h : (c = r + 32 ∧ ((65 ≤ r ∧ r ≤ 90) ∨ (192 ≤ r ∧ r ≤ 222 ∧ r ≠ 215))) ∨ (c = r ∧ ¬((65 ≤ r ∧ r ≤ 90) ∨ (192 ≤ r ∧ r ≤ 222 ∧ r ≠ 215)))) : c = lo r := by
  unfold lo; split <;> rename_i h1 <;> simp only [cpt, decide_eq_true_eq] at h1 <;> omega
end Go.Proofs.Ythciodfkhgpegaa
