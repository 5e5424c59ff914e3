/- Layer 6 as plain functions: where a place, a span is under a change. -/
import Derived.Test.YthciodfkhgpegaaCore
namespace Go.Proofs.Ythciodfkhgpegaa
open Go.RowKit

def farG (x : Int) : Bool := decide (x < 0 ∨ 1099511627776 < x)
/-- where a place is: a: where the change is, n, m: how much it cuts, puts -/
def mvG (x a n m : Int) (r : Bool) : Int :=
  if farG x = true ∨ farG a = true then x
  else if x < a ∨ (x = a ∧ 0 < n) then x
  else if a + n < x ∨ (x = a + n ∧ 0 < n) then x + m - n
  else if r = true then a + m else a
def spF (f t a n m how : Int) : Int := if farG f = true ∨ farG t = true ∨ farG a = true ∨ how < 0 ∨ 2 < how then f else mvG f a n m (decide (how = 2))
def spT (f t a n m how : Int) : Int := if farG f = true ∨ farG t = true ∨ farG a = true ∨ how < 0 ∨ 2 < how then t else mvG t a n m (decide (how ≠ 1))
theorem farG_no {x : Int} (h : 0 ≤ x) (h2 : x ≤ 1099511627776) : farG x = false := by simp [farG]; omega
/-- a place outside of what is cut, and not at its edge, comes back -/
theorem mvG_back {x a n m : Int} {r b : Bool} (hx : 0 ≤ x ∧ x ≤ 3000) (ha : 0 ≤ a ∧ a ≤ 1000) (hn : 0 ≤ n) (hm : 0 ≤ m ∧ m ≤ 1099511620000) (ho : x < a ∨ a + n < x) :
    mvG (mvG x a n m r) a m n b = x ∧ (mvG x a n m r < a ↔ x < a) := by
  have f1 := farG_no hx.1 (by omega)
  have f2 := farG_no ha.1 (by omega)
  rcases ho with h | h
  · have e : mvG x a n m r = x := by simp only [mvG, f1, f2]; simp; intro h1; omega
    rw [e]
    refine ⟨?_, Iff.rfl⟩
    simp only [mvG, f1, f2]; simp; intro h1; omega
  · have e : mvG x a n m r = x + m - n := by
      simp only [mvG, f1, f2]
      rw [if_neg (by simp), if_neg (by omega), if_pos (by omega)]
    rw [e]
    have f3 := farG_no (x := x + m - n) (by omega) (by omega)
    refine ⟨?_, by omega⟩
    simp only [mvG, f3, f2]
    rw [if_neg (by simp), if_neg (by omega), if_pos (by omega)]
    omega
/-- the order of places is kept; right is not ahead of left -/
theorem mvG_mono {x y a n m : Int} {r : Bool} (hx : 0 ≤ x ∧ x ≤ 1000) (hy : x ≤ y ∧ y ≤ 1000) (ha : 0 ≤ a ∧ a ≤ 500) (hn : 0 ≤ n) (hm : 0 ≤ m) : mvG x a n m r ≤ mvG y a n m r := by
  have f1 := farG_no hx.1 (by omega)
  have f2 := farG_no ha.1 (by omega)
  have f3 := farG_no (x := y) (by omega) (by omega)
  simp only [mvG, f1, f2, f3]
  simp only [Bool.false_eq_true, or_self, if_false]
  repeat' split
  all_goals omega
theorem mvG_right {x a n m : Int} (hx : 0 ≤ x ∧ x ≤ 1000) (ha : 0 ≤ a ∧ a ≤ 500) (hm : 0 ≤ m) : mvG x a n m false ≤ mvG x a n m true := by
  have f1 := farG_no hx.1 (by omega)
  have f2 := farG_no ha.1 (by omega)
  simp only [mvG, f1, f2]
  simp only [Bool.false_eq_true, or_self, if_false, if_true]
  repeat' split
  all_goals omega
theorem mvG_nonneg {x a n m : Int} {r : Bool} (hx : 0 ≤ x ∧ x ≤ 1000) (ha : 0 ≤ a ∧ a ≤ 500) (hm : 0 ≤ m) : 0 ≤ mvG x a n m r := by
  have f1 := farG_no hx.1 (by omega)
  have f2 := farG_no ha.1 (by omega)
  simp only [mvG, f1, f2]
  simp only [Bool.false_eq_true, or_self, if_false]
  repeat' split
  all_goals omega
/-- an element that is not cut: its place, right -/
theorem mvG_keep {x a n m : Int} (hx : 0 ≤ x ∧ x ≤ 1000) (ha : 0 ≤ a ∧ a ≤ 1000) (hn : 0 ≤ n) (h : x < a ∨ a + n ≤ x) : mvG x a n m true = if x < a then x else x + m - n := by
  have f1 := farG_no hx.1 (by omega)
  have f2 := farG_no ha.1 (by omega)
  simp only [mvG, f1, f2]
  simp only [Bool.false_eq_true, or_self, if_false, if_true]
  repeat' split
  all_goals omega
theorem gt_splice {s put : List Int} {a n i : Nat} (h : a + n ≤ s.length) (hi : i < s.length) (hk : i < a ∨ a + n ≤ i) :
    gt (s.take a ++ put ++ s.drop (a + n)) (if i < a then i else i + put.length - n) = gt s i ∧ (if i < a then i else i + put.length - n) < (s.take a ++ put ++ s.drop (a + n)).length := by
  have hl : (s.take a ++ put).length = a + put.length := by simp; omega
  split
  · rename_i h1
    refine ⟨?_, by simp; omega⟩
    rw [List.append_assoc, gt_app_left (by simp; omega)]
    simp [gt, List.getD, h1]
  · rename_i h1
    refine ⟨?_, by simp; omega⟩
    rw [gt_app_right (by rw [hl]; omega), hl]
    simp only [gt, List.getD, List.getElem?_drop]
    congr 2; omega
/-- what grows about what is cut holds what is put -/
theorem spG_grows {a n m : Int} (ha : 0 ≤ a ∧ a ≤ 1000) (hn : 0 ≤ n ∧ a + n ≤ 1000) : mvG a a n m false = a ∧ mvG (a + n) a n m true = a + m := by
  have f1 := farG_no ha.1 (by omega)
  have f2 := farG_no (x := a + n) (by omega) (by omega)
  refine ⟨?_, ?_⟩
  · simp only [mvG, f1]
    simp only [Bool.false_eq_true, or_self, if_false]
    repeat' split
    all_goals omega
  · simp only [mvG, f1, f2]
    simp only [Bool.false_eq_true, or_self, if_false, if_true]
    repeat' split
    all_goals omega
theorem spG_all {a n m l : Int} (ha : 0 ≤ a) (hn : 0 ≤ n) (hl : a + n ≤ l ∧ l ≤ 1000) : mvG 0 a n m false = 0 ∧ mvG l a n m true = l + m - n := by
  have f0 := farG_no (x := 0) (by omega) (by omega)
  have f1 := farG_no ha (by omega)
  have f2 := farG_no (x := l) (by omega) (by omega)
  refine ⟨?_, ?_⟩
  · simp only [mvG, f0, f1]
    simp only [Bool.false_eq_true, or_self, if_false]
    repeat' split
    all_goals omega
  · simp only [mvG, f1, f2]
    simp only [Bool.false_eq_true, or_self, if_false, if_true]
    repeat' split
    all_goals omega
end Go.Proofs.Ythciodfkhgpegaa
