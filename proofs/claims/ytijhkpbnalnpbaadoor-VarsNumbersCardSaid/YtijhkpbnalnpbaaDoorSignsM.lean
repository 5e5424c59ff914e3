/- The document's layer 1 as plain functions on numbers and lists. -/
import Derived.Test.YtijhkpbnalnpbaaDoorBase
namespace Go.Proofs.YtijhkpbnalnpbaaDoor
open Go.RowKit

def btw (r a b : Int) : Bool := decide (a ≤ r ∧ r ≤ b)
def sgn (r : Int) : Bool := decide ((0 ≤ r ∧ r ≤ 1114111) ∧ ¬(55296 ≤ r ∧ r ≤ 57343))
def sml (r : Int) : Bool := decide ((97 ≤ r ∧ r ≤ 122) ∨ (224 ≤ r ∧ r ≤ 254 ∧ r ≠ 247))
def cpt (r : Int) : Bool := decide ((65 ≤ r ∧ r ≤ 90) ∨ (192 ≤ r ∧ r ≤ 222 ∧ r ≠ 215))
def wrd (r : Int) : Bool := decide ((97 ≤ r ∧ r ≤ 122) ∨ (65 ≤ r ∧ r ≤ 90) ∨ (48 ≤ r ∧ r ≤ 57) ∨ r = 95 ∨ (192 ≤ r ∧ r ≤ 255 ∧ r ≠ 215 ∧ r ≠ 247))
def cls (r : Int) : Int := if sgn r = true then (if r = 32 ∨ r = 9 then 1 else if r = 10 then 2 else if wrd r = true then 3 else 4) else 0
def up (r : Int) : Int := if sml r = true then r - 32 else r
def lo (r : Int) : Int := if cpt r = true then r + 32 else r
def runs (r : Int) : Bool := decide (cls r = 3 ∧ r ≠ 95)

theorem up_rng {r : Int} (h : -2147483648 ≤ r ∧ r ≤ 2147483647) : -2147483648 ≤ up r ∧ up r ≤ 2147483647 := by
  unfold up; split
  · rename_i hs; simp [sml] at hs; omega
  · exact h
theorem lo_rng {r : Int} (h : -2147483648 ≤ r ∧ r ≤ 2147483647) : -2147483648 ≤ lo r ∧ lo r ≤ 2147483647 := by
  unfold lo; split
  · rename_i hs; simp [cpt] at hs; omega
  · exact h
theorem cls_rng (r : Int) : 0 ≤ cls r ∧ cls r ≤ 4 := by unfold cls; repeat' split <;> omega

theorem cls_eq {r c : Int} (h : (c = 0 ∧ ¬((0 ≤ r ∧ r ≤ 1114111) ∧ ¬(55296 ≤ r ∧ r ≤ 57343))) ∨ (c = 1 ∧ (r = 32 ∨ r = 9)) ∨ (c = 2 ∧ r = 10) ∨
    (c = 3 ∧ ((97 ≤ r ∧ r ≤ 122) ∨ (65 ≤ r ∧ r ≤ 90) ∨ (48 ≤ r ∧ r ≤ 57) ∨ r = 95 ∨ (192 ≤ r ∧ r ≤ 255 ∧ r ≠ 215 ∧ r ≠ 247))) ∨
    (c = 4 ∧ (0 ≤ r ∧ r ≤ 1114111) ∧ ¬(55296 ≤ r ∧ r ≤ 57343) ∧ r ≠ 32 ∧ r ≠ 9 ∧ r ≠ 10 ∧ ¬((97 ≤ r ∧ r ≤ 122) ∨ (65 ≤ r ∧ r ≤ 90) ∨ (48 ≤ r ∧ r ≤ 57) ∨ r = 95 ∨ (192 ≤ r ∧ r ≤ 255 ∧ r ≠ 215 ∧ r ≠ 247)))) : c = cls r := by
  unfold cls
  split <;> rename_i h1 <;> simp only [sgn, decide_eq_true_eq] at h1
  · split
    · omega
    · split
      · omega
      · split <;> rename_i h4 <;> simp only [wrd, decide_eq_true_eq] at h4 <;> omega
  · omega
def may (l : List Int) : Bool := l.all sgn
/-- lexicographic order -/
def less : List Int → List Int → Bool
  | [], [] => false
  | [], _ :: _ => true
  | _ :: _, [] => false
  | a :: l, b :: r => if a = b then less l r else decide (a < b)

/-- one element more of the runs put together; g: what becomes of the very first -/
def pstep (g : Int → Int) (s : List Int × Bool) (r : Int) : List Int × Bool :=
  if runs r = true then (s.1 ++ [if s.2 = true then r else if s.1 = [] then g r else up r], true) else (s.1, false)
def pst (g : Int → Int) (l : List Int) : List Int × Bool := l.foldl (pstep g) ([], false)
def pas (g : Int → Int) (l : List Int) : List Int := (pst g l).1
def hcap : List Int → List Int
  | [] => []
  | a :: l => up a :: l
def cas (l : List Int) (how : Int) : List Int :=
  if how = 1 then l.map up else if how = 2 then l.map lo else if how = 3 then hcap l else if how = 4 then pas up l else if how = 5 then pas lo l else l

theorem pst_snoc (g : Int → Int) (l : List Int) (r : Int) : pst g (l ++ [r]) = pstep g (pst g l) r := by simp [pst, List.foldl_append]
theorem pas_len (g : Int → Int) (l : List Int) : (pst g l).1.length ≤ l.length := by
  refine snocInd (P := fun l => (pst g l).1.length ≤ l.length) (by simp [pst]) (fun l r ih => ?_) l
  rw [pst_snoc]; unfold pstep; split
  · simp; omega
  · simp; omega

theorem ret_sl {a b : Option Addr} {n m c d : Nat} (h1 : a = b) (h2 : n = m) (h3 : c = d) : Ending.returned (.slice a n c) = Ending.returned (.slice b m d) := by rw [h1, h2, h3]
end Go.Proofs.YtijhkpbnalnpbaaDoor
