/- Layer 8: what the counting loops of ResynRows find: cntN, cnt_end, tree_at, tree_step, grN, group_at. -/
import Derived.Test.YtefgjicegbhcaaaGreatReQ
namespace Go.Proofs.YtefgjicegbhcaaaGreat
namespace ReM
/-! ## the loops that count -/
/-- the nodes that stand in one: counted up to the first that is not deeper -/
theorem kids_stop {d : Int} {a b : List Rn} (ha : ∀ x, x ∈ a → d < x.deep) (hb : ∀ y t, b = y :: t → y.deep ≤ d) :
    kidsN d (a ++ b) = (a.filter fun x => decide (x.deep = d + 1)).length := by
  unfold kidsN
  rw [List.takeWhile_append_of_pos (fun x hx => by have := ha x hx; simp; omega)]
  cases b with
  | nil => simp
  | cons y t => have := hb y t rfl; rw [List.takeWhile_cons_of_neg (by simp; omega), List.append_nil]
/-- how many of the nodes from i on, m of them, are one deeper than d -/
def cntN (d : Int) (l : List Rn) (i m : Nat) : Nat := (((l.drop i).take m).filter fun x => decide (x.deep = d + 1)).length
theorem cnt_zero (d : Int) (l : List Rn) (i : Nat) : cntN d l i 0 = 0 := by simp [cntN]
theorem cnt_succ (d : Int) (l : List Rn) (i m : Nat) (h : i + m < l.length) : cntN d l i (m + 1) = cntN d l i m + if l[i + m].deep = d + 1 then 1 else 0 := by
  unfold cntN
  rw [List.take_succ_eq_append_getElem (by simp; omega), List.filter_append, List.length_append]
  congr 1
  simp only [List.getElem_drop]
  by_cases hd : l[i + m].deep = d + 1
  · rw [if_pos hd, List.filter_cons_of_pos (by simpa using hd)]; rfl
  · rw [if_neg hd, List.filter_cons_of_neg (by simpa using hd)]; rfl
theorem cnt_le (d : Int) (l : List Rn) (i m : Nat) : cntN d l i m ≤ m := by
  unfold cntN
  exact Nat.le_trans (List.length_filter_le _ _) (by simp; omega)
/-- at the inner loop's end -/
theorem cnt_end {d : Int} {l : List Rn} {i m : Nat} (hm : i + m ≤ l.length) (h : ∀ k (hk : k < m), d < (l[i + k]'(by omega)).deep) (he : ∀ hk : i + m < l.length, (l[i + m]).deep ≤ d) :
    kidsN d (l.drop i) = cntN d l i m := by
  have e : l.drop i = (l.drop i).take m ++ (l.drop i).drop m := (List.take_append_drop _ _).symm
  rw [e]
  refine kids_stop (fun x hx => ?_) (fun y t hy => ?_)
  · obtain ⟨k, hk, rfl⟩ := List.getElem_of_mem hx
    have hk2 : k < m := by simp only [List.length_take] at hk; omega
    simp only [List.getElem_take, List.getElem_drop]
    exact h k hk2
  · rw [List.drop_drop] at hy
    have hlt : i + m < l.length := by
      rcases Nat.lt_or_ge (i + m) l.length with h1 | h1
      · exact h1
      · rw [List.drop_eq_nil_of_le h1] at hy; cases hy
    rw [List.drop_eq_getElem_cons hlt] at hy
    injection hy with hy _
    rw [← hy]; exact he hlt
/-- what the outer loop finds at each place of a tree -/
theorem tree_at {l : List Rn} (h : NodAt 0 l) {i : Nat} (hi : i < l.length) : Loc l[i] (kidsN (l[i]).deep (l.drop (i + 1))) ∧ (0 < i → 1 ≤ (l[i]).deep) ∧ (i = 0 → (l[i]).deep = 0) := by
  have e : l = l.take i ++ l[i] :: l.drop (i + 1) := by
    rw [← List.drop_eq_getElem_cons hi, List.take_append_drop]
  refine ⟨?_, fun hp => ?_, fun hz => ?_⟩
  · have := h.kids [] (Ends.nil 0) _ _ _ e
    rwa [List.append_nil] at this
  · obtain ⟨x, t, rfl, _, h2⟩ := h.head
    obtain ⟨j, rfl⟩ : ∃ j, i = j + 1 := ⟨i - 1, by omega⟩
    have := h2 ((x :: t)[j + 1]) (by simp)
    omega
  · obtain ⟨x, t, rfl, h1, _⟩ := h.head
    subst hz; exact h1
theorem tree_step {l : List Rn} (h : NodAt 0 l) {i : Nat} (hi : i + 1 < l.length) : (l[i + 1]).deep ≤ (l[i]).deep + 1 := by
  have h1 := h.steps 0 [] (by omega) (fun q _ => trivial)
  rw [List.append_nil] at h1
  refine h1.at (a := l.take i) (t := l.drop (i + 2)) ?_
  rw [← List.drop_eq_getElem_cons hi, ← List.drop_eq_getElem_cons (by omega), List.take_append_drop]
/-- the groups up to a place -/
def grN (l : List Rn) (i : Nat) : Nat := (gsL (l.take i)).length
theorem gr_zero (l : List Rn) : grN l 0 = 0 := by simp [grN, gsL]
theorem gr_succ (l : List Rn) (i : Nat) (h : i < l.length) : grN l (i + 1) = grN l i + if (l[i]).kind = 5 ∧ 0 < (l[i]).lo then 1 else 0 := by
  unfold grN
  rw [List.take_succ_eq_append_getElem h, gsL_app, List.length_append, gsL_cons]
  split <;> simp [gsL]
theorem gr_all (l : List Rn) : grN l l.length = (gsL l).length := by simp [grN]
theorem gr_le (l : List Rn) (i : Nat) : grN l i ≤ i := by
  unfold grN gsL
  rw [List.length_map]
  exact Nat.le_trans (List.length_filter_le _ _) (by simp; omega)
theorem group_at {l : List Rn} {g : Nat} (h : gsL l = upto 0 g) {i : Nat} (hi : i < l.length) (hk : (l[i]).kind = 5) (hp : 0 < (l[i]).lo) : (l[i]).lo = grN l i + 1 := by
  have e : l = l.take i ++ l[i] :: l.drop (i + 1) := by
    rw [← List.drop_eq_getElem_cons hi, List.take_append_drop]
  exact gs_at h e hk hp
end ReM
end Go.Proofs.YtefgjicegbhcaaaGreat
