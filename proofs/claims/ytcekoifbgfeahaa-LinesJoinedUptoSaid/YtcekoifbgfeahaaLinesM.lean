/- Layer 4 as plain functions on lists: lines, columns, the blanks ahead. -/
import Derived.Test.YtcekoifbgfeahaaSignsM
namespace Go.Proofs.Ytcekoifbgfeahaa
open Go.RowKit

/-- the elements ahead of the first element 10 -/
def wd : List Int → Nat
  | [] => 0
  | x :: l => if x = 10 then 0 else wd l + 1
/-- the end of the line, from a place in it -/
def nx (l : List Int) (a : Nat) : Nat := a + wd (l.drop a)
/-- behind the first i elements: the ends that were seen, where the line begins -/
def lsc (l : List Int) : Nat → Nat × Nat
  | 0 => (0, 0)
  | i + 1 => if gt l i = 10 then ((lsc l i).1 + 1, i + 1) else lsc l i
/-- where a line begins -/
def lst (l : List Int) : Nat → Option Nat
  | 0 => some 0
  | k + 1 => (lst l k).bind fun a => if nx l a < l.length then some (nx l a + 1) else none
def lin (l : List Int) (k : Int) : Option Nat := if 0 ≤ k then lst l k.toNat else none
def lcnt (l : List Int) : Nat := (lsc l l.length).1 + 1

theorem gt_drop (l : List Int) (a j : Nat) : gt (l.drop a) j = gt l (a + j) := by simp [gt, List.getD, List.getElem?_drop]
theorem gt_take {l : List Int} {a j : Nat} (h : j < a) : gt (l.take a) j = gt l j := by simp [gt, List.getD, h]
theorem gt_cons (x : Int) (l : List Int) (j : Nat) : gt (x :: l) (j + 1) = gt l j := by simp [gt, List.getD]
theorem gt_head (x : Int) (l : List Int) : gt (x :: l) 0 = x := by simp [gt, List.getD]

theorem wd_le (l : List Int) : wd l ≤ l.length := by
  induction l with
  | nil => simp [wd]
  | cons x l ih => simp only [wd]; split <;> simp <;> omega
theorem wd_no {l : List Int} {j : Nat} (h : j < wd l) : gt l j ≠ 10 := by
  induction l generalizing j with
  | nil => simp [wd] at h
  | cons x l ih =>
    simp only [wd] at h
    split at h
    · omega
    · cases j with
      | zero => rw [gt_head]; assumption
      | succ j => rw [gt_cons]; exact ih (by omega)
theorem wd_at {l : List Int} (h : wd l < l.length) : gt l (wd l) = 10 := by
  induction l with
  | nil => simp [wd] at h
  | cons x l ih =>
    by_cases hx : x = 10
    · simp only [wd, hx, if_true, gt_head]
    · simp only [wd, hx, if_false] at h ⊢
      rw [gt_cons]
      exact ih (by simp at h; omega)

theorem nx_ge (l : List Int) (a : Nat) : a ≤ nx l a := by unfold nx; omega
theorem nx_le {l : List Int} {a : Nat} (h : a ≤ l.length) : nx l a ≤ l.length := by
  have := wd_le (l.drop a); rw [List.length_drop] at this; unfold nx; omega
theorem nx_no {l : List Int} {a j : Nat} (h1 : a ≤ j) (h2 : j < nx l a) : gt l j ≠ 10 := by
  unfold nx at h2
  have := wd_no (l := l.drop a) (j := j - a) (by omega)
  rwa [gt_drop, show a + (j - a) = j from by omega] at this
theorem nx_at {l : List Int} {a : Nat} (h : nx l a < l.length) : gt l (nx l a) = 10 := by
  unfold nx at h ⊢
  rw [← gt_drop]; exact wd_at (by rw [List.length_drop]; omega)
theorem nx_eq {l : List Int} {a e : Nat} (h1 : a ≤ e) (h2 : e ≤ l.length) (hn : ∀ j, a ≤ j → j < e → gt l j ≠ 10) (he : e = l.length ∨ gt l e = 10) : nx l a = e := by
  rcases Nat.lt_trichotomy (nx l a) e with h | h | h
  · exact absurd (nx_at (by omega)) (hn _ (nx_ge l a) h)
  · exact h
  · have := nx_le (l := l) (a := a) (by omega)
    rcases he with he | he
    · omega
    · exact absurd he (nx_no h1 h)

theorem lsc_le (l : List Int) (i : Nat) : (lsc l i).2 ≤ i ∧ (lsc l i).1 ≤ i := by
  induction i with
  | zero => simp [lsc]
  | succ i ih => simp only [lsc]; split <;> (try simp only) <;> omega
theorem lsc_no {l : List Int} {i j : Nat} (h1 : (lsc l i).2 ≤ j) (h2 : j < i) : gt l j ≠ 10 := by
  induction i with
  | zero => omega
  | succ i ih =>
    simp only [lsc] at h1
    split at h1
    · simp at h1; omega
    · rcases Nat.lt_or_ge j i with h | h
      · exact ih h1 h
      · obtain rfl : j = i := by omega
        assumption
theorem lsc_pre (l : List Int) (i : Nat) : (lsc l i).2 = 0 ∨ gt l ((lsc l i).2 - 1) = 10 := by
  induction i with
  | zero => simp [lsc]
  | succ i ih =>
    simp only [lsc]; split
    · right; rw [Nat.add_sub_cancel]; assumption
    · exact ih
theorem lsc_nx {l : List Int} {i : Nat} (h : i ≤ l.length) (he : i = l.length ∨ gt l i = 10) : nx l (lsc l i).2 = i :=
  nx_eq (lsc_le l i).1 h (fun _ h1 h2 => lsc_no h1 h2) he
theorem lsc_st {l : List Int} {i : Nat} (h : i ≤ l.length) : lst l (lsc l i).1 = some (lsc l i).2 := by
  induction i with
  | zero => rfl
  | succ i ih =>
    have ih := ih (by omega)
    by_cases h10 : gt l i = 10
    · have hn := lsc_nx (l := l) (i := i) (by omega) (.inr h10)
      simp only [lsc, h10, if_true, lst, ih, Option.bind_some, hn]
      rw [if_pos (by omega)]
    · simp only [lsc, h10, if_false]; exact ih

theorem lst_le {l : List Int} {k a : Nat} (h : lst l k = some a) : a ≤ l.length := by
  cases k with
  | zero => simp [lst] at h; omega
  | succ k =>
    simp only [lst] at h
    cases hk : lst l k with
    | none => rw [hk] at h; simp at h
    | some b =>
      rw [hk] at h
      simp only [Option.bind_some] at h
      split at h
      · simp at h; omega
      · cases h
theorem lst_pre {l : List Int} {k a : Nat} (h : lst l k = some a) : a = 0 ∨ gt l (a - 1) = 10 := by
  cases k with
  | zero => simp [lst] at h; omega
  | succ k =>
    simp only [lst] at h
    cases hk : lst l k with
    | none => rw [hk] at h; simp at h
    | some b =>
      rw [hk] at h
      simp only [Option.bind_some] at h
      split at h
      · rename_i hlt; simp at h; subst h; right; simpa using nx_at hlt
      · cases h
theorem lst_succ {l : List Int} {k a : Nat} (h : lst l k = some a) : lst l (k + 1) = if nx l a < l.length then some (nx l a + 1) else none := by
  simp only [lst, h, Option.bind_some]
theorem lst_none {l : List Int} {k : Nat} (h : lst l k = none) : lst l (k + 1) = none := by simp only [lst, h, Option.bind_none]
theorem lst_none_le {l : List Int} {k m : Nat} (h : lst l k = none) (hm : k ≤ m) : lst l m = none := by
  induction m with
  | zero => obtain rfl : k = 0 := by omega
            exact h
  | succ m ih =>
    rcases Nat.lt_or_ge k (m + 1) with h1 | h1
    · exact lst_none (ih (by omega))
    · obtain rfl : k = m + 1 := by omega
      exact h
theorem lst_last (l : List Int) : lst l (lcnt l) = none := by
  unfold lcnt
  rw [lst_succ (lsc_st (Nat.le_refl _)), lsc_nx (Nat.le_refl _) (.inl rfl), if_neg (by omega)]
theorem lst_some {l : List Int} {k : Nat} (h : k < lcnt l) : ∃ a, lst l k = some a := by
  cases hk : lst l k with
  | some a => exact ⟨a, rfl⟩
  | none =>
    have := lst_none_le hk (m := (lsc l l.length).1) (by unfold lcnt at h; omega)
    rw [lsc_st (Nat.le_refl _)] at this; cases this
theorem lst_lt {l : List Int} {k a : Nat} (h : lst l k = some a) : k < lcnt l := by
  rcases Nat.lt_or_ge k (lcnt l) with h1 | h1
  · exact h1
  · rw [lst_none_le (lst_last l) h1] at h; cases h
theorem lcnt_le (l : List Int) : lcnt l ≤ l.length + 1 := by have := lsc_le l l.length; unfold lcnt; omega
theorem lcnt_pos (l : List Int) : 0 < lcnt l := by unfold lcnt; omega
/-- the last line ends with the text, each other one ahead of an element 10 -/
theorem lst_end {l : List Int} {k a : Nat} (h : lst l k = some a) (hk : k + 1 = lcnt l) : nx l a = l.length := by
  have h1 := lsc_st (l := l) (Nat.le_refl _)
  unfold lcnt at hk
  obtain rfl : k = (lsc l l.length).1 := by omega
  rw [h1] at h
  simp at h; subst h
  exact lsc_nx (Nat.le_refl _) (.inl rfl)
theorem lst_next {l : List Int} {k a : Nat} (h : lst l k = some a) (hk : k + 1 < lcnt l) : nx l a < l.length ∧ lst l (k + 1) = some (nx l a + 1) := by
  obtain ⟨b, hb⟩ := lst_some hk
  have h1 := lst_succ h
  rw [h1] at hb ⊢
  split at hb
  · rename_i h2; rw [if_pos h2]; exact ⟨h2, rfl⟩
  · cases hb

theorem lin_nat (l : List Int) (k : Nat) : lin l k = lst l k := by unfold lin; rw [if_pos (by omega), Int.toNat_natCast]
theorem lin_neg {l : List Int} {k : Int} (h : k < 0) : lin l k = none := by unfold lin; rw [if_neg (by omega)]

/-! what the functions tell -/
def lsE (l : List Int) (k : Int) : Int := if (lin l k).isSome = true then 0 else 2
def lsV (l : List Int) (k : Int) : Nat := (lin l k).getD 0
def lwV (l : List Int) (k : Int) : Nat := match lin l k with | some a => nx l a - a | none => 0
def loB (l : List Int) (k c : Int) : Bool := decide ((lin l k).isSome = true ∧ 0 ≤ c ∧ c ≤ lwV l k)
def loE (l : List Int) (k c : Int) : Int := if loB l k c = true then 0 else 2
def loV (l : List Int) (k c : Int) : Int := if loB l k c = true then lsV l k + c else 0

/-! the count -/
theorem lsc_count (l : List Int) (i : Nat) (h : i ≤ l.length) : (lsc l i).1 = (l.take i).count 10 := by
  induction i with
  | zero => simp [lsc]
  | succ i ih =>
    rw [take_succ (by omega), List.count_append, ← ih (by omega)]
    simp only [lsc]
    split <;> rename_i h1
    · simp [h1]
    · rw [List.count_singleton]; simp [h1]
theorem lcnt_count (l : List Int) : lcnt l = l.count 10 + 1 := by
  unfold lcnt; rw [lsc_count l _ (Nat.le_refl _), List.take_length]
theorem lcnt_app (a b : List Int) : lcnt (a ++ b) + 1 = lcnt a + lcnt b := by
  simp only [lcnt_count, List.count_append]; omega

/-! the blanks ahead -/
def bl : Nat → List Int → Nat
  | 0, _ => 0
  | _ + 1, [] => 0
  | f + 1, x :: m => if cls x = 1 then bl f m + 1 else 0
def ind (m : List Int) : List Int := m.take (bl 40 m)
theorem bl_le (f : Nat) (m : List Int) : bl f m ≤ f ∧ bl f m ≤ m.length := by
  induction f generalizing m with
  | zero => simp [bl]
  | succ f ih =>
    cases m with
    | nil => simp [bl]
    | cons x m => have := ih m; simp only [bl]; split <;> simp <;> omega
theorem bl_eq {f : Nat} {m : List Int} {n : Nat} (h1 : n ≤ f) (h2 : n ≤ m.length) (hb : ∀ j, j < n → cls (gt m j) = 1) (he : n = f ∨ n = m.length ∨ cls (gt m n) ≠ 1) : bl f m = n := by
  induction f generalizing m n with
  | zero => simp [bl]; omega
  | succ f ih =>
    cases m with
    | nil => simp at h2; subst h2; simp [bl]
    | cons x m =>
      cases n with
      | zero =>
        have hx : cls x ≠ 1 := by
          rcases he with he | he | he
          · omega
          · simp at he
          · rwa [gt_head] at he
        simp only [bl, hx, if_false]
      | succ n =>
        have hx : cls x = 1 := by have := hb 0 (by omega); rwa [gt_head] at this
        simp only [bl, hx, if_true]
        rw [ih (n := n) (by omega) (by simp at h2; omega) (fun j hj => by have := hb (j + 1) (by omega); rwa [gt_cons] at this) (by
          rcases he with he | he | he
          · left; omega
          · right; left; simp at he; omega
          · right; right; rwa [gt_cons] at he)]
theorem bl_wd (f : Nat) (m : List Int) : bl f (m.take (wd m)) = bl f m := by
  induction m generalizing f with
  | nil => simp
  | cons x m ih =>
    cases f with
    | zero => simp [bl]
    | succ f =>
      by_cases hx : x = 10
      · subst hx
        have h0 : cls 10 ≠ 1 := by decide
        simp only [wd, if_true, List.take_zero, bl, h0, if_false]
      · simp only [wd, hx, if_false, List.take_succ_cons, bl, ih]
theorem ind_wd (m : List Int) : ind (m.take (wd m)) = ind m := by
  unfold ind
  rw [bl_wd, List.take_take]
  congr 1
  have h1 := (bl_le 40 (m.take (wd m))).2
  rw [bl_wd, List.length_take] at h1
  omega
theorem ind_len (m : List Int) : (ind m).length ≤ 40 := by
  have := (bl_le 40 m).1; unfold ind; rw [List.length_take]; omega
/-- the line itself -/
theorem line_eq (l : List Int) (a : Nat) : (l.take (nx l a)).drop a = (l.drop a).take (wd (l.drop a)) := by
  unfold nx; rw [List.drop_take]; congr 1; omega
theorem lin_ind (l : List Int) (a : Nat) : ind ((l.take (nx l a)).drop a) = ind (l.drop a) := by rw [line_eq, ind_wd]
def liV (l : List Int) (k : Int) : List Int := match lin l k with | some a => ind (l.drop a) | none => []
theorem liV_len (l : List Int) (k : Int) : (liV l k).length ≤ 40 := by
  unfold liV; split
  · exact ind_len _
  · simp
end Go.Proofs.Ytcekoifbgfeahaa
