/- Layer 5 as plain functions on lists: changes of a text. -/
import Derived.Test.YthciodfkhgpegaaSignsM
namespace Go.Proofs.Ythciodfkhgpegaa
open Go.RowKit

/-- a change: where, what is cut, what is put -/
structure Cg where
  at_ : Int
  cut : List Int
  put : List Int
def mayC (s : List Int) (c : Cg) : Bool :=
  decide (0 ≤ c.at_ ∧ c.at_ + c.cut.length ≤ s.length ∧ (s.drop c.at_.toNat).take c.cut.length = c.cut ∧ s.length ≤ 1000 ∧ c.put.length + (s.length - c.cut.length) ≤ 1000 ∧ may c.cut = true ∧ may c.put = true)
def appC (s : List Int) (c : Cg) : List Int := s.take c.at_.toNat ++ c.put ++ s.drop (c.at_.toNat + c.cut.length)
def invC (c : Cg) : Cg := ⟨c.at_, c.put, c.cut⟩
def rowC (s : List Int) : List Cg → Option (List Int)
  | [] => some s
  | c :: l => if mayC s c = true then rowC (appC s c) l else none
def backC (l : List Cg) : List Cg := (l.map invC).reverse

theorem mayC_iff {s : List Int} {c : Cg} : mayC s c = true ↔ ∃ i : Nat, c.at_ = i ∧ i + c.cut.length ≤ s.length ∧ (s.drop i).take c.cut.length = c.cut ∧ s.length ≤ 1000 ∧ c.put.length + (s.length - c.cut.length) ≤ 1000 ∧ may c.cut = true ∧ may c.put = true := by
  simp only [mayC, decide_eq_true_eq]
  constructor
  · rintro ⟨h1, h2, h3, h4⟩
    obtain ⟨i, hi⟩ := Int.eq_ofNat_of_zero_le h1
    refine ⟨i, hi, by omega, ?_, h4⟩
    rw [hi] at h3; exact h3
  · rintro ⟨i, hi, h2, h3, h4⟩
    rw [hi]
    exact ⟨by omega, by omega, h3, h4⟩
theorem appC_nat {s : List Int} {c : Cg} {i : Nat} (h : c.at_ = i) : appC s c = s.take i ++ c.put ++ s.drop (i + c.cut.length) := by unfold appC; rw [h]; rfl
theorem appC_len {s : List Int} {c : Cg} (h : mayC s c = true) : (appC s c).length = s.length - c.cut.length + c.put.length := by
  obtain ⟨i, hi, h1, _⟩ := mayC_iff.1 h
  rw [appC_nat hi]; simp; omega
theorem appC_le {s : List Int} {c : Cg} (h : mayC s c = true) : (appC s c).length ≤ 1000 := by
  rw [appC_len h]
  obtain ⟨i, hi, h1, h2, h3, h4, _⟩ := mayC_iff.1 h
  omega
theorem invC_invC (c : Cg) : invC (invC c) = c := rfl
/-- a change is turned about -/
theorem mayC_inv {s : List Int} {c : Cg} (h : mayC s c = true) : mayC (appC s c) (invC c) = true := by
  have hl := appC_len h
  obtain ⟨i, hi, h1, h2, h3, h4, h5, h6⟩ := mayC_iff.1 h
  refine mayC_iff.2 ⟨i, hi, ?_, ?_, ?_, ?_, h6, h5⟩
  · simp only [invC]; omega
  · simp only [invC]
    rw [appC_nat hi, List.append_assoc, List.drop_append_of_le_length (by simp; omega), List.drop_of_length_le (by simp; omega), List.nil_append, List.take_left']
    rfl
  · omega
  · simp only [invC]; omega
theorem appC_inv {s : List Int} {c : Cg} (h : mayC s c = true) : appC (appC s c) (invC c) = s := by
  obtain ⟨i, hi, h1, h2, h3, h4, h5, h6⟩ := mayC_iff.1 h
  rw [appC_nat (c := invC c) hi, appC_nat hi]
  simp only [invC]
  have e1 : (s.take i ++ c.put ++ s.drop (i + c.cut.length)).take i = s.take i := by
    rw [List.append_assoc, List.take_left' (by simp; omega)]
  have e2 : (s.take i ++ c.put ++ s.drop (i + c.cut.length)).drop (i + c.put.length) = s.drop (i + c.cut.length) := by
    rw [List.drop_left' (by simp; omega)]
  rw [e1, e2]
  have e3 : c.cut ++ s.drop (i + c.cut.length) = s.drop i := by
    have := List.take_append_drop c.cut.length (s.drop i)
    rw [h2, List.drop_drop] at this; exact this
  rw [List.append_assoc, e3, List.take_append_drop]

theorem rowC_app (s : List Int) (l m : List Cg) : rowC s (l ++ m) = (rowC s l).bind fun t => rowC t m := by
  induction l generalizing s with
  | nil => rfl
  | cons c l ih =>
    simp only [List.cons_append, rowC]
    split
    · exact ih _
    · rfl
theorem rowC_snoc (s : List Int) (l : List Cg) (c : Cg) : rowC s (l ++ [c]) = (rowC s l).bind fun t => if mayC t c = true then some (appC t c) else none := by
  rw [rowC_app]; rfl
theorem rowC_snoc_some {s t : List Int} {l : List Cg} (h : rowC s l = some t) (c : Cg) : rowC s (l ++ [c]) = if mayC t c = true then some (appC t c) else none := by
  rw [rowC_snoc, h]; rfl
theorem rowC_none {s : List Int} {l : List Cg} (h : rowC s l = none) (m : List Cg) : rowC s (l ++ m) = none := by rw [rowC_app, h]; rfl
theorem backC_app (l m : List Cg) : backC (l ++ m) = backC m ++ backC l := by simp [backC]
theorem backC_snoc (l : List Cg) (c : Cg) : backC (l ++ [c]) = invC c :: backC l := by simp [backC]
theorem backC_len (l : List Cg) : (backC l).length = l.length := by simp [backC]
theorem row_back {s t : List Int} {l : List Cg} (h : rowC s l = some t) : rowC t (backC l) = some s := by
  induction l generalizing s with
  | nil => simp only [rowC, Option.some.injEq] at h; subst h; rfl
  | cons c l ih =>
    simp only [rowC] at h
    split at h
    · rename_i hm
      have e : backC (c :: l) = backC l ++ [invC c] := by simp [backC]
      rw [e, rowC_snoc_some (ih h), if_pos (mayC_inv hm), appC_inv hm]
    · cases h
theorem rowC_len {s t : List Int} {l : List Cg} (h : rowC s l = some t) : t = s ∨ t.length ≤ 1000 := by
  induction l generalizing s with
  | nil => simp only [rowC, Option.some.injEq] at h; exact .inl h.symm
  | cons c l ih =>
    simp only [rowC] at h
    split at h
    · rename_i hm
      rcases ih h with rfl | h1
      · exact .inr (appC_le hm)
      · exact .inr h1
    · cases h

/-! what a text of characters becomes -/
theorem may_all {l : List Int} : may l = true ↔ ∀ x ∈ l, sgn x = true := by simp [may, List.all_eq_true]
theorem may_sub {a b : List Int} (h : may b = true) (hs : ∀ x ∈ a, x ∈ b) : may a = true := may_all.2 fun x hx => may_all.1 h x (hs x hx)
theorem may_take' {l : List Int} (h : may l = true) (n : Nat) : may (l.take n) = true := may_sub h fun _ hx => List.mem_of_mem_take hx
theorem may_drop' {l : List Int} (h : may l = true) (n : Nat) : may (l.drop n) = true := may_sub h fun _ hx => List.mem_of_mem_drop hx
theorem may_append {a b : List Int} : may (a ++ b) = (may a && may b) := by simp [may]
theorem appC_may {s : List Int} {c : Cg} (h : mayC s c = true) (hs : may s = true) : may (appC s c) = true := by
  obtain ⟨i, hi, _, _, _, _, _, h6⟩ := mayC_iff.1 h
  rw [appC_nat hi, may_append, may_append, may_take' hs, may_drop' hs, h6]; rfl
/-- a change that is made to fit -/
theorem fit_mayC {t C P : List Int} {i k : Nat} (hC : C = (t.drop i).take k) (hk : C.length = k) (hik : i + k ≤ t.length) (ht : may t = true) (htl : t.length ≤ 1000) (hP : may P = true) (hPl : P.length + (t.length - k) ≤ 1000) : mayC t ⟨i, C, P⟩ = true := by
  refine mayC_iff.2 ⟨i, rfl, ?_, ?_, htl, ?_, ?_, hP⟩
  · simp only; omega
  · simp only; rw [hk, ← hC]
  · simp only; omega
  · simp only; rw [hC]; exact may_take' (may_drop' ht _) _

/-! ## the least change -/
/-- how long two lists are alike -/
def cpl : List Int → List Int → Nat
  | a :: l, b :: r => if a = b then cpl l r + 1 else 0
  | _, _ => 0
theorem cpl_le (l r : List Int) : cpl l r ≤ l.length ∧ cpl l r ≤ r.length := by
  induction l generalizing r with
  | nil => simp [cpl]
  | cons a l ih =>
    cases r with
    | nil => simp [cpl]
    | cons b r =>
      have := ih r
      simp only [cpl]; split <;> simp <;> omega
theorem cpl_take (l r : List Int) : l.take (cpl l r) = r.take (cpl l r) := by
  induction l generalizing r with
  | nil => cases r <;> simp [cpl]
  | cons a l ih =>
    cases r with
    | nil => simp [cpl]
    | cons b r =>
      simp only [cpl]; split
      · rename_i h; subst h; simp [ih r]
      · simp
theorem cpl_ne {l r : List Int} (h1 : cpl l r < l.length) (h2 : cpl l r < r.length) : gt l (cpl l r) ≠ gt r (cpl l r) := by
  induction l generalizing r with
  | nil => simp at h1
  | cons a l ih =>
    cases r with
    | nil => simp at h2
    | cons b r =>
      by_cases h : a = b
      · simp only [cpl, h, if_true, List.length_cons] at h1 h2 ⊢
        have := ih (r := r) (by omega) (by omega)
        simpa [gt, List.getD] using this
      · simp only [cpl, h, if_false]
        simpa [gt, List.getD] using h
theorem cpl_eq {l r : List Int} {n : Nat} (h1 : n ≤ l.length) (h2 : n ≤ r.length) (h : l.take n = r.take n) (he : n = l.length ∨ n = r.length ∨ gt l n ≠ gt r n) : cpl l r = n := by
  induction n generalizing l r with
  | zero =>
    cases l with
    | nil => cases r <;> rfl
    | cons a l =>
      cases r with
      | nil => rfl
      | cons b r =>
        rcases he with he | he | he
        · simp at he
        · simp at he
        · have : a ≠ b := by simpa [gt, List.getD] using he
          simp only [cpl, this, if_false]
  | succ n ih =>
    cases l with
    | nil => simp at h1
    | cons a l =>
      cases r with
      | nil => simp at h2
      | cons b r =>
        simp only [List.take_succ_cons, List.cons.injEq] at h
        obtain ⟨rfl, h⟩ := h
        simp only [cpl, if_true]
        rw [ih (by simp at h1; omega) (by simp at h2; omega) h (by
          rcases he with he | he | he
          · left; simp at he; omega
          · right; left; simp at he; omega
          · right; right; simpa [gt, List.getD] using he)]
/-- of what is left behind the common beginning: how long the ends are alike -/
def csl (s t : List Int) : Nat := cpl (s.drop (cpl s t)).reverse (t.drop (cpl s t)).reverse
theorem csl_le (s t : List Int) : cpl s t + csl s t ≤ s.length ∧ cpl s t + csl s t ≤ t.length := by
  have h := cpl_le (s.drop (cpl s t)).reverse (t.drop (cpl s t)).reverse
  have h2 := cpl_le s t
  simp only [List.length_reverse, List.length_drop] at h
  unfold csl; omega
def leastC (s t : List Int) : Cg := ⟨cpl s t, (s.take (s.length - csl s t)).drop (cpl s t), (t.take (t.length - csl s t)).drop (cpl s t)⟩
theorem gt_rev {l : List Int} {j : Nat} (h : j < l.length) : gt l.reverse j = gt l (l.length - 1 - j) := by
  rw [gt_get (by simpa using h), gt_get (by omega), List.getElem_reverse]
theorem take_rev (l : List Int) (n : Nat) : l.reverse.take n = (l.drop (l.length - n)).reverse := by
  rw [List.take_reverse]
theorem csl_drop (s t : List Int) : s.drop (s.length - csl s t) = t.drop (t.length - csl s t) := by
  have h := cpl_take (s.drop (cpl s t)).reverse (t.drop (cpl s t)).reverse
  have hle := csl_le s t
  rw [take_rev, take_rev] at h
  have h2 := congrArg List.reverse h
  simp only [List.reverse_reverse, List.drop_drop, List.length_drop] at h2
  have e1 : cpl s t + (s.length - cpl s t - csl s t) = s.length - csl s t := by omega
  have e2 : cpl s t + (t.length - cpl s t - csl s t) = t.length - csl s t := by omega
  unfold csl at e1 e2 ⊢
  rw [e1, e2] at h2
  exact h2
theorem least_cut_len (s t : List Int) : (leastC s t).cut.length = s.length - csl s t - cpl s t := by
  have := csl_le s t; simp only [leastC, List.length_drop, List.length_take]; omega
theorem least_put_len (s t : List Int) : (leastC s t).put.length = t.length - csl s t - cpl s t := by
  have := csl_le s t; simp only [leastC, List.length_drop, List.length_take]; omega
theorem least_app (s t : List Int) : appC s (leastC s t) = t := by
  have hle := csl_le s t
  rw [appC_nat (c := leastC s t) (i := cpl s t) rfl, least_cut_len, show cpl s t + (s.length - csl s t - cpl s t) = s.length - csl s t from by omega, cpl_take, csl_drop]
  simp only [leastC]
  rw [show t.take (cpl s t) = (t.take (t.length - csl s t)).take (cpl s t) from by rw [List.take_take, Nat.min_eq_left (by omega)], List.take_append_drop, List.take_append_drop]
theorem least_may {s t : List Int} (hs : may s = true) (ht : may t = true) (h1 : s.length ≤ 1000) (h2 : t.length ≤ 1000) : mayC s (leastC s t) = true := by
  have hle := csl_le s t
  refine mayC_iff.2 ⟨cpl s t, rfl, ?_, ?_, h1, ?_, ?_, ?_⟩
  · rw [least_cut_len]; omega
  · rw [least_cut_len]; simp only [leastC]; rw [List.drop_take]
  · rw [least_put_len, least_cut_len]; omega
  · exact may_drop' (may_take' hs _) _
  · exact may_drop' (may_take' ht _) _
/-- what is cut and what is put have unlike ends -/
theorem gt_mid (l : List Int) (i n k : Nat) (h : i + k < n) : gt ((l.take n).drop i) k = gt l (i + k) := by
  simp [gt, List.getD, List.getElem?_drop, h]
theorem least_first {s t : List Int} (h1 : 0 < (leastC s t).cut.length) (h2 : 0 < (leastC s t).put.length) : gt (leastC s t).cut 0 ≠ gt (leastC s t).put 0 := by
  rw [least_cut_len] at h1
  rw [least_put_len] at h2
  simp only [leastC]
  rw [gt_mid _ _ _ _ (by omega), gt_mid _ _ _ _ (by omega)]
  exact cpl_ne (by omega) (by omega)
theorem least_last {s t : List Int} (h1 : 0 < (leastC s t).cut.length) (h2 : 0 < (leastC s t).put.length) : gt (leastC s t).cut ((leastC s t).cut.length - 1) ≠ gt (leastC s t).put ((leastC s t).put.length - 1) := by
  rw [least_cut_len] at h1 ⊢
  rw [least_put_len] at h2 ⊢
  simp only [leastC]
  rw [gt_mid _ _ _ _ (by omega), gt_mid _ _ _ _ (by omega)]
  have hc := cpl_ne (l := (s.drop (cpl s t)).reverse) (r := (t.drop (cpl s t)).reverse) (by simp only [List.length_reverse, List.length_drop]; unfold csl at h1; omega) (by simp only [List.length_reverse, List.length_drop]; unfold csl at h2; omega)
  rw [gt_rev (by rw [List.length_drop]; unfold csl at h1; omega), gt_rev (by rw [List.length_drop]; unfold csl at h2; omega)] at hc
  have gd : ∀ (l : List Int) (a j : Nat), gt (l.drop a) j = gt l (a + j) := fun l a j => by simp [gt, List.getD, List.getElem?_drop]
  rw [gd, gd, List.length_drop, List.length_drop] at hc
  have e1 : cpl s t + (s.length - csl s t - cpl s t - 1) = cpl s t + (s.length - cpl s t - 1 - csl s t) := by omega
  have e2 : cpl s t + (t.length - csl s t - cpl s t - 1) = cpl s t + (t.length - cpl s t - 1 - csl s t) := by omega
  rw [e1, e2]; exact hc
end Go.Proofs.Ythciodfkhgpegaa
