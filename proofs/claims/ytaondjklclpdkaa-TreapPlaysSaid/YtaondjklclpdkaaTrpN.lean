/- Layer 7: the document's set as a list of marks by order: put, take, find, depth; which marks lie at the top, which of two neighbours lies deeper. -/
import Derived.Test.YtaondjklclpdkaaTrpM
namespace Go.Proofs.Ytaondjklclpdkaa
open Go.RowKit

/-! ## by order -/
def Ord (l : List Mk) : Prop := l.Pairwise ahd
def ids (l : List Mk) : List Int := l.map Mk.id
def Ids (l : List Mk) : Prop := l.Pairwise fun a b => a.id ≠ b.id
theorem ahd_irrefl (a : Mk) : ¬ ahd a a := fun h => ahd_asymm h h
/-- how many stand ahead of a mark: where put sets it -/
def ahdN : List Mk → Mk → Nat
  | [], _ => 0
  | x :: l, m => if ahd x m then ahdN l m + 1 else 0
theorem ahdN_le (l : List Mk) (m : Mk) : ahdN l m ≤ l.length := by
  induction l with
  | nil => simp [ahdN]
  | cons x l ih => simp only [ahdN, List.length_cons]; split <;> omega
def putM (l : List Mk) (m : Mk) : List Mk := l.take (ahdN l m) ++ m :: l.drop (ahdN l m)
def takM (l : List Mk) (k : Nat) : List Mk := l.take k ++ l.drop (k + 1)
theorem putM_nil (m : Mk) : putM [] m = [m] := rfl
theorem putM_cons_pos {x m : Mk} {l : List Mk} (h : ahd x m) : putM (x :: l) m = x :: putM l m := by simp [putM, ahdN, h]
theorem putM_cons_neg {x m : Mk} {l : List Mk} (h : ¬ ahd x m) : putM (x :: l) m = m :: x :: l := by simp [putM, ahdN, h]
theorem putM_len (l : List Mk) (m : Mk) : (putM l m).length = l.length + 1 := by
  have := ahdN_le l m
  simp [putM]; omega
theorem putM_mem {l : List Mk} {m y : Mk} : y ∈ putM l m ↔ y = m ∨ y ∈ l := by
  induction l with
  | nil => simp [putM_nil]
  | cons x l ih =>
    by_cases h : ahd x m
    · rw [putM_cons_pos h, List.mem_cons, ih, List.mem_cons]
      constructor
      · rintro (h | h | h)
        · exact .inr (.inl h)
        · exact .inl h
        · exact .inr (.inr h)
      · rintro (h | h | h)
        · exact .inr (.inl h)
        · exact .inl h
        · exact .inr (.inr h)
    · rw [putM_cons_neg h, List.mem_cons]
theorem putM_ord {l : List Mk} {m : Mk} (h : Ord l) (hn : ∀ x, x ∈ l → x.id ≠ m.id) : Ord (putM l m) := by
  induction l with
  | nil => rw [putM_nil]; simp [Ord]
  | cons x l ih =>
    unfold Ord at h
    rw [List.pairwise_cons] at h
    by_cases hx : ahd x m
    · rw [putM_cons_pos hx]
      unfold Ord
      rw [List.pairwise_cons]
      refine ⟨fun y hy => ?_, ih h.2 fun y hy => hn y (by simp [hy])⟩
      rcases putM_mem.1 hy with rfl | hy
      · exact hx
      · exact h.1 y hy
    · rw [putM_cons_neg hx]
      unfold Ord
      rw [List.pairwise_cons, List.pairwise_cons]
      have hmx : ahd m x := (ahd_total (hn x (by simp))).resolve_left hx
      refine ⟨fun y hy => ?_, h⟩
      rcases List.mem_cons.1 hy with rfl | hy
      · exact hmx
      · exact ahd_trans hmx (h.1 y hy)
theorem putM_ids {l : List Mk} {m : Mk} (h : Ids l) (hn : ∀ x, x ∈ l → x.id ≠ m.id) : Ids (putM l m) := by
  induction l with
  | nil => rw [putM_nil]; simp [Ids]
  | cons x l ih =>
    unfold Ids at h
    rw [List.pairwise_cons] at h
    by_cases hx : ahd x m
    · rw [putM_cons_pos hx]
      unfold Ids
      rw [List.pairwise_cons]
      refine ⟨fun y hy => ?_, ih h.2 fun y hy => hn y (by simp [hy])⟩
      rcases putM_mem.1 hy with rfl | hy
      · exact hn x (by simp)
      · exact h.1 y hy
    · rw [putM_cons_neg hx]
      unfold Ids
      rw [List.pairwise_cons, List.pairwise_cons]
      refine ⟨fun y hy => ?_, h⟩
      exact (hn y hy).symm
theorem takM_ord {l : List Mk} (h : Ord l) (k : Nat) : Ord (takM l k) := by
  unfold Ord takM at *
  have e : (l.take k ++ l.drop (k + 1)).Sublist l := by
    have h1 : (l.drop (k + 1)).Sublist (l.drop k) := by
      rw [← List.drop_drop]
      exact List.drop_sublist _ _
    have := List.Sublist.append (List.Sublist.refl (l.take k)) h1
    rwa [List.take_append_drop] at this
  exact h.sublist e
theorem takM_sub (l : List Mk) (k : Nat) : (takM l k).Sublist l := by
  unfold takM
  have h1 : (l.drop (k + 1)).Sublist (l.drop k) := by
    rw [← List.drop_drop]
    exact List.drop_sublist _ _
  have := List.Sublist.append (List.Sublist.refl (l.take k)) h1
  rwa [List.take_append_drop] at this
/-- two rows by order with the same marks are one -/
theorem ord_one {l r : List Mk} (hl : Ord l) (hr : Ord r) (h : ∀ x, x ∈ l ↔ x ∈ r) : l = r := by
  induction l generalizing r with
  | nil =>
    cases r with
    | nil => rfl
    | cons y r => exact absurd ((h y).2 (by simp)) (by simp)
  | cons x l ih =>
    unfold Ord at hl
    rw [List.pairwise_cons] at hl
    cases r with
    | nil => exact absurd ((h x).1 (by simp)) (by simp)
    | cons y r =>
      have hr' := hr
      unfold Ord at hr'
      rw [List.pairwise_cons] at hr'
      have hxy : x = y := by
        rcases List.mem_cons.1 ((h x).1 (by simp)) with e | e
        · exact e
        · rcases List.mem_cons.1 ((h y).2 (by simp)) with e2 | e2
          · exact e2.symm
          · exact absurd (hl.1 y e2) (ahd_asymm (hr'.1 x e))
      subst hxy
      congr 1
      refine ih hl.2 hr'.2 fun z => ?_
      constructor
      · intro hz
        rcases List.mem_cons.1 ((h z).1 (by simp [hz])) with e | e
        · subst e; exact absurd (hl.1 z hz) (ahd_irrefl z)
        · exact e
      · intro hz
        rcases List.mem_cons.1 ((h z).2 (by simp [hz])) with e | e
        · subst e; exact absurd (hr'.1 z hz) (ahd_irrefl z)
        · exact e
/-! ## how deep, by the row -/
/-- what lies lower meets as many that lie above -/
theorem recs_mono {B : List Mk} {w m : Mk} (h : ovr w m) (hi : Ids B) (hn : ∀ x, x ∈ B → x.id ≠ w.id ∧ x.id ≠ m.id) : recs B w ≤ recs B m := by
  induction B generalizing w m with
  | nil => simp [recs]
  | cons x B ih =>
    unfold Ids at hi
    rw [List.pairwise_cons] at hi
    simp only [recs]
    have hx := hn x (by simp)
    have hB : ∀ y, y ∈ B → y.id ≠ w.id ∧ y.id ≠ m.id := fun y hy => hn y (by simp [hy])
    by_cases h1 : ovr x w
    · rw [if_pos h1, if_pos (ovr_trans h1 h)]
      exact Nat.le_refl _
    · rw [if_neg h1]
      by_cases h2 : ovr x m
      · rw [if_pos h2]
        have h3 : ovr w x := (ovr_total hx.1).resolve_left h1
        have := ih h3 hi.2 fun y hy => ⟨(hB y hy).1, (hi.1 y hy).symm⟩
        omega
      · rw [if_neg h2]
        exact ih h hi.2 hB
theorem recs_zero {B : List Mk} {w : Mk} (h : recs B w = 0) : ∀ x, x ∈ B → ¬ ovr x w := by
  induction B with
  | nil => simp
  | cons x B ih =>
    simp only [recs] at h
    split at h
    · omega
    · rename_i hx
      intro y hy
      rcases List.mem_cons.1 hy with rfl | hy
      · exact hx
      · exact ih h y hy
/-- how deep the mark behind A, ahead of B lies -/
def depR (A : List Mk) (x : Mk) (B : List Mk) : Nat := 1 + recs A.reverse x + recs B x
theorem recs_le (B : List Mk) (w : Mk) : recs B w ≤ B.length := by
  induction B generalizing w with
  | nil => simp [recs]
  | cons x B ih =>
    simp only [recs, List.length_cons]
    split
    · have := ih x; omega
    · have := ih w; omega
theorem depR_le (A : List Mk) (x : Mk) (B : List Mk) : 1 ≤ depR A x B ∧ depR A x B ≤ (A ++ x :: B).length := by
  have h1 := recs_le A.reverse x
  have h2 := recs_le B x
  simp only [depR, List.length_append, List.length_cons, List.length_reverse] at *
  omega
/-- of two neighbours the one that lies above is less deep -/
theorem depR_next {A B : List Mk} {w m : Mk} (hi : Ids (A ++ w :: m :: B)) : (ovr w m → depR A w (m :: B) < depR (A ++ [w]) m B) ∧ (ovr m w → depR (A ++ [w]) m B < depR A w (m :: B)) := by
  have hi' := hi
  unfold Ids at hi'
  rw [List.pairwise_append, List.pairwise_cons, List.pairwise_cons] at hi'
  obtain ⟨hA, ⟨hw, hm, hB⟩, hAB⟩ := hi'
  have hAr : Ids A.reverse := by
    unfold Ids
    rw [List.pairwise_reverse]
    exact hA.imp fun h => h.symm
  refine ⟨fun h => ?_, fun h => ?_⟩
  · have e1 : recs (m :: B) w = recs B w := by simp only [recs]; rw [if_neg (ovr_asymm h)]
    have e2 : recs ((A ++ [w]).reverse) m = recs A.reverse w + 1 := by rw [List.reverse_append]; simp only [List.reverse_cons, List.reverse_nil, List.nil_append, List.cons_append, recs]; rw [if_pos h]
    have e3 := recs_mono h (B := B) hB fun x hx => ⟨(hw x (by simp [hx])).symm, (hm x hx).symm⟩
    simp only [depR, e1, e2]
    omega
  · have e1 : recs (m :: B) w = recs B m + 1 := by simp only [recs]; rw [if_pos h]
    have e2 : recs ((A ++ [w]).reverse) m = recs A.reverse m := by rw [List.reverse_append]; simp only [List.reverse_cons, List.reverse_nil, List.nil_append, List.cons_append, recs]; rw [if_neg (ovr_asymm h)]
    have e3 := recs_mono h (B := A.reverse) hAr fun x hx => by
      have hx' : x ∈ A := by simpa using hx
      exact ⟨hAB x hx' m (by simp), hAB x hx' w (by simp)⟩
    simp only [depR, e1, e2]
    omega
/-- the mark at the top is above all others -/
theorem depR_top {A B : List Mk} {x : Mk} (h : depR A x B = 1) : ∀ y, y ∈ A ++ x :: B → ¬ ovr y x := by
  simp only [depR] at h
  have h1 : recs A.reverse x = 0 := by omega
  have h2 : recs B x = 0 := by omega
  intro y hy
  rcases List.mem_append.1 hy with hy | hy
  · exact recs_zero h1 y (by simpa using hy)
  · rcases List.mem_cons.1 hy with rfl | hy
    · exact fun h => ovr_asymm h h
    · exact recs_zero h2 y hy
/-- a mark above all others is at the top -/
theorem depR_one {A B : List Mk} {x : Mk} (h : ∀ y, y ∈ A ++ B → ovr x y) : depR A x B = 1 := by
  simp only [depR]
  rw [recs_none (X := A.reverse) fun y hy => h y (by simp at hy; simp [hy]), recs_none (X := B) fun y hy => h y (by simp [hy])]
/-- one mark of a row lies at the top -/
theorem top_ex (l : List Mk) (hi : Ids l) (h0 : l ≠ []) : ∃ A x B, l = A ++ x :: B ∧ ∀ y, y ∈ A ++ B → ovr x y := by
  induction l with
  | nil => exact absurd rfl h0
  | cons z l ih =>
    unfold Ids at hi
    rw [List.pairwise_cons] at hi
    by_cases hl : l = []
    · subst hl; exact ⟨[], z, [], rfl, by simp⟩
    · obtain ⟨A, x, B, rfl, h⟩ := ih hi.2 hl
      by_cases hz : ovr z x
      · refine ⟨[], z, A ++ x :: B, rfl, fun y hy => ?_⟩
        simp only [List.nil_append, List.mem_append, List.mem_cons] at hy
        rcases hy with hy | rfl | hy
        · exact ovr_trans hz (h y (by simp [hy]))
        · exact hz
        · exact ovr_trans hz (h y (by simp [hy]))
      · have hxz : ovr x z := (ovr_total (hi.1 x (by simp))).resolve_left hz
        refine ⟨z :: A, x, B, rfl, fun y hy => ?_⟩
        simp only [List.cons_append, List.mem_cons] at hy
        rcases hy with rfl | hy
        · exact hxz
        · exact h y hy

end Go.Proofs.Ytaondjklclpdkaa
