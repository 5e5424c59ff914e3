/- The order of tab stops, on lists: fields by kind and number; the order that chapter 18 defines, and that there is but one. -/
import Derived.Test.YthkkpcfmifhllaaFlM
namespace Go.Proofs.Ythkkpcfmifhllaa

def homeF (m : Fl) : Bool := decide (m.kind = 0) || decide (m.kind = 1)
/-- a home with a number that counts -/
def stopF (m : Fl) : Bool := homeF m && decide (0 ≤ m.num)
/-- i stands ahead of j -/
def ahdF (l : List Fl) (i j : Nat) : Prop :=
  ((rgt l i).num ≠ 0 ∧ (rgt l j).num = 0) ∨ (((rgt l i).num = 0 ↔ (rgt l j).num = 0) ∧ ((rgt l i).num < (rgt l j).num ∨ ((rgt l i).num = (rgt l j).num ∧ i < j)))
theorem ahdF_irrefl (l : List Fl) (i : Nat) : ¬ ahdF l i i := by unfold ahdF; omega
theorem ahdF_asymm {l : List Fl} {i j : Nat} (h : ahdF l i j) : ¬ ahdF l j i := by unfold ahdF at h ⊢; omega
theorem ahdF_trans {l : List Fl} {i j k : Nat} (h : ahdF l i j) (h2 : ahdF l j k) : ahdF l i k := by unfold ahdF at h h2 ⊢; omega
theorem ahdF_total {l : List Fl} {i j : Nat} (h : i ≠ j) : ahdF l i j ∨ ahdF l j i := by unfold ahdF; omega
/-- L is the order of l -/
structure OrdF (l : List Fl) (L : List Nat) : Prop where
  sorted : L.Pairwise (ahdF l)
  mem : ∀ i, i ∈ L ↔ i < l.length ∧ stopF (rgt l i) = true
theorem sorted_unique {α : Type} {R : α → α → Prop} (hir : ∀ a, ¬ R a a) (has : ∀ {a b}, R a b → ¬ R b a) : ∀ {A B : List α}, A.Pairwise R → B.Pairwise R → (∀ x, x ∈ A ↔ x ∈ B) → A = B
  | [], [], _, _, _ => rfl
  | [], b :: B, _, _, h => by have := (h b).2 (List.mem_cons_self ..); cases this
  | a :: A, [], _, _, h => by have := (h a).1 (List.mem_cons_self ..); cases this
  | a :: A, b :: B, hA, hB, h => by
    rw [List.pairwise_cons] at hA hB
    have e : a = b := by
      rcases List.mem_cons.1 ((h a).1 (List.mem_cons_self ..)) with h1 | h1
      · exact h1
      · rcases List.mem_cons.1 ((h b).2 (List.mem_cons_self ..)) with h2 | h2
        · exact h2.symm
        · exact absurd (hB.1 a h1) (has (hA.1 b h2))
    subst e
    congr 1
    refine sorted_unique hir has hA.2 hB.2 fun x => ⟨fun hx => ?_, fun hx => ?_⟩
    · rcases List.mem_cons.1 ((h x).1 (List.mem_cons_of_mem _ hx)) with h1 | h1
      · subst h1; exact absurd (hA.1 x hx) (hir x)
      · exact h1
    · rcases List.mem_cons.1 ((h x).2 (List.mem_cons_of_mem _ hx)) with h1 | h1
      · subst h1; exact absurd (hB.1 x hx) (hir x)
      · exact h1
theorem OrdF.unique {l : List Fl} {A B : List Nat} (h : OrdF l A) (k : OrdF l B) : A = B :=
  sorted_unique (ahdF_irrefl l) ahdF_asymm h.sorted k.sorted fun x => (h.mem x).trans (k.mem x).symm
theorem takeW_mem {α : Type} (p : α → Bool) : ∀ (L : List α) (j : α), j ∈ L.takeWhile p → p j = true
  | [], j, h => by cases h
  | a :: L, j, h => by
    rw [List.takeWhile_cons] at h
    split at h
    · rename_i ha
      rcases List.mem_cons.1 h with rfl | h
      · exact ha
      · exact takeW_mem p L j h
    · cases h
/-! ## insertion, as the document goes -/
/-- where i goes in: behind all whose number is not greater -/
def insF (l : List Fl) (i : Nat) (L : List Nat) : List Nat := L.takeWhile (fun j => decide ((rgt l j).num ≤ (rgt l i).num)) ++ i :: L.dropWhile (fun j => decide ((rgt l j).num ≤ (rgt l i).num))
/-- the stops with a number of the first k, in order; those of 0 -/
def posF (l : List Fl) : Nat → List Nat
  | 0 => []
  | k + 1 => if stopF (rgt l k) && !decide ((rgt l k).num = 0) then insF l k (posF l k) else posF l k
def zerF (l : List Fl) : Nat → List Nat
  | 0 => []
  | k + 1 => if stopF (rgt l k) && decide ((rgt l k).num = 0) then zerF l k ++ [k] else zerF l k
def ordF (l : List Fl) : List Nat := posF l l.length ++ zerF l l.length
theorem zerF_mem (l : List Fl) : ∀ k i, i ∈ zerF l k ↔ i < k ∧ stopF (rgt l i) = true ∧ (rgt l i).num = 0
  | 0, i => by simp [zerF]
  | k + 1, i => by
    have ih := zerF_mem l k i
    rw [zerF]
    split
    · rename_i h
      simp only [Bool.and_eq_true, decide_eq_true_eq] at h
      rw [List.mem_append, ih, List.mem_singleton]
      constructor
      · rintro (⟨h1, h2⟩ | rfl)
        · exact ⟨by omega, h2⟩
        · exact ⟨by omega, h⟩
      · rintro ⟨h1, h2⟩
        by_cases e : i = k
        · exact .inr e
        · exact .inl ⟨by omega, h2⟩
    · rename_i h
      simp only [Bool.and_eq_true, decide_eq_true_eq] at h
      rw [ih]
      constructor
      · rintro ⟨h1, h2⟩; exact ⟨by omega, h2⟩
      · rintro ⟨h1, h2⟩
        refine ⟨?_, h2⟩
        by_cases e : i = k
        · subst e; exact absurd h2 h
        · omega
theorem insF_mem (l : List Fl) (k i : Nat) (L : List Nat) : i ∈ insF l k L ↔ i = k ∨ i ∈ L := by
  unfold insF
  have e : L.takeWhile (fun j => decide ((rgt l j).num ≤ (rgt l k).num)) ++ L.dropWhile (fun j => decide ((rgt l j).num ≤ (rgt l k).num)) = L := List.takeWhile_append_dropWhile
  rw [List.mem_append, List.mem_cons]
  conv => rhs; rw [← e, List.mem_append]
  constructor
  · rintro (h | h | h)
    · exact .inr (.inl h)
    · exact .inl h
    · exact .inr (.inr h)
  · rintro (h | h | h)
    · exact .inr (.inl h)
    · exact .inl h
    · exact .inr (.inr h)
theorem posF_mem (l : List Fl) : ∀ k i, i ∈ posF l k ↔ i < k ∧ stopF (rgt l i) = true ∧ (rgt l i).num ≠ 0
  | 0, i => by simp [posF]
  | k + 1, i => by
    have ih := posF_mem l k i
    rw [posF]
    split
    · rename_i h
      simp only [Bool.and_eq_true, Bool.not_eq_true', decide_eq_false_iff_not] at h
      rw [insF_mem, ih]
      constructor
      · rintro (rfl | ⟨h1, h2⟩)
        · exact ⟨by omega, h⟩
        · exact ⟨by omega, h2⟩
      · rintro ⟨h1, h2⟩
        by_cases e : i = k
        · exact .inl e
        · exact .inr ⟨by omega, h2⟩
    · rename_i h
      simp only [Bool.and_eq_true, Bool.not_eq_true', decide_eq_false_iff_not] at h
      rw [ih]
      constructor
      · rintro ⟨h1, h2⟩; exact ⟨by omega, h2⟩
      · rintro ⟨h1, h2⟩
        refine ⟨?_, h2⟩
        by_cases e : i = k
        · subst e; exact absurd h2 h
        · omega
theorem zerF_sorted (l : List Fl) : ∀ k, (zerF l k).Pairwise (ahdF l)
  | 0 => List.Pairwise.nil
  | k + 1 => by
    have ih := zerF_sorted l k
    rw [zerF]
    split
    · rename_i h
      simp only [Bool.and_eq_true, decide_eq_true_eq] at h
      rw [List.pairwise_append]
      refine ⟨ih, List.pairwise_singleton .., fun i hi j hj => ?_⟩
      obtain ⟨h1, _, h3⟩ := (zerF_mem l k i).1 hi
      rw [List.mem_singleton.1 hj]
      unfold ahdF; omega
    · exact ih
theorem posF_sorted (l : List Fl) : ∀ k, (posF l k).Pairwise (ahdF l)
  | 0 => List.Pairwise.nil
  | k + 1 => by
    have ih := posF_sorted l k
    rw [posF]
    split
    · rename_i h
      simp only [Bool.and_eq_true, Bool.not_eq_true', decide_eq_false_iff_not] at h
      have hm := posF_mem l k
      unfold insF
      have e : (posF l k).takeWhile (fun j => decide ((rgt l j).num ≤ (rgt l k).num)) ++ (posF l k).dropWhile (fun j => decide ((rgt l j).num ≤ (rgt l k).num)) = posF l k := List.takeWhile_append_dropWhile
      have ih' := ih
      rw [← e, List.pairwise_append] at ih'
      obtain ⟨p1, p2, p3⟩ := ih'
      have hT : ∀ j, j ∈ (posF l k).takeWhile (fun j => decide ((rgt l j).num ≤ (rgt l k).num)) → (rgt l j).num ≤ (rgt l k).num ∧ j ∈ posF l k := fun j hj => by
        have := takeW_mem _ _ _ hj
        exact ⟨by simpa using this, (List.takeWhile_sublist _).subset hj⟩
      have hD : ∀ j, j ∈ (posF l k).dropWhile (fun j => decide ((rgt l j).num ≤ (rgt l k).num)) → (rgt l k).num < (rgt l j).num ∧ j ∈ posF l k := fun j hj => by
        have hjm : j ∈ posF l k := (List.dropWhile_sublist _).subset hj
        have h3 := (hm j).1 hjm
        refine ⟨?_, hjm⟩
        cases hd : (posF l k).dropWhile (fun j => decide ((rgt l j).num ≤ (rgt l k).num)) with
        | nil => rw [hd] at hj; cases hj
        | cons d ds =>
          have hdn : ¬ (rgt l d).num ≤ (rgt l k).num := by
            have := List.head_dropWhile_not (fun j => decide ((rgt l j).num ≤ (rgt l k).num)) (by rw [hd]; simp)
            simp only [hd, List.head_cons] at this
            simpa using this
          rw [hd] at hj p2
          have hdm : d ∈ posF l k := (List.dropWhile_sublist (l := posF l k) (fun j => decide ((rgt l j).num ≤ (rgt l k).num))).subset (by rw [hd]; exact List.mem_cons_self ..)
          rcases List.mem_cons.1 hj with rfl | hj2
          · omega
          · have h1 := (List.pairwise_cons.1 p2).1 j hj2
            have h2 := (hm d).1 hdm
            unfold ahdF at h1
            omega
      rw [List.pairwise_append]
      refine ⟨p1, List.pairwise_cons.2 ⟨fun j hj => ?_, p2⟩, fun i hi j hj => ?_⟩
      · have h1 := hD j hj
        have h2 := (hm j).1 h1.2
        unfold ahdF; omega
      · rcases List.mem_cons.1 hj with rfl | hj2
        · have h1 := hT i hi
          have h2 := (hm i).1 h1.2
          unfold ahdF; omega
        · exact p3 i hi j hj2
    · exact ih
theorem ordF_ord (l : List Fl) : OrdF l (ordF l) := by
  refine ⟨?_, fun i => ?_⟩
  · unfold ordF
    rw [List.pairwise_append]
    refine ⟨posF_sorted l _, zerF_sorted l _, fun i hi j hj => ?_⟩
    have h1 := (posF_mem l _ i).1 hi
    have h2 := (zerF_mem l _ j).1 hj
    unfold ahdF; omega
  · unfold ordF
    rw [List.mem_append, posF_mem, zerF_mem]
    constructor
    · rintro (⟨h1, h2, _⟩ | ⟨h1, h2, _⟩) <;> exact ⟨h1, h2⟩
    · rintro ⟨h1, h2⟩
      by_cases h : (rgt l i).num = 0
      · exact .inr ⟨h1, h2, h⟩
      · exact .inl ⟨h1, h2, h⟩
theorem ordF_len (l : List Fl) : (ordF l).length ≤ l.length := by
  have hn : (ordF l).Nodup := (ordF_ord l).sorted.imp fun {a b} h => by intro e; subst e; exact ahdF_irrefl l a h
  have hs : ∀ i, i ∈ ordF l → i ∈ List.range l.length := fun i hi => List.mem_range.2 (((ordF_ord l).mem i).1 hi).1
  simpa using hn.length_le_of_subset hs
end Go.Proofs.Ythkkpcfmifhllaa
