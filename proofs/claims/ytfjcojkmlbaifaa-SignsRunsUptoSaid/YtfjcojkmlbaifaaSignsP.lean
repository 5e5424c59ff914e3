/- Plain facts on runs put together, and on cases of parts. -/
import Derived.Test.YtfjcojkmlbaifaaSignsW
namespace Go.Proofs.Ytfjcojkmlbaifaa
open Go.RowKit

theorem runs_up (r : Int) : runs (up r) = runs r := by
  unfold runs; rw [cls_up]
  by_cases h : (97 ≤ r ∧ r ≤ 122) ∨ (224 ≤ r ∧ r ≤ 254 ∧ r ≠ 247)
  · rw [up_yes h]; exact decide_congr (by constructor <;> (rintro ⟨h1, h2⟩; exact ⟨h1, by omega⟩))
  · rw [up_no h]
theorem runs_lo (r : Int) : runs (lo r) = runs r := by
  unfold runs; rw [cls_lo]
  by_cases h : (65 ≤ r ∧ r ≤ 90) ∨ (192 ≤ r ∧ r ≤ 222 ∧ r ≠ 215)
  · rw [lo_yes h]; exact decide_congr (by constructor <;> (rintro ⟨h1, h2⟩; exact ⟨h1, by omega⟩))
  · rw [lo_no h]

theorem pst_count (g : Int → Int) (l : List Int) : (pst g l).1.length = l.countP (runs · = true) := by
  refine snocInd (P := fun l => (pst g l).1.length = l.countP (runs · = true)) (by simp [pst]) (fun l r ih => ?_) l
  rw [pst_snoc]; unfold pstep
  cases hr : runs r with
  | true => simp [hr, ih]
  | false => simp [hr, ih]
theorem pst_both (l : List Int) : (pst up l).2 = (pst lo l).2 ∧ (((pst up l).1 = [] ∧ (pst lo l).1 = []) ∨ ∃ a r, (pst up l).1 = up a :: r ∧ (pst lo l).1 = lo a :: r) ∧ ((pst up l).1 = [] → (pst up l).2 = false) := by
  refine snocInd (P := fun l => (pst up l).2 = (pst lo l).2 ∧ (((pst up l).1 = [] ∧ (pst lo l).1 = []) ∨ ∃ a r, (pst up l).1 = up a :: r ∧ (pst lo l).1 = lo a :: r) ∧ ((pst up l).1 = [] → (pst up l).2 = false)) ?_ (fun l x ih => ?_) l
  · simp [pst]
  · rw [pst_snoc, pst_snoc]
    obtain ⟨h1, h2, h3⟩ := ih
    unfold pstep
    cases hr : runs x with
    | false => simpa using h2
    | true =>
      rcases h2 with ⟨e1, e2⟩ | ⟨a, r, e1, e2⟩
      · have h4 := h3 e1
        rw [e1, e2, ← h1, h4]
        simp only [if_true, List.nil_append, Bool.false_eq_true, if_false]
        exact ⟨by simp, .inr ⟨x, [], by simp, by simp⟩, by simp⟩
      · rw [e1, e2, ← h1]
        refine ⟨by simp, .inr ⟨a, r ++ [if (pst up l).2 = true then x else up x], ?_, ?_⟩, by simp⟩ <;> simp
theorem pst_runs (g : Int → Int) (hg : ∀ r, runs (g r) = runs r) (l : List Int) : ∀ x ∈ (pst g l).1, runs x = true := by
  refine snocInd (P := fun l => ∀ x ∈ (pst g l).1, runs x = true) (by simp [pst]) (fun l r ih => ?_) l
  rw [pst_snoc]; unfold pstep
  cases hr : runs r with
  | false => simpa using ih
  | true =>
    intro x hx
    simp only [if_true, List.mem_append, List.mem_singleton] at hx
    rcases hx with hx | rfl
    · exact ih x hx
    · split
      · exact hr
      · split
        · rw [hg]; exact hr
        · rw [runs_up]; exact hr
def fby (g : Int → Int) : List Int → List Int
  | [] => []
  | a :: r => g a :: r
theorem pst_all (g : Int → Int) (L : List Int) (h : ∀ x ∈ L, runs x = true) : (pst g L).1 = fby g L ∧ (L ≠ [] → (pst g L).2 = true) := by
  refine snocInd (P := fun L => (∀ x ∈ L, runs x = true) → (pst g L).1 = fby g L ∧ (L ≠ [] → (pst g L).2 = true)) (by simp [pst, fby]) (fun l r ih h => ?_) L h
  have hr := h r (by simp)
  obtain ⟨i1, i2⟩ := ih (fun x hx => h x (by simp [hx]))
  rw [pst_snoc]; unfold pstep
  rw [hr]
  simp only [if_true]
  refine ⟨?_, fun _ => trivial⟩
  cases l with
  | nil => simp [pst, fby]
  | cons a l => rw [i2 (by simp), i1]; simp [fby]
theorem pas_idem (l : List Int) : pas up (pas up l) = pas up l := by
  obtain ⟨h, _⟩ := pst_all up (pas up l) (pst_runs up runs_up l)
  unfold pas at *
  rw [h]
  rcases (pst_both l).2.1 with ⟨e, _⟩ | ⟨a, r, e, _⟩
  · rw [e]; rfl
  · rw [e]; simp [fby, up_up]
theorem fold_pre (P Q : List Int) (b : Bool) (l : List Int) : l.foldl (pstep up) (P ++ Q, b) = (P ++ (l.foldl (pstep up) (Q, b)).1, (l.foldl (pstep up) (Q, b)).2) := by
  induction l generalizing Q b with
  | nil => rfl
  | cons r l ih =>
    simp only [List.foldl_cons]
    unfold pstep
    cases hr : runs r with
    | false => simp only [Bool.false_eq_true, if_false]; exact ih Q false
    | true =>
      simp only [if_true]
      have e : (if P ++ Q = [] then up r else up r) = up r := by split <;> rfl
      have e2 : (if Q = [] then up r else up r) = up r := by split <;> rfl
      rw [e, e2, List.append_assoc]
      exact ih _ true
theorem pas_twice (l : List Int) (x : Int) (hx : cls x ≠ 3) : pas up (((l ++ [45, x, 45])) ++ l) = pas up l ++ pas up l := by
  have h45 : runs 45 = false := by decide
  have hx' : runs x = false := by simp [runs, hx]
  unfold pas pst
  rw [List.foldl_append, List.foldl_append]
  have e : [45, x, 45].foldl (pstep up) (l.foldl (pstep up) ([], false)) = ((l.foldl (pstep up) ([], false)).1, false) := by
    simp [pstep, h45, hx']
  rw [e]
  have := fold_pre (l.foldl (pstep up) ([], false)).1 [] false l
  rw [List.append_nil] at this
  rw [this]

/-! parts -/
theorem cas_app {h : Int} (hh : h = 0 ∨ h = 1 ∨ h = 2) (a b : List Int) : cas (a ++ b) h = cas a h ++ cas b h := by
  rcases hh with rfl | rfl | rfl
  · rfl
  · simp [cas]
  · simp [cas]
theorem cas_cap {a : List Int} (ha : a ≠ []) (b : List Int) : cas (a ++ b) 3 = cas a 3 ++ b := by
  cases a with
  | nil => exact absurd rfl ha
  | cons x a => simp [cas, hcap]
theorem cas_len (a : List Int) (h : Int) : (cas a h).length ≤ a.length := by
  unfold cas; repeat' split
  · simp
  · simp
  · rw [hcap_len]; exact Nat.le_refl _
  · exact pas_len _ _
  · exact pas_len _ _
  · exact Nat.le_refl _
theorem cas_rng {a : List Int} (ha : rng a) (h : Int) : rng (cas a h) := by
  have hp : ∀ g : Int → Int, (∀ r, -2147483648 ≤ r ∧ r ≤ 2147483647 → -2147483648 ≤ g r ∧ g r ≤ 2147483647) → rng (pas g a) := by
    intro g hg
    refine snocInd (P := fun l => rng l → rng (pst g l).1) (fun _ => by simp [pst]; exact rng_nil) (fun l r ih hl => ?_) a ha
    have hr := hl r (by simp)
    have hl' : rng l := fun x hx => hl x (by simp [hx])
    rw [pst_snoc]; unfold pstep; split
    · refine rng_app (ih hl') (rng_one ?_)
      split
      · exact hr
      · split
        · exact hg r hr
        · exact up_rng hr
    · exact ih hl'
  unfold cas; repeat' split
  · intro x hx; obtain ⟨y, hy, rfl⟩ := List.mem_map.1 hx; exact up_rng (ha y hy)
  · intro x hx; obtain ⟨y, hy, rfl⟩ := List.mem_map.1 hx; exact lo_rng (ha y hy)
  · cases a with
    | nil => exact rng_nil
    | cons x a => exact rng_cons (up_rng (ha x (by simp))) (fun y hy => ha y (by simp [hy]))
  · exact hp up fun r hr => up_rng hr
  · exact hp lo fun r hr => lo_rng hr
  · exact ha
end Go.Proofs.Ytfjcojkmlbaifaa
