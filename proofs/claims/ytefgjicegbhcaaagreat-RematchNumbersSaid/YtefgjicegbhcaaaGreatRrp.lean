/- What the code's Parse tells, in two kinds; a pattern has at most nine groups; patterns of signs. -/
import Derived.Test.YtefgjicegbhcaaaGreatRga
namespace Go.Proofs.YtefgjicegbhcaaaGreat
open Go.RowKit ReM

theorem alt_nb (p : List Int) : ∀ c i, altP CC p.length (4 * p.length + 8) p 0 0 = .bad c i → c ≠ 0 :=
  fun c i h => (enough CC p.length (4 * p.length + 8)).1 p 0 0 (by omega) c i h
/-- what is told, in two kinds -/
theorem parseW_cases (p : List Int) : (∃ e f, parseW p = ([], e, f) ∧ e ≠ 0) ∨
    (∃ l g, parseW p = (l, 0, 0) ∧ altP CC p.length (4 * p.length + 8) p 0 0 = .ok l [] g ∧ parse CC p = (l, 0, 0) ∧ p.length ≤ 60 ∧ ¬ fbad p < p.length) := by
  unfold parseW
  by_cases h60 : 60 < p.length
  · rw [if_pos h60]; exact .inl ⟨3, 60, rfl, by decide⟩
  rw [if_neg h60]
  by_cases hf : fbad p < p.length
  · rw [if_pos hf]; exact .inl ⟨1, _, rfl, by decide⟩
  rw [if_neg hf]
  cases hA : altP CC p.length (4 * p.length + 8) p 0 0 with
  | bad e f =>
    have he := alt_nb p e f hA
    exact .inl ⟨e, f, by unfold parse; rw [hA], he⟩
  | ok l s g =>
    cases s with
    | nil =>
      have : parse CC p = (l, 0, 0) := parse_is hA
      exact .inr ⟨l, g, this, rfl, this, by omega, hf⟩
    | cons q t => exact .inl ⟨5, _, by unfold parse; rw [hA], by decide⟩
theorem reps_nine {n g : Nat} {a l : List Rn} {s s' : List Int} {g' : Nat} (h : reps n a s g = .ok l s' g') : g' = g := by
  unfold reps at h
  dsimp only at h
  split at h
  · split at h <;> (cases h; rfl)
  · split at h <;> (cases h; rfl)
  · split at h <;> (cases h; rfl)
  · split at h
    · split at h <;> (cases h; rfl)
    · cases h
  · cases h; rfl
/-- no reading counts more than nine groups -/
theorem all_nine (C : Cls) (n : Nat) (k : Nat) :
    (∀ s g d l s' g', altP C n k s g d = .ok l s' g' → g ≤ 9 → g' ≤ 9) ∧
    (∀ acc s g d l s' g', altsP C n k acc s g d = .ok l s' g' → g ≤ 9 → g' ≤ 9) ∧
    (∀ acc s g d l s' g', rowP C n k acc s g d = .ok l s' g' → g ≤ 9 → g' ≤ 9) ∧
    (∀ s g d l s' g', itemP C n k s g d = .ok l s' g' → g ≤ 9 → g' ≤ 9) ∧
    (∀ no s g d l s' g', grpP C n k no s g d = .ok l s' g' → g ≤ 9 → g' ≤ 9) := by
  induction k with
  | zero => refine ⟨?_, ?_, ?_, ?_, ?_⟩ <;> (intros; rename_i h _; simp [altP, altsP, rowP, itemP, grpP] at h)
  | succ k ih =>
    obtain ⟨iA, iB, iR, iI, iG⟩ := ih
    refine ⟨?_, ?_, ?_, ?_, ?_⟩
    · intro s g d l s' g' h hg
      unfold altP at h
      split at h
      · cases h
      · rename_i r s1 g1 hr
        have h1 := iR _ _ _ _ _ _ _ hr hg
        split at h
        · exact iB _ _ _ _ _ _ _ h h1
        · cases h; exact h1
    · intro acc s g d l s' g' h hg
      unfold altsP at h
      split at h
      · cases h
      · rename_i r s1 g1 hr
        have h1 := iR _ _ _ _ _ _ _ hr hg
        split at h
        · exact iB _ _ _ _ _ _ _ h h1
        · cases h; exact h1
    · intro acc s g d l s' g' h hg
      unfold rowP at h
      split at h
      · cases h; exact hg
      · split at h
        · cases h; exact hg
        · split at h
          · cases h
          · rename_i it s1 g1 hi
            exact iR _ _ _ _ _ _ _ h (iI _ _ _ _ _ _ hi hg)
    · intro s g d l s' g' h hg
      unfold itemP at h
      split at h
      · cases h
      · rename_i r s1
        split at h
        · cases h; exact hg
        · split at h
          · cases h; exact hg
          · split at h
            · rw [reps_nine h]; exact hg
            · split at h
              · split at h
                · cases h
                · split at h
                  · split at h
                    · exact iG _ _ _ _ _ _ _ h hg
                    · cases h
                  · split at h
                    · cases h
                    · exact iG _ _ _ _ _ _ _ h (by omega)
              · split at h
                · split at h
                  rename_i neg s2 hs2
                  split at h
                  · cases h
                  · rw [reps_nine h]; exact hg
                · split at h
                  · split at h
                    · cases h
                    · split at h
                      · cases h
                      · rw [reps_nine h]; exact hg
                  · split at h
                    · cases h
                    · rw [reps_nine h]; exact hg
    · intro no s g d l s' g' h hg
      unfold grpP at h
      split at h
      · cases h
      · rename_i r s1 g1 hr
        have h1 := iA _ _ _ _ _ _ hr hg
        split at h
        · rw [reps_nine h]; exact h1
        · cases h
theorem alt_nine {C : Cls} {n k : Nat} {s s' : List Int} {d g' : Nat} {l : List Rn} (h : altP C n k s 0 d = .ok l s' g') : g' ≤ 9 := (all_nine C n k).1 _ _ _ _ _ _ h (by omega)
theorem fbad_of {p : List Int} (h : ∀ x, x ∈ p → sgn x = true) : ¬ fbad p < p.length := by
  intro k
  have := fbad_at k
  rw [h _ (gt_mem k)] at this
  cases this
theorem sgn_of {p : List Int} (h : ¬ fbad p < p.length) : ∀ x, x ∈ p → sgn x = true := fbad_all (by omega)
theorem parseW_of {p : List Int} (h60 : p.length ≤ 60) (hs : ∀ x, x ∈ p → sgn x = true) : parseW p = parse CC p := by
  unfold parseW
  rw [if_neg (by omega), if_neg (fbad_of hs)]
end Go.Proofs.YtefgjicegbhcaaaGreat
