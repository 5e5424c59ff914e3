/- Layer 8: what is left behind a reading is no longer (all_len); enough rounds (enough, NB: no fault has the code 0; 4 * length + 2); more rounds of a class change nothing. -/
import Derived.Test.YtefgjicegbhcaaaGreatReM
namespace Go.Proofs.YtefgjicegbhcaaaGreat
namespace ReM
/-! ## what is left is no longer -/
theorem member_len {C : Cls} {i : Int} {s : List Int} {l : List Int} {o : Bool} {s' : List Int} (h : member C i s = .ok l o s') : s'.length < s.length := by
  unfold member at h
  split at h
  · cases h
  · rename_i r t
    split at h
    · split at h
      · cases h
      · split at h
        · cases h; simp; omega
        · cases h
    · split at h
      · cases h
      · cases h; simp
theorem classL_len {C : Cls} {n k : Nat} {acc s l s' : List Int} (h : classL C n k acc s = .ok l s') : s'.length < s.length := by
  induction k generalizing acc s with
  | zero => cases h
  | succ k ih =>
    unfold classL at h
    split at h
    · cases h
    · rename_i m o s1 hm
      have h1 := member_len hm
      split at h
      · split at h
        · cases h; simp at h1; omega
        · have := ih h; omega
      · rename_i s2 hs2
        have h2 : s2.length < s1.length := by
          split at hs2
          · split at hs2
            · split at hs2
              · cases hs2; simp
              · cases hs2
            · cases hs2
          · cases hs2
        split at h
        · cases h
        · rename_i m2 o2 s3 hm2
          have h3 := member_len hm2
          split at h
          · cases h
          · split at h
            · cases h; simp at h3; omega
            · have := ih h; omega
theorem times_len {n : Nat} {s s' : List Int} {lo hi : Int} (h : times n s = .ok lo hi s') : s'.length < s.length := by
  unfold times at h
  repeat' split at h
  all_goals first | (cases h; done) | (cases h; simp; omega) | (cases h; simp)
theorem reps_len {n g : Nat} {a l : List Rn} {s s' : List Int} {g' : Nat} (h : reps n a s g = .ok l s' g') : s'.length ≤ s.length := by
  unfold reps at h
  dsimp only at h
  split at h
  · split at h <;> (cases h; simp <;> omega)
  · split at h <;> (cases h; simp <;> omega)
  · split at h <;> (cases h; simp <;> omega)
  · split at h
    · rename_i s1 ht
      have := times_len ht
      split at h
      · cases h; simp at this ⊢; omega
      · cases h; simp at this ⊢; omega
    · cases h
  · cases h; exact Nat.le_refl _
theorem all_len (C : Cls) (n : Nat) (k : Nat) :
    (∀ s g d l s' g', altP C n k s g d = .ok l s' g' → s'.length ≤ s.length) ∧
    (∀ acc s g d l s' g', altsP C n k acc s g d = .ok l s' g' → s'.length ≤ s.length) ∧
    (∀ acc s g d l s' g', rowP C n k acc s g d = .ok l s' g' → s'.length ≤ s.length) ∧
    (∀ s g d l s' g', itemP C n k s g d = .ok l s' g' → s'.length < s.length) ∧
    (∀ no s g d l s' g', grpP C n k no s g d = .ok l s' g' → s'.length < s.length) := by
  induction k with
  | zero => refine ⟨?_, ?_, ?_, ?_, ?_⟩ <;> (intros; rename_i h; simp [altP, altsP, rowP, itemP, grpP] at h)
  | succ k ih =>
    obtain ⟨iA, iB, iR, iI, iG⟩ := ih
    refine ⟨?_, ?_, ?_, ?_, ?_⟩
    · intro s g d l s' g' h
      unfold altP at h
      split at h
      · cases h
      · rename_i r s1 g1 hr
        have h1 := iR _ _ _ _ _ _ _ hr
        split at h
        · have h2 := iB _ _ _ _ _ _ _ h
          simp at h1; omega
        · cases h; exact h1
    · intro acc s g d l s' g' h
      unfold altsP at h
      split at h
      · cases h
      · rename_i r s1 g1 hr
        have h1 := iR _ _ _ _ _ _ _ hr
        split at h
        · have h2 := iB _ _ _ _ _ _ _ h
          simp at h1; omega
        · cases h; exact h1
    · intro acc s g d l s' g' h
      unfold rowP at h
      split at h
      · cases h; exact Nat.le_refl _
      · split at h
        · cases h; exact Nat.le_refl _
        · split at h
          · cases h
          · rename_i it s1 g1 hi
            have h1 := iI _ _ _ _ _ _ hi
            have h2 := iR _ _ _ _ _ _ _ h
            omega
    · intro s g d l s' g' h
      unfold itemP at h
      split at h
      · cases h
      · rename_i r s1
        split at h
        · cases h; simp
        · split at h
          · cases h; simp
          · split at h
            · have := reps_len h; simp; omega
            · split at h
              · split at h
                · cases h
                · split at h
                  · split at h
                    · have := iG _ _ _ _ _ _ _ h; simp at this ⊢; omega
                    · cases h
                  · split at h
                    · cases h
                    · have := iG _ _ _ _ _ _ _ h; simp at this ⊢; omega
              · split at h
                · split at h
                  rename_i neg s2 hs2
                  have h2 : s2.length ≤ s1.length := by
                    split at hs2
                    · cases hs2; simp
                    · cases hs2; exact Nat.le_refl _
                  split at h
                  · cases h
                  · rename_i cl s3 hc
                    have h3 := classL_len hc
                    have h4 := reps_len h
                    simp; omega
                · split at h
                  · split at h
                    · cases h
                    · split at h
                      · cases h
                      · have := reps_len h; simp; omega
                  · split at h
                    · cases h
                    · have := reps_len h; simp; omega
    · intro no s g d l s' g' h
      unfold grpP at h
      split at h
      · cases h
      · rename_i l1 s1 g1 ha
        have h1 := iA _ _ _ _ _ _ ha
        split at h
        · have h2 := reps_len h
          simp at h1; omega
        · cases h
end ReM
namespace ReM
/-! ## enough rounds: no fault has the code 0 -/
def NB (r : Rg) : Prop := ∀ c i, r = .bad c i → c ≠ 0
theorem NB.ok (l : List Rn) (s : List Int) (g : Nat) : NB (.ok l s g) := fun c i h => by cases h
theorem NB.bad {c i : Int} (h : c ≠ 0) : NB (.bad c i) := fun c' i' e => by cases e; exact h
theorem reps_nb (n g : Nat) (a : List Rn) (s : List Int) : NB (reps n a s g) := by
  unfold reps
  dsimp only
  repeat' split
  all_goals first | exact NB.ok _ _ _ | exact NB.bad (by decide)
theorem enough (C : Cls) (n : Nat) (k : Nat) :
    (∀ s g d, 4 * s.length + 2 ≤ k → NB (altP C n k s g d)) ∧
    (∀ acc s g d, 4 * s.length + 2 ≤ k → NB (altsP C n k acc s g d)) ∧
    (∀ acc s g d, 4 * s.length + 1 ≤ k → NB (rowP C n k acc s g d)) ∧
    (∀ s g d, s ≠ [] → 4 * s.length ≤ k → NB (itemP C n k s g d)) ∧
    (∀ no s g d, 4 * s.length + 3 ≤ k → NB (grpP C n k no s g d)) := by
  induction k with
  | zero =>
    refine ⟨?_, ?_, ?_, ?_, ?_⟩
    · intro s g d h; omega
    · intro acc s g d h; omega
    · intro acc s g d h; omega
    · intro s g d h0 h; cases s with
      | nil => exact absurd rfl h0
      | cons r s => simp at h
    · intro no s g d h; omega
  | succ k ih =>
    obtain ⟨iA, iB, iR, iI, iG⟩ := ih
    refine ⟨?_, ?_, ?_, ?_, ?_⟩
    · intro s g d hk
      unfold altP
      have h0 := iR [] s g d (by omega)
      split
      · rename_i c i hr
        exact NB.bad (h0 c i hr)
      · rename_i r s1 g1 hr
        have h1 := (all_len C n k).2.2.1 _ _ _ _ _ _ _ hr
        split
        · simp at h1
          exact iB _ _ _ _ (by omega)
        · exact NB.ok _ _ _
    · intro acc s g d hk
      unfold altsP
      have h0 := iR [] s g d (by omega)
      split
      · rename_i c i hr
        exact NB.bad (h0 c i hr)
      · rename_i r s1 g1 hr
        have h1 := (all_len C n k).2.2.1 _ _ _ _ _ _ _ hr
        split
        · simp at h1
          exact iB _ _ _ _ (by omega)
        · exact NB.ok _ _ _
    · intro acc s g d hk
      unfold rowP
      split
      · exact NB.ok _ _ _
      · rename_i r s1
        split
        · exact NB.ok _ _ _
        · have h0 := iI (r :: s1) g d (by simp) (by omega)
          split
          · rename_i c i hr
            exact NB.bad (h0 c i hr)
          · rename_i it s2 g2 hr
            have h1 := (all_len C n k).2.2.2.1 _ _ _ _ _ _ hr
            exact iR _ _ _ _ (by omega)
    · intro s g d h0 hk
      unfold itemP
      split
      · exact absurd rfl h0
      · rename_i r s1
        simp only [List.length_cons] at hk
        split
        · exact NB.ok _ _ _
        · split
          · exact NB.ok _ _ _
          · split
            · exact reps_nb _ _ _ _
            · split
              · split
                · exact NB.bad (by decide)
                · split
                  · split
                    · simp only [List.length_cons] at hk
                      exact iG _ _ _ _ (by omega)
                    · exact NB.bad (by decide)
                  · split
                    · exact NB.bad (by decide)
                    · exact iG _ _ _ _ (by omega)
              · split
                · split
                  split
                  · exact NB.bad (by decide)
                  · exact reps_nb _ _ _ _
                · split
                  · split
                    · exact NB.bad (by decide)
                    · split
                      · exact NB.bad (by decide)
                      · exact reps_nb _ _ _ _
                  · split
                    · exact NB.bad (by decide)
                    · exact reps_nb _ _ _ _
    · intro no s g d hk
      unfold grpP
      have h0 := iA s g (d + 1) (by omega)
      split
      · rename_i c i hr
        exact NB.bad (h0 c i hr)
      · split
        · exact reps_nb _ _ _ _
        · exact NB.bad (by decide)
/-! ## more rounds change nothing -/
theorem classL_more {C : Cls} {n : Nat} : ∀ (k : Nat) (acc s : List Int), s.length < k → ∀ j, classL C n (k + j) acc s = classL C n k acc s := by
  intro k
  induction k with
  | zero => intro acc s h; omega
  | succ k ih =>
    intro acc s hk j
    rw [show k + 1 + j = (k + j) + 1 by omega]
    unfold classL
    split
    · rfl
    · rename_i m o s1 hm
      have h1 := member_len hm
      split
      · split
        · rfl
        · exact ih _ _ (by omega) j
      · rename_i s2 hs2
        have h2 : s2.length < s1.length := by
          split at hs2
          · split at hs2
            · split at hs2
              · cases hs2; simp
              · cases hs2
            · cases hs2
          · cases hs2
        split
        · rfl
        · rename_i m2 o2 s3 hm2
          have h3 := member_len hm2
          split
          · rfl
          · split
            · rfl
            · exact ih _ _ (by omega) j
end ReM
end Go.Proofs.YtefgjicegbhcaaaGreat
