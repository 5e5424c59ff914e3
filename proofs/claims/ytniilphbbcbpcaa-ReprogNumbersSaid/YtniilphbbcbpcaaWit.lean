/- ResynWithin's lists: a pattern within (?: ), two patterns with | between, as the code's Parse tells them. -/
import Derived.Test.YtniilphbbcbpcaaRro
import Derived.Test.YtniilphbbcbpcaaSme
namespace Go.Proofs.Ytniilphbbcbpcaa
open Go.RowKit ReM

theorem reps_nine {n g : Nat} {a l : List Rn} {s s' : List Int} {g' : Nat} (h : reps n a s g = .ok l s' g') : g' = g := by
  unfold reps at h
  dsimp only at h
  split at h
  · split at h <;> (cases h; rfl)
  · split at h <;> (cases h; rfl)
  · split at h <;> (cases h; rfl)
  · split at h
    · split at h <;> (cases h; rfl)
    · cases h
  · cases h; rfl
/-- no reading counts more than nine groups -/
theorem all_nine (C : Cls) (n : Nat) (k : Nat) :
    (∀ s g d l s' g', altP C n k s g d = .ok l s' g' → g ≤ 9 → g' ≤ 9) ∧
    (∀ acc s g d l s' g', altsP C n k acc s g d = .ok l s' g' → g ≤ 9 → g' ≤ 9) ∧
    (∀ acc s g d l s' g', rowP C n k acc s g d = .ok l s' g' → g ≤ 9 → g' ≤ 9) ∧
    (∀ s g d l s' g', itemP C n k s g d = .ok l s' g' → g ≤ 9 → g' ≤ 9) ∧
    (∀ no s g d l s' g', grpP C n k no s g d = .ok l s' g' → g ≤ 9 → g' ≤ 9) := by
  induction k with
  | zero => refine ⟨?_, ?_, ?_, ?_, ?_⟩ <;> (intros; rename_i h _; simp [altP, altsP, rowP, itemP, grpP] at h)
  | succ k ih =>
    obtain ⟨iA, iB, iR, iI, iG⟩ := ih
    refine ⟨?_, ?_, ?_, ?_, ?_⟩
    · intro s g d l s' g' h hg
      unfold altP at h
      split at h
      · cases h
      · rename_i r s1 g1 hr
        have h1 := iR _ _ _ _ _ _ _ hr hg
        split at h
        · exact iB _ _ _ _ _ _ _ h h1
        · cases h; exact h1
    · intro acc s g d l s' g' h hg
      unfold altsP at h
      split at h
      · cases h
      · rename_i r s1 g1 hr
        have h1 := iR _ _ _ _ _ _ _ hr hg
        split at h
        · exact iB _ _ _ _ _ _ _ h h1
        · cases h; exact h1
    · intro acc s g d l s' g' h hg
      unfold rowP at h
      split at h
      · cases h; exact hg
      · split at h
        · cases h; exact hg
        · split at h
          · cases h
          · rename_i it s1 g1 hi
            exact iR _ _ _ _ _ _ _ h (iI _ _ _ _ _ _ hi hg)
    · intro s g d l s' g' h hg
      unfold itemP at h
      split at h
      · cases h
      · rename_i r s1
        split at h
        · cases h; exact hg
        · split at h
          · cases h; exact hg
          · split at h
            · rw [reps_nine h]; exact hg
            · split at h
              · split at h
                · cases h
                · split at h
                  · split at h
                    · exact iG _ _ _ _ _ _ _ h hg
                    · cases h
                  · split at h
                    · cases h
                    · exact iG _ _ _ _ _ _ _ h (by omega)
              · split at h
                · split at h
                  rename_i neg s2 hs2
                  split at h
                  · cases h
                  · rw [reps_nine h]; exact hg
                · split at h
                  · split at h
                    · cases h
                    · split at h
                      · cases h
                      · rw [reps_nine h]; exact hg
                  · split at h
                    · cases h
                    · rw [reps_nine h]; exact hg
    · intro no s g d l s' g' h hg
      unfold grpP at h
      split at h
      · cases h
      · rename_i r s1 g1 hr
        have h1 := iA _ _ _ _ _ _ hr hg
        split at h
        · rw [reps_nine h]; exact h1
        · cases h
theorem alt_nine {C : Cls} {n k : Nat} {s s' : List Int} {d g' : Nat} {l : List Rn} (h : altP C n k s 0 d = .ok l s' g') : g' ≤ 9 := (all_nine C n k).1 _ _ _ _ _ _ h (by omega)
theorem fbad_of {p : List Int} (h : ∀ x, x ∈ p → sgn x = true) : ¬ fbad p < p.length := by
  intro k
  have := fbad_at k
  rw [h _ (gt_mem k)] at this
  cases this
theorem sgn_of {p : List Int} (h : ¬ fbad p < p.length) : ∀ x, x ∈ p → sgn x = true := fbad_all (by omega)
theorem parseW_of {p : List Int} (h60 : p.length ≤ 60) (hs : ∀ x, x ∈ p → sgn x = true) : parseW p = parse CC p := by
  unfold parseW
  rw [if_neg (by omega), if_neg (fbad_of hs)]
theorem within_w {p : List Int} {l : List Rn} {g : Nat} (h : altP CC p.length (4 * p.length + 8) p 0 0 = .ok l [] g) (hg : g ≤ 9) (hn : Nst 2 p) (hl : p.length ≤ 55) (hf : ¬ fbad p < p.length) :
    parseW ([40, 63, 58] ++ p ++ [41]) = (nRow :: low1 (nGroup 0) :: lower (lower l), 0, 0) := by
  have hs := sgn_of hf
  rw [show ([40, 63, 58] ++ p ++ [41] : List Int) = 40 :: 63 :: 58 :: (p ++ [41]) from by simp]
  rw [parseW_of (by simp; omega)]
  · exact parse_within h hg (hn.bal (by omega))
  · intro x hx
    simp only [List.mem_cons, List.mem_append, List.not_mem_nil, or_false] at hx
    rcases hx with rfl | rfl | rfl | hx | rfl
    · decide
    · decide
    · decide
    · exact hs x hx
    · decide
theorem alt_w {p q : List Int} {x y : Rn} {l m : List Rn} {g g2 : Nat} (h : altP CC p.length (4 * p.length + 8) p 0 0 = .ok (x :: l) [] g)
    (h2 : altP CC q.length (4 * q.length + 8) q 0 0 = .ok (y :: m) [] g2) (hx : x.kind = 0) (hy : y.kind = 0) (hg : g + g2 ≤ 9) (hn : Nst 2 p) (hn2 : Nst 2 q) (hl : p.length + q.length ≤ 55) (hf : ¬ fbad p < p.length) (hf2 : ¬ fbad q < q.length) :
    parseW (p ++ [124] ++ q) = (nAlt :: (lower (x :: l) ++ lower (sh g (y :: m))), 0, 0) := by
  have hs := sgn_of hf
  have hs2 := sgn_of hf2
  rw [show (p ++ [124] ++ q : List Int) = p ++ 124 :: q from by simp]
  rw [parseW_of (by simp; omega)]
  · exact parse_alt h h2 hx hy hg (hn.bal (by omega)) (hn2.bal (by omega))
  · intro x hx
    simp only [List.mem_cons, List.mem_append] at hx
    rcases hx with hx | rfl | hx
    · exact hs x hx
    · decide
    · exact hs2 x hx
end Go.Proofs.Ytniilphbbcbpcaa
