/- Layer 8: what is read is a tree (all_nod: Nod, For, Loc); its groups are numbered in their order (all_gs: gsL, upto). -/
import Derived.Test.YtefgjicegbhcaaaGreatReN
namespace Go.Proofs.YtefgjicegbhcaaaGreat
namespace ReM
/-! ## what is read is a tree -/
def Loc (x : Rn) (m : Nat) : Prop :=
  (x.kind = 5 → m = 1) ∧ (x.kind = 6 → m = 1 ∧ (0 ≤ x.hi → x.lo ≤ x.hi)) ∧ (x.kind = 1 → 2 ≤ m) ∧ (x.kind = 2 → m = 0 ∧ x.set ≠ [] ∧ x.set.length % 2 = 0)
inductive Nod : List Rn → Prop where
  | mk (x : Rn) (cs : List (List Rn)) : x.deep = 0 → (∀ c, c ∈ cs → Nod c) → Loc x cs.length → Nod (x :: (cs.map lower).flatten)
def For (l : List Rn) (m : Nat) : Prop := ∃ cs : List (List Rn), l = (cs.map lower).flatten ∧ (∀ c, c ∈ cs → Nod c) ∧ cs.length = m
theorem For.nil : For [] 0 := ⟨[], rfl, (fun _ hc => nomatch hc), rfl⟩
theorem For.snoc {l c : List Rn} {m : Nat} (h : For l m) (hc : Nod c) : For (l ++ lower c) (m + 1) := by
  obtain ⟨cs, rfl, h1, h2⟩ := h
  refine ⟨cs ++ [c], by simp, fun d hd => ?_, by simp [h2]⟩
  rcases List.mem_append.1 hd with hd | hd
  · exact h1 d hd
  · simp at hd; subst hd; exact hc
theorem For.nod {l : List Rn} {m : Nat} (h : For l m) (x : Rn) (hx : x.deep = 0) (hl : Loc x m) : Nod (x :: l) := by
  obtain ⟨cs, rfl, h1, rfl⟩ := h
  exact .mk x cs hx h1 hl
theorem Nod.leaf (x : Rn) (hx : x.deep = 0) (hl : Loc x 0) : Nod [x] := For.nil.nod x hx hl
theorem Nod.over {a : List Rn} (h : Nod a) (x : Rn) (hx : x.deep = 0) (hl : Loc x 1) : Nod (x :: lower a) := by
  have := (For.nil.snoc h).nod x hx hl
  simpa using this
theorem mean_even {C : Cls} {r : Int} {l : List Int} {b : Bool} (h : mean C r = some (l, b)) : l ≠ [] ∧ l.length % 2 = 0 := by
  unfold mean at h
  dsimp only at h
  repeat' split at h
  all_goals first | (cases h; done) | (cases h; exact ⟨by simp, by simp⟩)
theorem member_even {C : Cls} {i : Int} {s l : List Int} {o : Bool} {s' : List Int} (h : member C i s = .ok l o s') : l ≠ [] ∧ l.length % 2 = 0 := by
  unfold member at h
  split at h
  · cases h
  · split at h
    · split at h
      · cases h
      · split at h
        · rename_i hm; cases h; exact mean_even hm
        · cases h
    · split at h
      · cases h
      · cases h; exact ⟨by simp, by simp⟩
theorem classL_even {C : Cls} {n k : Nat} {acc s l s' : List Int} (h : classL C n k acc s = .ok l s') (ha : acc.length % 2 = 0) : l ≠ [] ∧ l.length % 2 = 0 := by
  induction k generalizing acc s with
  | zero => cases h
  | succ k ih =>
    unfold classL at h
    split at h
    · cases h
    · rename_i m o s1 hm
      obtain ⟨h1, h2⟩ := member_even hm
      split at h
      · split at h
        · cases h
          exact ⟨by simp [h1], by rw [List.length_append]; omega⟩
        · exact ih h (by rw [List.length_append]; omega)
      · split at h
        · cases h
        · split at h
          · cases h
          · split at h
            · cases h
              exact ⟨by simp, by simp; omega⟩
            · exact ih h (by simp; omega)
theorem times_le {n : Nat} {s s' : List Int} {lo hi : Int} (h : times n s = .ok lo hi s') : 0 ≤ hi → lo ≤ hi := by
  unfold times at h
  repeat' split at h
  all_goals first | (cases h; done) | (cases h; omega)
theorem loc_rep {lo hi : Int} {z : Bool} (h : 0 ≤ hi → lo ≤ hi) : Loc (nRep lo hi z) 1 := by
  refine ⟨fun h => ?_, fun _ => ⟨rfl, h⟩, fun h => ?_, fun h => ?_⟩ <;> simp [nRep] at h
theorem reps_nod {n g : Nat} {a l : List Rn} {s s' : List Int} {g' : Nat} (ha : Nod a) (h : reps n a s g = .ok l s' g') : Nod l := by
  unfold reps at h
  dsimp only at h
  split at h
  · split at h <;> (cases h; exact ha.over _ rfl (loc_rep (by omega)))
  · split at h <;> (cases h; exact ha.over _ rfl (loc_rep (by omega)))
  · split at h <;> (cases h; exact ha.over _ rfl (loc_rep (by omega)))
  · split at h
    · rename_i ht
      have := times_le ht
      split at h <;> (cases h; exact ha.over _ rfl (loc_rep this))
    · cases h
  · cases h; exact ha
theorem loc_set {b : Bool} {l : List Int} (h : l ≠ [] ∧ l.length % 2 = 0) : Loc (nSet b l) 0 := by
  refine ⟨fun h => ?_, fun h => ?_, fun h => ?_, fun _ => ⟨rfl, h.1, h.2⟩⟩ <;> simp [nSet] at h
theorem loc_row (m : Nat) : Loc nRow m := by
  refine ⟨fun h => ?_, fun h => ?_, fun h => ?_, fun h => ?_⟩ <;> simp [nRow] at h
theorem loc_alt {m : Nat} (hm : 2 ≤ m) : Loc nAlt m := by
  refine ⟨fun h => ?_, fun h => ?_, fun _ => hm, fun h => ?_⟩ <;> simp [nAlt] at h
theorem loc_start : Loc nStart 0 := by
  refine ⟨fun h => ?_, fun h => ?_, fun h => ?_, fun h => ?_⟩ <;> simp [nStart] at h
theorem loc_end : Loc nEnd 0 := by
  refine ⟨fun h => ?_, fun h => ?_, fun h => ?_, fun h => ?_⟩ <;> simp [nEnd] at h
theorem loc_group (k : Int) : Loc (nGroup k) 1 := by
  refine ⟨fun _ => rfl, fun h => ?_, fun h => ?_, fun h => ?_⟩ <;> simp [nGroup] at h
theorem all_nod (C : Cls) (n : Nat) (k : Nat) :
    (∀ s g d l s' g', altP C n k s g d = .ok l s' g' → Nod l ∧ ∃ x t, l = x :: t ∧ (x = nRow ∨ x = nAlt)) ∧
    (∀ acc m s g d l s' g', For acc m → 1 ≤ m → altsP C n k (nAlt :: acc) s g d = .ok l s' g' → Nod l ∧ ∃ x t, l = x :: t ∧ (x = nRow ∨ x = nAlt)) ∧
    (∀ acc m s g d l s' g', For acc m → rowP C n k acc s g d = .ok l s' g' → ∃ m', For l m') ∧
    (∀ s g d l s' g', itemP C n k s g d = .ok l s' g' → Nod l) ∧
    (∀ no s g d l s' g', grpP C n k no s g d = .ok l s' g' → Nod l) := by
  induction k with
  | zero => refine ⟨?_, ?_, ?_, ?_, ?_⟩ <;> (intros; rename_i h; simp [altP, altsP, rowP, itemP, grpP] at h)
  | succ k ih =>
    obtain ⟨iA, iB, iR, iI, iG⟩ := ih
    refine ⟨?_, ?_, ?_, ?_, ?_⟩
    · intro s g d l s' g' h
      unfold altP at h
      split at h
      · cases h
      · rename_i r s1 g1 hr
        obtain ⟨m, hm⟩ := iR _ _ _ _ _ _ _ _ For.nil hr
        have hrow := hm.nod nRow rfl (loc_row m)
        split at h
        · have hf := For.nil.snoc hrow
          rw [List.nil_append] at hf
          exact iB _ _ _ _ _ _ _ _ hf (by omega) h
        · cases h; exact ⟨hrow, _, _, rfl, .inl rfl⟩
    · intro acc m s g d l s' g' hf hm h
      unfold altsP at h
      split at h
      · cases h
      · rename_i r s1 g1 hr
        obtain ⟨m', hm'⟩ := iR _ _ _ _ _ _ _ _ For.nil hr
        have hrow := hm'.nod nRow rfl (loc_row m')
        have hf2 := hf.snoc hrow
        split at h
        · exact iB _ _ _ _ _ _ _ _ hf2 (by omega) h
        · cases h
          exact ⟨hf2.nod nAlt rfl (loc_alt (by omega)), _, _, rfl, .inr rfl⟩
    · intro acc m s g d l s' g' hf h
      unfold rowP at h
      split at h
      · cases h; exact ⟨m, hf⟩
      · split at h
        · cases h; exact ⟨m, hf⟩
        · split at h
          · cases h
          · rename_i it s1 g1 hi
            exact iR _ _ _ _ _ _ _ _ (hf.snoc (iI _ _ _ _ _ _ hi)) h
    · intro s g d l s' g' h
      unfold itemP at h
      split at h
      · cases h
      · split at h
        · cases h; exact Nod.leaf _ rfl loc_start
        · split at h
          · cases h; exact Nod.leaf _ rfl loc_end
          · split at h
            · exact reps_nod (Nod.leaf _ rfl (loc_set ⟨by simp, by simp⟩)) h
            · split at h
              · split at h
                · cases h
                · split at h
                  · split at h
                    · exact iG _ _ _ _ _ _ _ h
                    · cases h
                  · split at h
                    · cases h
                    · exact iG _ _ _ _ _ _ _ h
              · split at h
                · split at h
                  split at h
                  · cases h
                  · rename_i cl s3 hc
                    exact reps_nod (Nod.leaf _ rfl (loc_set (classL_even hc (by simp)))) h
                · split at h
                  · split at h
                    · cases h
                    · split at h
                      · cases h
                      · rename_i hm
                        exact reps_nod (Nod.leaf _ rfl (loc_set (mean_even hm))) h
                  · split at h
                    · cases h
                    · exact reps_nod (Nod.leaf _ rfl (loc_set ⟨by simp, by simp⟩)) h
    · intro no s g d l s' g' h
      unfold grpP at h
      split at h
      · cases h
      · rename_i l1 s1 g1 ha
        have h1 := (iA _ _ _ _ _ _ ha).1
        split at h
        · exact reps_nod (h1.over _ rfl (loc_group no)) h
        · cases h
/-! ## the groups are numbered in their order -/
def gsL (l : List Rn) : List Int := (l.filter fun x => decide (x.kind = 5 ∧ 0 < x.lo)).map Rn.lo
theorem gsL_app (a b : List Rn) : gsL (a ++ b) = gsL a ++ gsL b := by simp [gsL]
theorem gsL_cons (x : Rn) (l : List Rn) : gsL (x :: l) = (if x.kind = 5 ∧ 0 < x.lo then [x.lo] else []) ++ gsL l := by
  simp only [gsL, List.filter_cons]
  split <;> split <;> simp_all
theorem gsL_lower (l : List Rn) : gsL (lower l) = gsL l := by
  induction l with
  | nil => rfl
  | cons x l ih =>
    have e : lower (x :: l) = low1 x :: lower l := rfl
    rw [e, gsL_cons, gsL_cons, ih]; rfl
/-- the numbers from a + 1 to b -/
def upto (a b : Nat) : List Int := (List.range (b - a)).map fun i => ((a + 1 + i : Nat) : Int)
theorem upto_self (a : Nat) : upto a a = [] := by simp [upto]
theorem upto_app {a b c : Nat} (h : a ≤ b) (k : b ≤ c) : upto a b ++ upto b c = upto a c := by
  unfold upto
  obtain ⟨x, rfl⟩ : ∃ x, b = a + x := ⟨b - a, by omega⟩
  obtain ⟨y, rfl⟩ : ∃ y, c = a + x + y := ⟨c - (a + x), by omega⟩
  rw [show a + x - a = x by omega, show a + x + y - (a + x) = y by omega, show a + x + y - a = x + y by omega, List.range_add, List.map_append, List.map_map]
  congr 1
  apply List.map_congr_left
  intro i _
  simp only [Function.comp]; omega
theorem upto_one (a : Nat) : upto a (a + 1) = [(a : Int) + 1] := by
  unfold upto
  rw [show a + 1 - a = 1 by omega]
  simp [List.range_succ]
theorem reps_gs {n g : Nat} {a l : List Rn} {s s' : List Int} {g' : Nat} (h : reps n a s g = .ok l s' g') : gsL l = gsL a ∧ g' = g := by
  have hr : ∀ lo hi z, gsL (nRep lo hi z :: lower a) = gsL a := fun lo hi z => by rw [gsL_cons, gsL_lower]; simp [nRep]
  unfold reps at h
  dsimp only at h
  split at h
  · split at h <;> (cases h; exact ⟨hr _ _ _, rfl⟩)
  · split at h <;> (cases h; exact ⟨hr _ _ _, rfl⟩)
  · split at h <;> (cases h; exact ⟨hr _ _ _, rfl⟩)
  · split at h
    · split at h <;> (cases h; exact ⟨hr _ _ _, rfl⟩)
    · cases h
  · cases h; exact ⟨rfl, rfl⟩
theorem gs_one {x : Rn} (h : x.kind ≠ 5) : gsL [x] = [] := by rw [gsL_cons, if_neg (fun k => h k.1)]; rfl
theorem all_gs (C : Cls) (n : Nat) (k : Nat) :
    (∀ s g d l s' g', altP C n k s g d = .ok l s' g' → g ≤ g' ∧ gsL l = upto g g') ∧
    (∀ acc s g d l s' g', altsP C n k acc s g d = .ok l s' g' → g ≤ g' ∧ gsL l = gsL acc ++ upto g g') ∧
    (∀ acc s g d l s' g', rowP C n k acc s g d = .ok l s' g' → g ≤ g' ∧ gsL l = gsL acc ++ upto g g') ∧
    (∀ s g d l s' g', itemP C n k s g d = .ok l s' g' → g ≤ g' ∧ gsL l = upto g g') ∧
    (∀ no s g d l s' g', grpP C n k no s g d = .ok l s' g' → g ≤ g' ∧ gsL l = (if 0 < no then [no] else []) ++ upto g g') := by
  induction k with
  | zero => refine ⟨?_, ?_, ?_, ?_, ?_⟩ <;> (intros; rename_i h; simp [altP, altsP, rowP, itemP, grpP] at h)
  | succ k ih =>
    obtain ⟨iA, iB, iR, iI, iG⟩ := ih
    have row : ∀ r, gsL (nRow :: r) = gsL r := fun r => by rw [gsL_cons]; simp [nRow]
    have alt : ∀ r, gsL (nAlt :: r) = gsL r := fun r => by rw [gsL_cons]; simp [nAlt]
    have leaf : ∀ (x : Rn) (s s' : List Int) (g g' : Nat) (l : List Rn), x.kind ≠ 5 → reps n [x] s g = .ok l s' g' → g ≤ g' ∧ gsL l = upto g g' := fun x s s' g g' l hx h => by
      obtain ⟨h1, rfl⟩ := reps_gs h
      exact ⟨Nat.le_refl _, by rw [h1, gs_one hx, upto_self]⟩
    refine ⟨?_, ?_, ?_, ?_, ?_⟩
    · intro s g d l s' g' h
      unfold altP at h
      split at h
      · cases h
      · rename_i r s1 g1 hr
        obtain ⟨h1, h2⟩ := iR _ _ _ _ _ _ _ hr
        rw [show gsL ([] : List Rn) = [] from rfl, List.nil_append] at h2
        split at h
        · obtain ⟨h3, h4⟩ := iB _ _ _ _ _ _ _ h
          refine ⟨by omega, ?_⟩
          rw [h4, alt, gsL_lower, row, h2, upto_app h1 h3]
        · cases h; exact ⟨h1, by rw [row, h2]⟩
    · intro acc s g d l s' g' h
      unfold altsP at h
      split at h
      · cases h
      · rename_i r s1 g1 hr
        obtain ⟨h1, h2⟩ := iR _ _ _ _ _ _ _ hr
        rw [show gsL ([] : List Rn) = [] from rfl, List.nil_append] at h2
        split at h
        · obtain ⟨h3, h4⟩ := iB _ _ _ _ _ _ _ h
          exact ⟨by omega, by rw [h4, gsL_app, gsL_lower, row, h2, List.append_assoc, upto_app h1 h3]⟩
        · cases h
          exact ⟨h1, by rw [gsL_app, gsL_lower, row, h2]⟩
    · intro acc s g d l s' g' h
      unfold rowP at h
      split at h
      · cases h; exact ⟨Nat.le_refl _, by rw [upto_self, List.append_nil]⟩
      · split at h
        · cases h; exact ⟨Nat.le_refl _, by rw [upto_self, List.append_nil]⟩
        · split at h
          · cases h
          · rename_i it s1 g1 hi
            obtain ⟨h1, h2⟩ := iI _ _ _ _ _ _ hi
            obtain ⟨h3, h4⟩ := iR _ _ _ _ _ _ _ h
            exact ⟨by omega, by rw [h4, gsL_app, gsL_lower, h2, List.append_assoc, upto_app h1 h3]⟩
    · intro s g d l s' g' h
      unfold itemP at h
      split at h
      · cases h
      · split at h
        · cases h; exact ⟨Nat.le_refl _, by rw [gs_one (by simp [nStart]), upto_self]⟩
        · split at h
          · cases h; exact ⟨Nat.le_refl _, by rw [gs_one (by simp [nEnd]), upto_self]⟩
          · split at h
            · exact leaf _ _ _ _ _ _ (by simp [nSet]) h
            · split at h
              · split at h
                · cases h
                · split at h
                  · split at h
                    · obtain ⟨h1, h2⟩ := iG _ _ _ _ _ _ _ h
                      exact ⟨h1, by rw [h2]; simp⟩
                    · cases h
                  · split at h
                    · cases h
                    · obtain ⟨h1, h2⟩ := iG _ _ _ _ _ _ _ h
                      refine ⟨by omega, ?_⟩
                      rw [h2, if_pos (by omega), ← upto_one, upto_app (by omega) h1]
              · split at h
                · split at h
                  split at h
                  · cases h
                  · exact leaf _ _ _ _ _ _ (by simp [nSet]) h
                · split at h
                  · split at h
                    · cases h
                    · split at h
                      · cases h
                      · exact leaf _ _ _ _ _ _ (by simp [nSet]) h
                  · split at h
                    · cases h
                    · exact leaf _ _ _ _ _ _ (by simp [nSet]) h
    · intro no s g d l s' g' h
      unfold grpP at h
      split at h
      · cases h
      · rename_i l1 s1 g1 ha
        obtain ⟨h1, h2⟩ := iA _ _ _ _ _ _ ha
        split at h
        · obtain ⟨h3, rfl⟩ := reps_gs h
          refine ⟨h1, ?_⟩
          rw [h3, gsL_cons, gsL_lower, h2]
          simp [nGroup]
        · cases h
end ReM
end Go.Proofs.YtefgjicegbhcaaaGreat
