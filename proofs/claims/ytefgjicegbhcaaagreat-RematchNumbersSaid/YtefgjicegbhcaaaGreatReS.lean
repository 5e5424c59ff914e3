/- Layer 8: what stands behind a reading changes nothing of it: members, classes, numbers of a repeat; Bal: how deep parentheses stand. -/
import Derived.Test.YtefgjicegbhcaaaGreatReQ
namespace Go.Proofs.YtefgjicegbhcaaaGreat
namespace ReM
/-! ## a pattern within another one -/
/-- no ( stands in more than eleven others; in a class (1), behind a backslash (2, 3) nothing counts -/
def Bal : Nat → Nat → List Int → Prop
  | _, _, [] => True
  | m, c, r :: s =>
    if m = 2 then Bal 0 c s
    else if m = 3 then Bal 1 c s
    else if r = 92 then Bal (m + 2) c s
    else if m = 1 then Bal (if r = 93 then 0 else 1) c s
    else if r = 91 then Bal 1 c s
    else if r = 40 then c < 12 ∧ Bal 0 (c + 1) s
    else if r = 41 then Bal 0 (c - 1) s
    else Bal 0 c s
theorem bal_other {c : Nat} {r : Int} {s : List Int} (h : Bal 0 c (r :: s)) (h1 : r ≠ 92) (h2 : r ≠ 91) (h3 : r ≠ 40) (h4 : r ≠ 41) : Bal 0 c s := by
  unfold Bal at h
  simpa [h1, h2, h3, h4] using h
theorem bal_open {c : Nat} {s : List Int} (h : Bal 0 c (40 :: s)) : c < 12 ∧ Bal 0 (c + 1) s := by
  unfold Bal at h; simpa using h
theorem bal_close {c : Nat} {s : List Int} (h : Bal 0 (c + 1) (41 :: s)) : Bal 0 c s := by
  unfold Bal at h; simpa using h
theorem bal_back {c : Nat} {q : Int} {s : List Int} (h : Bal 0 c (92 :: q :: s)) : Bal 0 c s := by
  simpa [Bal] using h
theorem bal_class {c : Nat} {s : List Int} (h : Bal 0 c (91 :: s)) : Bal 1 c s := by
  unfold Bal at h; simpa using h
theorem bal_in {c : Nat} {r : Int} {s : List Int} (h : Bal 1 c (r :: s)) (h1 : r ≠ 92) (h2 : r ≠ 93) : Bal 1 c s := by
  unfold Bal at h; simpa [h1, h2] using h
theorem bal_end {c : Nat} {s : List Int} (h : Bal 1 c (93 :: s)) : Bal 0 c s := by
  unfold Bal at h; simpa using h
theorem bal_back1 {c : Nat} {q : Int} {s : List Int} (h : Bal 1 c (92 :: q :: s)) : Bal 1 c s := by
  simpa [Bal] using h
theorem member_ext {C : Cls} {i : Int} {s l s' : List Int} {o : Bool} (h : member C i s = .ok l o s') :
    (∀ j t, member C j (s ++ t) = .ok l o (s' ++ t)) ∧ (∀ c, Bal 1 c s → Bal 1 c s') := by
  unfold member at h
  split at h
  · cases h
  · rename_i r s
    split at h
    · rename_i hr
      subst hr
      split at h
      · cases h
      · rename_i q s2
        split at h
        · rename_i l' hm
          cases h
          exact ⟨fun j t => by simp [member, hm], fun c hb => bal_back1 hb⟩
        · cases h
    · rename_i hr
      split at h
      · cases h
      · rename_i hr2
        cases h
        exact ⟨fun j t => by simp [member, hr, hr2], fun c hb => bal_in hb hr hr2⟩
theorem single_ext {C : Cls} {s : List Int} (h1 : s ≠ []) (h2 : s ≠ [92]) (t : List Int) : single C (s ++ t) = single C s := by
  cases s with
  | nil => exact absurd rfl h1
  | cons r s =>
    simp only [List.cons_append, single]
    split
    · rfl
    · split
      · cases s with
        | nil => rename_i e; subst e; exact absurd rfl h2
        | cons q s => rfl
      · rfl
theorem class_bad2 {C : Cls} {n k : Nat} {acc l s' : List Int} : classL C n k acc [92] ≠ .ok l s' := by
  cases k with
  | zero => intro h; cases h
  | succ k => intro h; simp [classL, member] at h
theorem class_bad0 {C : Cls} {n k : Nat} {acc l s' : List Int} : classL C n k acc [] ≠ .ok l s' := by
  cases k with
  | zero => intro h; cases h
  | succ k => intro h; simp [classL, member] at h
theorem class_bad1 {C : Cls} {n k : Nat} {acc l s' : List Int} : classL C n k acc [45] ≠ .ok l s' := by
  cases k with
  | zero => intro h; cases h
  | succ k => intro h; simp [classL, member] at h; exact class_bad0 h
theorem class_bad3 {C : Cls} {n k : Nat} {acc l s' : List Int} : classL C n k acc [45, 92] ≠ .ok l s' := by
  cases k with
  | zero => intro h; cases h
  | succ k => intro h; simp [classL, member] at h; exact class_bad2 h
/-- what a - and a sign behind it make of a class -/
def dash (C : Cls) (o : Bool) (s1 : List Int) : Option (List Int) := if o then (match s1 with | 45 :: s2 => if single C s2 then some s2 else none | _ => none) else none
theorem classL_succ (C : Cls) (n k : Nat) (acc s : List Int) : classL C n (k + 1) acc s = (match member C (at_ n s) s with
    | .bad i => .bad i
    | .ok m o s1 =>
      match dash C o s1 with
      | none => match s1 with
        | 93 :: s3 => .ok (acc ++ m) s3
        | _ => classL C n k (acc ++ m) s1
      | some s2 => match member C (at_ n s2) s2 with
        | .bad i => .bad i
        | .ok m2 _ s3 =>
          if fst m2 < fst m then .bad (at_ n s)
          else match s3 with
            | 93 :: s4 => .ok (acc ++ [fst m, fst m2]) s4
            | _ => classL C n k (acc ++ [fst m, fst m2]) s3) := rfl
theorem dash_some {C : Cls} {o : Bool} {s1 s2 : List Int} (h : dash C o s1 = some s2) : s1 = 45 :: s2 ∧ ∀ t, dash C o (s1 ++ t) = some (s2 ++ t) := by
  unfold dash at h
  split at h
  · split at h
    · rename_i u
      split at h
      · rename_i ho _ hs
        cases h
        refine ⟨rfl, fun t => ?_⟩
        have h1 : s2 ≠ [] := fun e => by subst e; simp [single] at hs
        have h2 : s2 ≠ [92] := fun e => by subst e; simp [single] at hs
        simp only [List.cons_append, dash]
        rw [if_pos ho, single_ext h1 h2, if_pos hs]
      · cases h
    · cases h
  · cases h
theorem dash_none {C : Cls} {o : Bool} {s1 : List Int} (h : dash C o s1 = none) (h0 : s1 ≠ []) (h1 : s1 ≠ [45]) (h2 : s1 ≠ [45, 92]) (t : List Int) : dash C o (s1 ++ t) = none := by
  cases s1 with
  | nil => exact absurd rfl h0
  | cons r s =>
    unfold dash at h ⊢
    split
    · rename_i ho
      rw [if_pos ho] at h
      by_cases hr : r = 45
      · subst hr
        have e1 : s ≠ [] := fun e => h1 (by rw [e])
        have e2 : s ≠ [92] := fun e => h2 (by rw [e])
        simp only [List.cons_append] at h ⊢
        rw [single_ext e1 e2]
        split at h
        · cases h
        · rename_i hs; rw [if_neg hs]
      · simp only [List.cons_append]
        split
        · rename_i e; injection e with e; exact absurd e hr
        · rfl
    · rfl
theorem classL_ext {C : Cls} {n k : Nat} {acc s l s' : List Int} (h : classL C n k acc s = .ok l s') :
    (∀ n2 k2 t, k ≤ k2 → classL C n2 k2 acc (s ++ t) = .ok l (s' ++ t)) ∧ (∀ c, Bal 1 c s → Bal 0 c s') := by
  induction k generalizing acc s with
  | zero => cases h
  | succ k ih =>
    rw [classL_succ] at h
    split at h
    · cases h
    · rename_i m o s1 hm
      obtain ⟨m1, m2⟩ := member_ext hm
      split at h
      · rename_i hd
        split at h
        · rename_i s3
          cases h
          refine ⟨fun n2 k2 t hk => ?_, fun c hb => bal_end (m2 c hb)⟩
          obtain ⟨k2, rfl⟩ : ∃ x, k2 = x + 1 := ⟨k2 - 1, by omega⟩
          rw [classL_succ, m1]
          simp only [dash_none hd (by simp) (by simp) (by simp) t]
          rfl
        · rename_i hne
          obtain ⟨i1, i2⟩ := ih h
          refine ⟨fun n2 k2 t hk => ?_, fun c hb => i2 c (m2 c hb)⟩
          obtain ⟨k2, rfl⟩ : ∃ x, k2 = x + 1 := ⟨k2 - 1, by omega⟩
          have h0 : s1 ≠ [] := fun e => by subst e; exact class_bad0 h
          have h1 : s1 ≠ [45] := fun e => by subst e; exact class_bad1 h
          have h2 : s1 ≠ [45, 92] := fun e => by subst e; exact class_bad3 h
          rw [classL_succ, m1]
          simp only [dash_none hd h0 h1 h2 t]
          rw [i1 n2 k2 t (by omega)]
          cases s1 with
          | nil => exact absurd rfl h0
          | cons r u =>
            split
            · rename_i e
              injection e with e _
              exact absurd (by rw [e]) (hne u)
            · rfl
      · rename_i s2 hd
        obtain ⟨rfl, d2⟩ := dash_some hd
        split at h
        · cases h
        · rename_i q _ s3 hq
          obtain ⟨q1, q2⟩ := member_ext hq
          split at h
          · cases h
          · rename_i hlt
            have bq : ∀ c, Bal 1 c s → Bal 1 c s3 := fun c hb => q2 c (bal_in (m2 c hb) (by omega) (by omega))
            split at h
            · rename_i s4
              cases h
              refine ⟨fun n2 k2 t hk => ?_, fun c hb => bal_end (bq c hb)⟩
              obtain ⟨k2, rfl⟩ : ∃ x, k2 = x + 1 := ⟨k2 - 1, by omega⟩
              rw [classL_succ, m1]
              simp only [d2 t, q1]
              rw [if_neg hlt]; rfl
            · rename_i hne
              obtain ⟨i1, i2⟩ := ih h
              refine ⟨fun n2 k2 t hk => ?_, fun c hb => i2 c (bq c hb)⟩
              obtain ⟨k2, rfl⟩ : ∃ x, k2 = x + 1 := ⟨k2 - 1, by omega⟩
              have h0 : s3 ≠ [] := fun e => by subst e; exact class_bad0 h
              rw [classL_succ, m1]
              simp only [d2 t, q1]
              rw [if_neg hlt, i1 n2 k2 t (by omega)]
              cases s3 with
              | nil => exact absurd rfl h0
              | cons r u =>
                split
                · rename_i e
                  injection e with e _
                  exact absurd (by rw [e]) (hne u)
                · rfl
theorem times_ext {n : Nat} {s s' : List Int} {lo hi : Int} (h : times n s = .ok lo hi s') :
    (∀ n2 t, times n2 (s ++ t) = .ok lo hi (s' ++ t)) ∧ (∀ c, Bal 0 c s → s.headD 0 = 123 → Bal 0 c s') := by
  unfold times at h
  split at h
  · rename_i a r s1
    split at h
    · rename_i hr
      have b1 : ∀ c, Bal 0 c (a :: r :: s1) → (a :: r :: s1).headD 0 = 123 → Bal 0 c s1 := fun c hb ha => by
        simp at ha; subst ha
        simp [dig] at hr
        exact bal_other (bal_other hb (by omega) (by omega) (by omega) (by omega)) (by omega) (by omega) (by omega) (by omega)
      split at h
      · cases h
        exact ⟨fun n2 t => by simp [times, hr], fun c hb ha => bal_other (b1 c hb ha) (by omega) (by omega) (by omega) (by omega)⟩
      · cases h
        exact ⟨fun n2 t => by simp [times, hr], fun c hb ha => bal_other (bal_other (b1 c hb ha) (by omega) (by omega) (by omega) (by omega)) (by omega) (by omega) (by omega) (by omega)⟩
      · rename_i q s2 hq
        split at h
        · rename_i hd
          split at h
          · rename_i s3
            split at h
            · cases h
            · rename_i hlt
              cases h
              refine ⟨fun n2 t => ?_, fun c hb ha => ?_⟩
              · simp [times, hr, hd, hlt]
              · simp [dig] at hd
                exact bal_other (bal_other (bal_other (b1 c hb ha) (by omega) (by omega) (by omega) (by omega)) (by omega) (by omega) (by omega) (by omega)) (by omega) (by omega) (by omega) (by omega)
          · cases h
        · cases h
      · cases h
      · cases h
    · cases h
  · cases h
end ReM
end Go.Proofs.YtefgjicegbhcaaaGreat
