/- Layer 8: the same reading with further groups ahead (sh), more behind (Tw, Tl, Ta), deeper (Bal): all_emb. -/
import Derived.Test.YtefgjicegbhcaaaGreatReS
namespace Go.Proofs.YtefgjicegbhcaaaGreat
namespace ReM
/-! ## the same reading, further groups ahead, more behind -/
def shf (j : Nat) (x : Rn) : Rn := { x with lo := if x.kind = 5 ∧ 0 < x.lo then x.lo + j else x.lo }
def sh (j : Nat) (l : List Rn) : List Rn := l.map (shf j)
theorem sh_app (j : Nat) (a b : List Rn) : sh j (a ++ b) = sh j a ++ sh j b := by simp [sh]
theorem sh_cons (j : Nat) (x : Rn) (l : List Rn) : sh j (x :: l) = shf j x :: sh j l := rfl
theorem sh_nil (j : Nat) : sh j [] = [] := rfl
theorem sh_lower (j : Nat) (l : List Rn) : sh j (lower l) = lower (sh j l) := by
  simp only [sh, lower, List.map_map]; rfl
theorem shf_other {j : Nat} {x : Rn} (h : x.kind ≠ 5) : shf j x = x := by
  unfold shf; rw [if_neg (fun k => h k.1)]
theorem shf_group (j : Nat) (no : Int) : shf j (nGroup no) = nGroup (if 0 < no then no + j else no) := by
  simp [shf, nGroup]
theorem sh_zero (l : List Rn) : sh 0 l = l := by
  induction l with
  | nil => rfl
  | cons x l ih => rw [sh_cons, ih]; simp [shf]
theorem sh_row (j : Nat) (l : List Rn) : sh j (nRow :: l) = nRow :: sh j l := by rw [sh_cons, shf_other (by simp [nRow])]
theorem sh_alt (j : Nat) (l : List Rn) : sh j (nAlt :: l) = nAlt :: sh j l := by rw [sh_cons, shf_other (by simp [nAlt])]
/-- what may stand behind: no sign of a repeat -/
def Tw (t : List Int) : Prop := ∀ r u, t = r :: u → r ≠ 42 ∧ r ≠ 43 ∧ r ≠ 63 ∧ r ≠ 123
/-- what ends a row -/
def Tl (t : List Int) : Prop := t = [] ∨ ∃ r u, t = r :: u ∧ (r = 41 ∨ r = 124)
theorem Tl.tw {t : List Int} (h : Tl t) : Tw t := fun r u e => by
  rcases h with rfl | ⟨r', u', rfl, h⟩
  · cases e
  · cases e; omega
theorem Tw.ne {t : List Int} (h : Tw t) {r : Int} {u : List Int} (e : t = r :: u) : r ≠ 42 ∧ r ≠ 43 ∧ r ≠ 63 ∧ r ≠ 123 := h r u e
def Ta (s t : List Int) : Prop := s ≠ [] ∨ t = [] ∨ ∃ u, t = 41 :: u
theorem Ta.row {s t : List Int} (h : Ta s t) : s ≠ [] ∨ Tl t := by
  rcases h with h | rfl | ⟨u, rfl⟩
  · exact .inl h
  · exact .inr (.inl rfl)
  · exact .inr (.inr ⟨41, u, rfl, .inl rfl⟩)
def finR (a : List Rn) (g : Nat) (lo hi : Int) (s1 : List Int) : Rg := match s1 with
  | 63 :: s2 => .ok (nRep lo hi true :: lower a) s2 g
  | _ => .ok (nRep lo hi false :: lower a) s1 g
theorem reps_def (n : Nat) (a : List Rn) (s : List Int) (g : Nat) : reps n a s g = (match s with
  | 42 :: s1 => finR a g 0 (-1) s1
  | 43 :: s1 => finR a g 1 (-1) s1
  | 63 :: s1 => finR a g 0 1 s1
  | 123 :: _ => match times n s with
    | .ok lo hi s1 => finR a g lo hi s1
    | .bad i => .bad 5 i
  | _ => .ok a s g) := rfl
theorem fin_ext {a l : List Rn} {g g' : Nat} {lo hi : Int} {s s' t : List Int} (h : finR a g lo hi s = .ok l s' g') (ht : Tw t) (j : Nat) :
    finR (sh j a) (g + j) lo hi (s ++ t) = .ok (sh j l) (s' ++ t) (g + j) ∧ g' = g ∧ ∀ c, Bal 0 c s → Bal 0 c s' := by
  have hs : ∀ z, sh j (nRep lo hi z :: lower a) = nRep lo hi z :: lower (sh j a) := fun z => by
    rw [sh_cons, shf_other (by simp [nRep]), sh_lower]
  unfold finR at h
  split at h
  · cases h
    exact ⟨by rw [hs]; rfl, rfl, fun c hb => bal_other hb (by omega) (by omega) (by omega) (by omega)⟩
  · rename_i hne
    cases h
    refine ⟨?_, rfl, fun c hb => hb⟩
    rw [hs]
    unfold finR
    split
    · rename_i s2 e
      cases s with
      | nil => have := ht.ne (by simpa using e); omega
      | cons r u => injection e with e _; exact absurd (by rw [e]) (hne u)
    · rfl
theorem reps_ext {n n2 : Nat} {a l : List Rn} {g g' : Nat} {s s' t : List Int} (h : reps n a s g = .ok l s' g') (ht : Tw t) (j : Nat) :
    reps n2 (sh j a) (s ++ t) (g + j) = .ok (sh j l) (s' ++ t) (g + j) ∧ g' = g ∧ ∀ c, Bal 0 c s → Bal 0 c s' := by
  rw [reps_def] at h
  split at h
  · obtain ⟨h1, h2, h3⟩ := fin_ext h ht j
    exact ⟨by rw [reps_def]; exact h1, h2, fun c hb => h3 c (bal_other hb (by omega) (by omega) (by omega) (by omega))⟩
  · obtain ⟨h1, h2, h3⟩ := fin_ext h ht j
    exact ⟨by rw [reps_def]; exact h1, h2, fun c hb => h3 c (bal_other hb (by omega) (by omega) (by omega) (by omega))⟩
  · obtain ⟨h1, h2, h3⟩ := fin_ext h ht j
    exact ⟨by rw [reps_def]; exact h1, h2, fun c hb => h3 c (bal_other hb (by omega) (by omega) (by omega) (by omega))⟩
  · split at h
    · rename_i lo hi s1 ht'
      obtain ⟨h1, h2, h3⟩ := fin_ext h ht j
      obtain ⟨t1, t2⟩ := times_ext ht'
      refine ⟨?_, h2, fun c hb => h3 c (t2 c hb rfl)⟩
      have := t1 n2 t
      rw [reps_def]
      simp only [List.cons_append] at this ⊢
      rw [this]
      exact h1
    · cases h
  · rename_i e1 e2 e3 e4
    cases h
    refine ⟨?_, rfl, fun c hb => hb⟩
    rw [reps_def]
    split
    · rename_i s2 e
      cases s with
      | nil => have := ht.ne (by simpa using e); omega
      | cons r u => injection e with e _; exact absurd (by rw [e]) (e1 u)
    · rename_i s2 e
      cases s with
      | nil => have := ht.ne (by simpa using e); omega
      | cons r u => injection e with e _; exact absurd (by rw [e]) (e2 u)
    · rename_i s2 e
      cases s with
      | nil => have := ht.ne (by simpa using e); omega
      | cons r u => injection e with e _; exact absurd (by rw [e]) (e3 u)
    · rename_i s2 e
      cases s with
      | nil => have := ht.ne (by simpa using e); omega
      | cons r u => injection e with e _; exact absurd (by rw [e]) (e4 u)
    · rfl
theorem item_def (C : Cls) (n k : Nat) (r : Int) (s1 : List Int) (g d : Nat) : itemP C n (k + 1) (r :: s1) g d = (
      if r = 94 then .ok [nStart] s1 g
      else if r = 36 then .ok [nEnd] s1 g
      else if r = 46 then reps n [nSet true [10, 10]] s1 g
      else if r = 40 then
        if 12 ≤ d then .bad 6 (at_ n (r :: s1))
        else match s1 with
          | 63 :: s2 => match s2 with
            | 58 :: s3 => grpP C n k 0 s3 g d
            | _ => .bad 5 (at_ n s2)
          | _ => if 9 ≤ g then .bad 3 (at_ n (r :: s1)) else grpP C n k ((g : Int) + 1) s1 (g + 1) d
      else if r = 91 then
        match (match s1 with | 94 :: s2 => (true, s2) | _ => (false, s1)) with
        | (neg, s2) => match classL C n k [] s2 with
          | .bad i => .bad 5 i
          | .ok l s3 => reps n [nSet neg l] s3 g
      else if r = 92 then
        match s1 with
        | [] => .bad 5 (at_ n s1)
        | q :: s2 => match mean C q with
          | none => .bad 5 (at_ n s1)
          | some (l, neg) => reps n [nSet neg l] s2 g
      else if meta4 r then .bad 5 (at_ n (r :: s1))
      else reps n [nSet false [r, r]] s1 g) := by
  unfold itemP
  rfl
theorem sh_set (j : Nat) (z : Bool) (l : List Int) : sh j [nSet z l] = [nSet z l] := by rw [sh_cons, shf_other (by simp [nSet])]; rfl
theorem all_emb (C : Cls) (n n2 : Nat) (j : Nat) (k : Nat) :
    (∀ s g d l s' g', altP C n k s g d = .ok l s' g' → g' + j ≤ 9 → ∀ t, Tw t → Ta s' t → ∀ d2 k2, k ≤ k2 → Bal 0 d2 s →
      altP C n2 k2 (s ++ t) (g + j) d2 = .ok (sh j l) (s' ++ t) (g' + j) ∧ Bal 0 d2 s') ∧
    (∀ acc s g d l s' g', altsP C n k acc s g d = .ok l s' g' → g' + j ≤ 9 → ∀ t, Tw t → Ta s' t → ∀ d2 k2, k ≤ k2 → Bal 0 d2 s →
      altsP C n2 k2 (sh j acc) (s ++ t) (g + j) d2 = .ok (sh j l) (s' ++ t) (g' + j) ∧ Bal 0 d2 s') ∧
    (∀ acc s g d l s' g', rowP C n k acc s g d = .ok l s' g' → g' + j ≤ 9 → ∀ t, Tw t → s' ≠ [] ∨ Tl t → ∀ d2 k2, k ≤ k2 → Bal 0 d2 s →
      rowP C n2 k2 (sh j acc) (s ++ t) (g + j) d2 = .ok (sh j l) (s' ++ t) (g' + j) ∧ Bal 0 d2 s') ∧
    (∀ s g d l s' g', itemP C n k s g d = .ok l s' g' → s.headD 0 ≠ 41 → g' + j ≤ 9 → ∀ t, Tw t → ∀ d2 k2, k ≤ k2 → Bal 0 d2 s →
      itemP C n2 k2 (s ++ t) (g + j) d2 = .ok (sh j l) (s' ++ t) (g' + j) ∧ Bal 0 d2 s') ∧
    (∀ no s g d l s' g', grpP C n k no s g d = .ok l s' g' → g' + j ≤ 9 → ∀ t, Tw t → ∀ d2 k2, k ≤ k2 → Bal 0 (d2 + 1) s →
      grpP C n2 k2 (if 0 < no then no + j else no) (s ++ t) (g + j) d2 = .ok (sh j l) (s' ++ t) (g' + j) ∧ Bal 0 d2 s') := by
  induction k with
  | zero =>
    refine ⟨fun s g d l s' g' h => ?_, fun acc s g d l s' g' h => ?_, fun acc s g d l s' g' h => ?_, fun s g d l s' g' h => ?_, fun no s g d l s' g' h => ?_⟩
    · simp [altP] at h
    · simp [altsP] at h
    · simp [rowP] at h
    · simp [itemP] at h
    · simp [grpP] at h
  | succ k ih =>
    obtain ⟨iA, iB, iR, iI, iG⟩ := ih
    obtain ⟨mA, mB, mR, mI, mG⟩ := all_gs C n k
    refine ⟨?_, ?_, ?_, ?_, ?_⟩
    · intro s g d l s' g' h hg t ht hta d2 k2 hk hb
      obtain ⟨k2, rfl⟩ : ∃ x, k2 = x + 1 := ⟨k2 - 1, by omega⟩
      unfold altP at h
      split at h
      · cases h
      · rename_i r s1 g1 hr
        split at h
        · rename_i s2
          have hm := (mB _ _ _ _ _ _ _ h).1
          obtain ⟨r1, r2⟩ := iR _ _ _ _ _ _ _ hr (by omega) t ht (.inl (by simp)) d2 k2 (by omega) hb
          obtain ⟨b1, b2⟩ := iB _ _ _ _ _ _ _ h hg t ht hta d2 k2 (by omega) (bal_other r2 (by omega) (by omega) (by omega) (by omega))
          refine ⟨?_, b2⟩
          rw [sh_nil] at r1
          rw [sh_alt, sh_lower, sh_row] at b1
          simp only [altP, r1]
          exact b1
        · rename_i hne
          cases h
          obtain ⟨r1, r2⟩ := iR _ _ _ _ _ _ _ hr (by omega) t ht hta.row d2 k2 (by omega) hb
          refine ⟨?_, r2⟩
          rw [sh_nil] at r1
          simp only [altP, r1]
          split
          · rename_i s2 e
            cases s' with
            | nil =>
              rcases hta with hta | rfl | ⟨u, rfl⟩
              · exact absurd rfl hta
              · simp at e
              · simp at e
            | cons q u => injection e with e _; exact absurd (by rw [e]) (hne u)
          · rw [sh_row]
    · intro acc s g d l s' g' h hg t ht hta d2 k2 hk hb
      obtain ⟨k2, rfl⟩ : ∃ x, k2 = x + 1 := ⟨k2 - 1, by omega⟩
      unfold altsP at h
      split at h
      · cases h
      · rename_i r s1 g1 hr
        split at h
        · rename_i s2
          have hm := (mB _ _ _ _ _ _ _ h).1
          obtain ⟨r1, r2⟩ := iR _ _ _ _ _ _ _ hr (by omega) t ht (.inl (by simp)) d2 k2 (by omega) hb
          obtain ⟨b1, b2⟩ := iB _ _ _ _ _ _ _ h hg t ht hta d2 k2 (by omega) (bal_other r2 (by omega) (by omega) (by omega) (by omega))
          refine ⟨?_, b2⟩
          rw [sh_nil] at r1
          rw [sh_app, sh_lower, sh_row] at b1
          simp only [altsP, r1]
          exact b1
        · rename_i hne
          cases h
          obtain ⟨r1, r2⟩ := iR _ _ _ _ _ _ _ hr (by omega) t ht hta.row d2 k2 (by omega) hb
          refine ⟨?_, r2⟩
          rw [sh_nil] at r1
          simp only [altsP, r1]
          split
          · rename_i s2 e
            cases s' with
            | nil =>
              rcases hta with hta | rfl | ⟨u, rfl⟩
              · exact absurd rfl hta
              · simp at e
              · simp at e
            | cons q u => injection e with e _; exact absurd (by rw [e]) (hne u)
          · rw [sh_app, sh_lower, sh_row]
    · intro acc s g d l s' g' h hg t ht htl d2 k2 hk hb
      obtain ⟨k2, rfl⟩ : ∃ x, k2 = x + 1 := ⟨k2 - 1, by omega⟩
      unfold rowP at h
      split at h
      · cases h
        refine ⟨?_, hb⟩
        rw [List.nil_append]
        rcases htl with htl | rfl | ⟨r, u, rfl, h⟩
        · exact absurd rfl htl
        · simp only [rowP]
        · simp only [rowP]; rw [if_pos (by omega)]
      · rename_i r s0
        split at h
        · rename_i hr
          cases h
          refine ⟨?_, hb⟩
          simp only [List.cons_append, rowP]; rw [if_pos hr]
        · rename_i hr
          split at h
          · cases h
          · rename_i it s1 g1 hi
            have hm := (mR _ _ _ _ _ _ _ h).1
            obtain ⟨r1, r2⟩ := iI _ _ _ _ _ _ hi (fun e => hr (.inr e)) (by omega) t ht d2 k2 (by omega) hb
            obtain ⟨b1, b2⟩ := iR _ _ _ _ _ _ _ h hg t ht htl d2 k2 (by omega) r2
            refine ⟨?_, b2⟩
            rw [sh_app, sh_lower] at b1
            simp only [List.cons_append] at r1 ⊢
            simp only [rowP]; rw [if_neg hr, r1]
            exact b1
    · intro s g d l s' g' h h41 hg t ht d2 k2 hk hb
      obtain ⟨k2, rfl⟩ : ∃ x, k2 = x + 1 := ⟨k2 - 1, by omega⟩
      cases s with
      | nil => simp [itemP] at h
      | cons r s1 =>
        rw [item_def] at h
        rw [List.cons_append, item_def]
        split at h
        · rename_i hr
          cases h
          exact ⟨by rw [if_pos hr]; rfl, bal_other hb (by omega) (by omega) (by omega) (by omega)⟩
        · rename_i h94
          rw [if_neg h94]
          split at h
          · rename_i hr
            cases h
            exact ⟨by rw [if_pos hr]; rfl, bal_other hb (by omega) (by omega) (by omega) (by omega)⟩
          · rename_i h36
            rw [if_neg h36]
            split at h
            · rename_i hr
              obtain ⟨e1, rfl, e3⟩ := reps_ext (n2 := n2) h ht j
              rw [sh_set] at e1
              exact ⟨by rw [if_pos hr]; exact e1, e3 _ (bal_other hb (by omega) (by omega) (by omega) (by omega))⟩
            · rename_i h46
              rw [if_neg h46]
              split at h
              · rename_i hr
                subst hr
                obtain ⟨hd, hb1⟩ := bal_open hb
                rw [if_pos rfl, if_neg (by omega)]
                split at h
                · cases h
                · split at h
                  · split at h
                    · rename_i s3
                      have hb3 : Bal 0 (d2 + 1) s3 := bal_other (bal_other hb1 (by omega) (by omega) (by omega) (by omega)) (by omega) (by omega) (by omega) (by omega)
                      obtain ⟨e1, e2⟩ := iG _ _ _ _ _ _ _ h hg t ht d2 k2 (by omega) hb3
                      exact ⟨e1, e2⟩
                    · cases h
                  · rename_i hne
                    split at h
                    · cases h
                    · have hm := (mG _ _ _ _ _ _ _ h).1
                      obtain ⟨e1, e2⟩ := iG _ _ _ _ _ _ _ h hg t ht d2 k2 (by omega) hb1
                      refine ⟨?_, e2⟩
                      rw [if_pos (by omega), show ((g : Int) + 1 + j) = ((g + j : Nat) : Int) + 1 by omega, show g + 1 + j = g + j + 1 by omega] at e1
                      split
                      · rename_i s2 e
                        cases s1 with
                        | nil => have := ht.ne (by simpa using e); omega
                        | cons q u => injection e with e _; exact absurd (by rw [e]) (hne u)
                      · rw [if_neg (by omega)]; exact e1
              · rename_i h40
                rw [if_neg h40]
                split at h
                · rename_i hr
                  subst hr
                  rw [if_pos rfl]
                  have hb1 := bal_class hb
                  split at h
                  rename_i neg s2 hneg
                  split at h
                  · cases h
                  · rename_i cl s3 hc
                    obtain ⟨c1, c2⟩ := classL_ext hc
                    obtain ⟨e1, rfl, e3⟩ := reps_ext (n2 := n2) h ht j
                    rw [sh_set] at e1
                    have hs2 : (match s1 ++ t with | 94 :: s2 => (true, s2) | _ => (false, s1 ++ t)) = (neg, s2 ++ t) ∧ Bal 1 d2 s2 := by
                      split at hneg
                      · cases hneg
                        exact ⟨rfl, bal_in hb1 (by omega) (by omega)⟩
                      · rename_i hne
                        cases hneg
                        refine ⟨?_, hb1⟩
                        split
                        · rename_i e
                          cases s1 with
                          | nil => exact absurd hc class_bad0
                          | cons q u => injection e with e _; exact absurd (by rw [e]) (hne u)
                        · rfl
                    rw [hs2.1]
                    refine ⟨?_, e3 _ (c2 _ hs2.2)⟩
                    simp only [c1 n2 k2 t (by omega)]
                    exact e1
                · rename_i h91
                  rw [if_neg h91]
                  split at h
                  · rename_i hr
                    subst hr
                    rw [if_pos rfl]
                    split at h
                    · cases h
                    · rename_i q s2
                      split at h
                      · cases h
                      · rename_i ql qn hm
                        obtain ⟨e1, rfl, e3⟩ := reps_ext (n2 := n2) h ht j
                        rw [sh_set] at e1
                        refine ⟨?_, e3 _ (bal_back hb)⟩
                        simp only [List.cons_append, hm]
                        exact e1
                  · rename_i h92
                    rw [if_neg h92]
                    split at h
                    · cases h
                    · rename_i hm4
                      obtain ⟨e1, rfl, e3⟩ := reps_ext (n2 := n2) h ht j
                      rw [sh_set] at e1
                      rw [if_neg hm4]
                      exact ⟨e1, e3 _ (bal_other hb h92 h91 h40 h41)⟩
    · intro no s g d l s' g' h hg t ht d2 k2 hk hb
      obtain ⟨k2, rfl⟩ : ∃ x, k2 = x + 1 := ⟨k2 - 1, by omega⟩
      unfold grpP at h
      split at h
      · cases h
      · rename_i l1 s1 g1 ha
        split at h
        · rename_i s2
          obtain ⟨e1, rfl, e3⟩ := reps_ext (n2 := n2) h ht j
          obtain ⟨a1, a2⟩ := iA _ _ _ _ _ _ ha hg t ht (.inl (by simp)) (d2 + 1) k2 (by omega) hb
          refine ⟨?_, e3 _ (bal_close a2)⟩
          rw [sh_cons, shf_group, sh_lower] at e1
          simp only [grpP, a1]
          exact e1
        · cases h
end ReM
end Go.Proofs.YtefgjicegbhcaaaGreat
