/- Layer 8, lists: the reading by places (times), a class's member as the code reads it (memC), a class member by member. -/
import Derived.Test.YtefgjicegbhcaaaGreatReN
import Derived.Test.YtefgjicegbhcaaaGreatRst
namespace Go.Proofs.YtefgjicegbhcaaaGreat
open Go.RowKit ReM

/-- the classes of signs -/
def CC : Cls := ⟨fun r => decide (cls r = 4 ∨ cls r = 1), lo⟩
theorem mean_is (r : Int) : mean CC r = if r = 68 then some ([48, 57], true) else if r = 100 then some ([48, 57], false) else
    if r = 87 then some ([97, 122, 65, 90, 48, 57, 95, 95], true) else if r = 119 then some ([97, 122, 65, 90, 48, 57, 95, 95], false) else
    if r = 83 then some ([32, 32, 9, 9, 10, 10], true) else if r = 115 then some ([32, 32, 9, 9, 10, 10], false) else
    if r = 110 then some ([10, 10], false) else if r = 116 then some ([9, 9], false) else if cls r = 4 ∨ cls r = 1 then some ([r, r], false) else none := by
  have hlo : lo r = if (65 ≤ r ∧ r ≤ 90) ∨ (192 ≤ r ∧ r ≤ 222 ∧ r ≠ 215) then r + 32 else r := by unfold lo; simp [cpt]
  by_cases h1 : r = 68
  · subst h1; rfl
  by_cases h2 : r = 100
  · subst h2; rfl
  by_cases h3 : r = 87
  · subst h3; rfl
  by_cases h4 : r = 119
  · subst h4; rfl
  by_cases h5 : r = 83
  · subst h5; rfl
  by_cases h6 : r = 115
  · subst h6; rfl
  rw [if_neg h1, if_neg h2, if_neg h3, if_neg h4, if_neg h5, if_neg h6]
  unfold mean
  dsimp only [CC]
  have e1 : ¬ (lo r = 100 ∧ r < 128) := by rw [hlo]; split <;> omega
  have e2 : ¬ (lo r = 119 ∧ r < 128) := by rw [hlo]; split <;> omega
  have e3 : ¬ (lo r = 115 ∧ r < 128) := by rw [hlo]; split <;> omega
  rw [if_neg e1, if_neg e2, if_neg e3]
  simp
theorem mean_end : mean CC (-1) = none := by rw [mean_is]; decide
theorem mean_not {r : Int} {l : List Int} (h : mean CC r = some (l, true)) : one l = false := by
  rw [mean_is] at h
  repeat' split at h
  all_goals first | (cases h; rfl) | cases h
theorem mean_len {r : Int} {l : List Int} {b : Bool} (h : mean CC r = some (l, b)) : l.length ≤ 8 ∧ l ≠ [] := by
  rw [mean_is] at h
  repeat' split at h
  all_goals first | (cases h; simp) | cases h
theorem one_same (x : Int) : one [x, x] = true := by simp [one]
theorem one_is {l : List Int} (h : one l = true) : ∃ x, l = [x, x] := by
  unfold one at h
  split at h
  · simp at h; exact ⟨_, by rw [h]⟩
  · cases h
theorem fst_pair (x : Int) : fst [x, x] = x := rfl

/-! ## times by places -/
inductive Ri where
  | ok : Int → Int → Nat → Ri
  | bad : Nat → Ri
def timesI (p : List Int) (i : Nat) : Ri :=
  if dig (nx p (i + 1)) = true then
    if nx p (i + 2) = 44 then
      if nx p (i + 3) = 125 then .ok (nx p (i + 1) - 48) (-1) (i + 4)
      else if dig (nx p (i + 3)) = true then
        if nx p (i + 4) = 125 then (if nx p (i + 3) < nx p (i + 1) then .bad i else .ok (nx p (i + 1) - 48) (nx p (i + 3) - 48) (i + 5))
        else .bad (i + 4)
      else .bad (i + 3)
    else if nx p (i + 2) = 125 then .ok (nx p (i + 1) - 48) (nx p (i + 1) - 48) (i + 3)
    else .bad (i + 2)
  else .bad (i + 1)
def RtI (p : List Int) : Rt → Ri → Prop
  | .ok lo hi s, .ok lo' hi' j => lo = lo' ∧ hi = hi' ∧ s = p.drop j ∧ j ≤ p.length
  | .bad k, .bad j => k = j ∧ j ≤ p.length
  | _, _ => False
theorem at_drop (p : List Int) (i : Nat) (h : i ≤ p.length) : at_ p.length (p.drop i) = i := by
  unfold at_; simp only [List.length_drop]; omega
theorem drop_nx {p : List Int} {i : Nat} (h : i < p.length) : p.drop i = nx p i :: p.drop (i + 1) := by
  rw [nx_lt h, List.drop_eq_getElem_cons h, gt_get h]
theorem drop_end {p : List Int} {i : Nat} (h : p.length ≤ i) : p.drop i = [] := List.drop_eq_nil_of_le h
theorem dig_end : dig (-1) = false := rfl
theorem times_ix (p : List Int) (i : Nat) (hi : i < p.length) : RtI p (times p.length (p.drop i)) (timesI p i) := by
  rw [drop_nx hi]
  unfold timesI
  by_cases h1 : i + 1 < p.length
  · rw [drop_nx h1]
    by_cases d1 : dig (nx p (i + 1)) = true
    · rw [if_pos d1]
      by_cases h2 : i + 1 + 1 < p.length
      · rw [drop_nx h2, show i + 1 + 1 = i + 2 from rfl]
        by_cases e2 : nx p (i + 2) = 44
        · rw [if_pos e2, e2]
          by_cases h3 : i + 2 + 1 < p.length
          · rw [drop_nx h3, show i + 2 + 1 = i + 3 from rfl]
            by_cases e3 : nx p (i + 3) = 125
            · rw [if_pos e3, e3]
              simp only [times, d1, if_true]
              exact ⟨rfl, rfl, rfl, by omega⟩
            · rw [if_neg e3]
              by_cases d3 : dig (nx p (i + 3)) = true
              · rw [if_pos d3]
                by_cases h4 : i + 3 + 1 < p.length
                · rw [drop_nx h4, show i + 3 + 1 = i + 4 from rfl]
                  by_cases e4 : nx p (i + 4) = 125
                  · rw [if_pos e4, e4]
                    by_cases e5 : nx p (i + 3) < nx p (i + 1)
                    · rw [if_pos e5]
                      simp only [times, d1, d3, e5, if_true]
                      refine ⟨?_, by omega⟩
                      unfold at_; simp only [List.length_cons, List.length_drop]; omega
                    · rw [if_neg e5]
                      simp only [times, d1, d3, e5, if_true, if_false]
                      exact ⟨rfl, rfl, rfl, by omega⟩
                  · rw [if_neg e4]
                    simp only [times, d1, d3, if_true]
                    split
                    · rename_i hh; exact absurd (List.cons.inj hh).1 e4
                    · refine ⟨?_, by omega⟩
                      unfold at_; simp only [List.length_cons, List.length_drop]; omega
                · rw [drop_end (by omega), if_neg (by rw [nx_end (by omega)]; decide)]
                  simp only [times, d1, d3, if_true]
                  refine ⟨?_, by omega⟩
                  unfold at_; simp only [List.length_nil]; omega
              · rw [if_neg d3]
                simp only [times, d1, d3, if_true, Bool.false_eq_true, if_false]
                refine ⟨?_, by omega⟩
                unfold at_; simp only [List.length_cons, List.length_drop]; omega
          · rw [drop_end (by omega), if_neg (by rw [nx_end (by omega)]; decide), if_neg (by rw [nx_end (by omega)]; decide)]
            simp only [times, d1, if_true]
            refine ⟨?_, by omega⟩
            unfold at_; simp only [List.length_nil]; omega
        · rw [if_neg e2]
          by_cases e3 : nx p (i + 2) = 125
          · rw [if_pos e3, e3]
            simp only [times, d1, if_true]
            exact ⟨rfl, rfl, rfl, by omega⟩
          · rw [if_neg e3]
            simp only [times, d1, if_true]
            split
            · rename_i hh; exact absurd (List.cons.inj hh).1 e3
            · rename_i hh; exact absurd (List.cons.inj hh).1 e2
            · rename_i hh; exact absurd (List.cons.inj hh).1 e2
            · rename_i hh; exact absurd (List.cons.inj hh).1 e2
            · refine ⟨?_, by omega⟩
              unfold at_; simp only [List.length_cons, List.length_drop]; omega
      · rw [drop_end (by omega), if_neg (by rw [nx_end (by omega)]; decide), if_neg (by rw [nx_end (by omega)]; decide)]
        simp only [times, d1, if_true]
        refine ⟨?_, by omega⟩
        unfold at_; simp only [List.length_nil]; omega
    · rw [if_neg d1]
      simp only [times, d1, Bool.false_eq_true, if_false]
      refine ⟨?_, by omega⟩
      unfold at_; simp only [List.length_cons, List.length_drop]; omega
  · rw [drop_end (by omega), if_neg (by rw [nx_end (by omega)]; decide)]
    simp only [times]
    refine ⟨?_, by omega⟩
    unfold at_; simp only [List.length_nil]; omega

/-! ## a member, with the range behind it, as the code reads it -/
inductive Mc where
  | ok : List Int → List Int → Mc
  | bad : Int → Mc
def memC (C : Cls) (n : Nat) (s : List Int) : Mc :=
  match member C (at_ n s) s with
  | .bad i => .bad i
  | .ok m o s1 =>
    if o = false then .ok m s1 else match s1 with
    | 45 :: s2 => match s2 with
      | [] => .ok (m ++ [45, 45]) s2
      | q :: t => if q = 93 then .ok (m ++ [45, 45]) (q :: t) else
        match member C (at_ n (q :: t)) (q :: t) with
        | .bad j => .bad j
        | .ok m2 o2 s3 => if o2 = true then (if fst m2 < fst m then .bad (at_ n s) else .ok [fst m, fst m2] s3) else .ok (m ++ [45, 45] ++ m2) s3
    | _ => .ok m s1
/-- a class, with rounds enough -/
def clsF (C : Cls) (n : Nat) (acc s : List Int) : Rc := classL C n (s.length + 1) acc s
theorem clsF_of {C : Cls} {n k : Nat} {acc s : List Int} (h : s.length < k) : classL C n k acc s = clsF C n acc s := by
  unfold clsF
  obtain ⟨j, rfl⟩ : ∃ j, k = s.length + 1 + j := ⟨k - (s.length + 1), by omega⟩
  exact classL_more _ _ _ (by omega) _
def clsS (C : Cls) (n : Nat) (acc s : List Int) : Rc := match s with
  | 93 :: s3 => .ok acc s3
  | _ => clsF C n acc s
theorem clsS_other {C : Cls} {n : Nat} {acc s : List Int} (h : ∀ t, s ≠ 93 :: t) : clsS C n acc s = clsF C n acc s := by
  unfold clsS; split
  · exact absurd rfl (h _)
  · rfl
theorem single_member {C : Cls} {i : Int} {q : Int} {t : List Int} (h : q ≠ 93) :
    single C (q :: t) = match member C i (q :: t) with | .ok _ o _ => o | .bad _ => false := by
  unfold single member
  by_cases hq : q = 92
  · subst hq
    cases t with
    | nil => rfl
    | cons x t =>
      simp only [if_true, if_neg h]
      cases hm : mean C x with
      | none => rfl
      | some v => obtain ⟨l, b⟩ := v; cases b <;> rfl
  · simp only [if_neg h, if_neg hq]
/-- what may stand behind a member's minus -/
def dash (C : Cls) (o : Bool) (s1 : List Int) : Option (List Int) := if o = true then (match s1 with | 45 :: s2 => if single C s2 = true then some s2 else none | _ => none) else none
theorem classL_def (C : Cls) (n k : Nat) (acc s : List Int) : classL C n (k + 1) acc s = match member C (at_ n s) s with
    | .bad i => .bad i
    | .ok m o s1 => match dash C o s1 with
      | none => match s1 with
        | 93 :: s3 => .ok (acc ++ m) s3
        | _ => classL C n k (acc ++ m) s1
      | some s2 => match member C (at_ n s2) s2 with
        | .bad i => .bad i
        | .ok m2 _ s3 => if fst m2 < fst m then .bad (at_ n s) else match s3 with
          | 93 :: s4 => .ok (acc ++ [fst m, fst m2]) s4
          | _ => classL C n k (acc ++ [fst m, fst m2]) s3 := by
  rw [classL]; rfl
/-- one round of classL -/
theorem cls_round {C : Cls} {n : Nat} (acc s : List Int) : clsF C n acc s = match member C (at_ n s) s with
    | .bad i => .bad i
    | .ok m o s1 => match dash C o s1 with
      | none => clsS C n (acc ++ m) s1
      | some s2 => match member C (at_ n s2) s2 with
        | .bad i => .bad i
        | .ok m2 _ s3 => if fst m2 < fst m then .bad (at_ n s) else clsS C n (acc ++ [fst m, fst m2]) s3 := by
  unfold clsF
  rw [classL_def]
  cases hm : member C (at_ n s) s with
  | bad i => rfl
  | ok m o s1 =>
    have hl := member_len hm
    dsimp only
    cases hd : dash C o s1 with
    | none =>
      dsimp only
      unfold clsS
      split
      · rfl
      · exact clsF_of hl
    | some s2 =>
      have hl2 : s2.length < s1.length := by
        unfold dash at hd
        cases o with
        | false => cases hd
        | true =>
          simp only [if_true] at hd
          split at hd
          · split at hd
            · cases hd; simp
            · cases hd
          · cases hd
      dsimp only
      cases hm2 : member C (at_ n s2) s2 with
      | bad i => rfl
      | ok m2 o2 s3 =>
        have hl3 := member_len hm2
        dsimp only
        by_cases hf : fst m2 < fst m
        · rw [if_pos hf, if_pos hf]
        · rw [if_neg hf, if_neg hf]
          unfold clsS
          split
          · rfl
          · exact clsF_of (by omega)
theorem member_one {C : Cls} {i : Int} {s m s1 : List Int} {o : Bool} (h : member C i s = .ok m o s1) : o = one m := by
  unfold member at h
  split at h
  · cases h
  · split at h
    · split at h
      · cases h
      · split at h
        · cases h; rfl
        · cases h
    · split at h
      · cases h
      · cases h; rw [one_same]
theorem dash_ne {C : Cls} {s : List Int} (h : ∀ t, s ≠ 45 :: t) (o : Bool) : dash C o s = none := by
  unfold dash; split
  · split
    · exact absurd rfl (h _)
    · rfl
  · rfl
theorem dash_false (C : Cls) (s : List Int) : dash C false s = none := rfl
theorem dash_nil (C : Cls) : dash C true [45] = none := rfl
theorem dash_end (C : Cls) (t : List Int) : dash C true (45 :: 93 :: t) = none := rfl
theorem dash_some {C : Cls} {s : List Int} : dash C true (45 :: s) = if single C s = true then some s else none := rfl
theorem dash_no {C : Cls} {q : Int} {t : List Int} {i : Int} (hq : q ≠ 93) (h : member C i (q :: t) = .bad i ∨ ∃ j, member C i (q :: t) = .bad j) : dash C true (45 :: q :: t) = none := by
  rw [dash_some, single_member (i := i) hq]
  rcases h with h | ⟨j, h⟩ <;> rw [h] <;> rfl
theorem cls_mem {C : Cls} {n : Nat} (acc s : List Int) : clsF C n acc s = match memC C n s with
    | .bad j => .bad j
    | .ok m s' => clsS C n (acc ++ m) s' := by
  rw [cls_round]
  unfold memC
  cases hm : member C (at_ n s) s with
  | bad i => rfl
  | ok m o s1 =>
    dsimp only
    cases o with
    | false => rfl
    | true =>
      simp only [Bool.true_eq_false, if_false]
      by_cases h45 : ∃ s2, s1 = 45 :: s2
      · obtain ⟨s2, rfl⟩ := h45
        cases s2 with
        | nil =>
          rw [dash_nil]
          dsimp only
          rw [clsS_other (by intro t e; cases e), cls_round]
          simp [member, dash]
        | cons q t =>
          by_cases hq : q = 93
          · subst hq
            rw [dash_end]
            dsimp only
            rw [clsS_other (by intro t e; cases e), cls_round]
            have e : member C (at_ n (45 :: 93 :: t)) (45 :: 93 :: t) = .ok [45, 45] true (93 :: t) := by simp [member]
            rw [e]
            simp [dash]
          · simp only [if_neg hq]
            rw [dash_some, single_member (i := at_ n (q :: t)) hq]
            have e : member C (at_ n (45 :: q :: t)) (45 :: q :: t) = .ok [45, 45] true (q :: t) := by simp [member]
            have hmin : ∀ (hb : q ≠ 45), clsS C n (acc ++ m) (45 :: q :: t) = clsF C n (acc ++ m ++ [45, 45]) (q :: t) := by
              intro hb
              rw [clsS_other (by intro t e; cases e), cls_round, e]
              dsimp only
              rw [dash_ne (by intro u e; cases e; exact hb rfl)]
              dsimp only
              rw [clsS_other (by intro u e; cases e; exact hq rfl)]
            have h45 : (∃ j, member C (at_ n (q :: t)) (q :: t) = .bad j) ∨ (∃ a b, member C (at_ n (q :: t)) (q :: t) = .ok a false b) → q ≠ 45 := by
              rintro h rfl
              simp [member] at h
            cases hm2 : member C (at_ n (q :: t)) (q :: t) with
            | bad j =>
              simp only [Bool.false_eq_true, if_false]
              rw [hmin (h45 (.inl ⟨j, hm2⟩)), cls_round, hm2]
            | ok m2 o2 s3 =>
              cases o2 with
              | true =>
                simp only [if_true]
                rw [hm2]
                dsimp only
                split <;> rfl
              | false =>
                simp only [Bool.false_eq_true, if_false]
                rw [hmin (h45 (.inr ⟨_, _, hm2⟩)), cls_round, hm2]
                dsimp only
                rw [dash_false]
                simp
      · have hn : ∀ t, s1 ≠ 45 :: t := fun t e => h45 ⟨t, e⟩
        rw [dash_ne hn]
        dsimp only
        split
        · rename_i heq
          split at heq
          · exact absurd rfl (hn _)
          · cases heq
        · rename_i heq
          split at heq
          · exact absurd rfl (hn _)
          · cases heq; rfl
theorem member_lt {i : Int} {s m s1 : List Int} {o : Bool} (h : member CC i s = .ok m o s1) : m.length ≤ 8 := by
  unfold member at h
  split at h
  · cases h
  · split at h
    · split at h
      · cases h
      · split at h
        · rename_i hm; cases h; exact (mean_len hm).1
        · cases h
    · split at h
      · cases h
      · cases h; simp
theorem member_ne {i : Int} {s m s1 : List Int} {o : Bool} (h : member CC i s = .ok m o s1) : m ≠ [] := by
  unfold member at h
  split at h
  · cases h
  · split at h
    · split at h
      · cases h
      · split at h
        · rename_i hm; cases h; exact (mean_len hm).2
        · cases h
    · split at h
      · cases h
      · cases h; simp
theorem memC_ne {n : Nat} {s m s' : List Int} (h : memC CC n s = .ok m s') : m ≠ [] := by
  unfold memC at h
  split at h
  · cases h
  · rename_i m0 o s1 hm
    have h0 := member_ne hm
    split at h
    · cases h; exact h0
    · split at h
      · split at h
        · cases h; simp [h0]
        · split at h
          · cases h; simp [h0]
          · split at h
            · cases h
            · split at h
              · split at h
                · cases h
                · cases h; simp
              · cases h; simp [h0]
      · cases h; exact h0
end Go.Proofs.YtefgjicegbhcaaaGreat
