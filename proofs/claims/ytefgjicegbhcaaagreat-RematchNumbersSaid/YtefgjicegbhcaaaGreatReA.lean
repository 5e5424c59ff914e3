/- Layer 8, lists: an item by places: its atom (atomI), the repeat behind it (item_ix). -/
import Derived.Test.YtefgjicegbhcaaaGreatReZ
namespace Go.Proofs.YtefgjicegbhcaaaGreat
open Go.RowKit ReM

def grpI (p : List Int) (k : Nat) (no : Int) (i g d : Nat) : Rg := match altP CC p.length k (p.drop i) g (d + 1) with
  | .bad c f => .bad c f
  | .ok l s1 g1 => match s1 with
    | 41 :: s2 => .ok (nGroup no :: lower l) s2 g1
    | _ => .bad 5 (at_ p.length s1)
def clsI (p : List Int) (neg : Bool) (i g : Nat) : Rg := match clsF CC p.length [] (p.drop i) with
  | .bad f => .bad 5 f
  | .ok l s => .ok [nSet neg l] s g
def atomI (p : List Int) (k i g d : Nat) : Rg :=
  if nx p i = 46 then .ok [nSet true [10, 10]] (p.drop (i + 1)) g
  else if nx p i = 40 then
    if 12 ≤ d then .bad 6 i
    else if nx p (i + 1) = 63 then (if nx p (i + 2) = 58 then grpI p k 0 (i + 3) g d else .bad 5 (i + 2 : Nat))
    else if 9 ≤ g then .bad 3 i else grpI p k ((g : Int) + 1) (i + 1) (g + 1) d
  else if nx p i = 91 then (if nx p (i + 1) = 94 then clsI p true (i + 2) g else clsI p false (i + 1) g)
  else if nx p i = 92 then (match mean CC (nx p (i + 1)) with
    | none => .bad 5 (i + 1 : Nat)
    | some (l, ng) => .ok [nSet ng l] (p.drop (i + 2)) g)
  else if meta4 (nx p i) = true then .bad 5 i
  else .ok [nSet false [nx p i, nx p i]] (p.drop (i + 1)) g
theorem grp_def (n k : Nat) (no : Int) (s : List Int) (g d : Nat) : grpP CC n (k + 1) no s g d = (match altP CC n k s g (d + 1) with
    | .bad c i => .bad c i
    | .ok l s1 g1 => match s1 with
      | 41 :: s2 => reps n (nGroup no :: lower l) s2 g1
      | _ => .bad 5 (at_ n s1)) := by
  rw [grpP] <;> rfl
theorem grp_ix (p : List Int) (k : Nat) (no : Int) (i g d : Nat) : grpP CC p.length (k + 1) no (p.drop i) g d = (match grpI p k no i g d with | .bad c f => .bad c f | .ok l s1 g1 => reps p.length l s1 g1) := by
  rw [grp_def]
  unfold grpI
  cases altP CC p.length k (p.drop i) g (d + 1) with
  | bad c f => rfl
  | ok l s1 g1 =>
    dsimp only
    by_cases h : ∃ s2, s1 = 41 :: s2
    · obtain ⟨s2, rfl⟩ := h; rfl
    · have hn : ∀ t, s1 ≠ 41 :: t := fun t e => h ⟨t, e⟩
      split
      · exact absurd rfl (hn _)
      · rfl
theorem item_def (n k : Nat) (r : Int) (s1 : List Int) (g d : Nat) : itemP CC n (k + 1) (r :: s1) g d = (if r = 94 then .ok [nStart] s1 g
      else if r = 36 then .ok [nEnd] s1 g
      else if r = 46 then reps n [nSet true [10, 10]] s1 g
      else if r = 40 then
        if 12 ≤ d then .bad 6 (at_ n (r :: s1))
        else match s1 with
          | 63 :: s2 => match s2 with
            | 58 :: s3 => grpP CC n k 0 s3 g d
            | _ => .bad 5 (at_ n s2)
          | _ => if 9 ≤ g then .bad 3 (at_ n (r :: s1)) else grpP CC n k ((g : Int) + 1) s1 (g + 1) d
      else if r = 91 then
        match (match s1 with | 94 :: s2 => (true, s2) | _ => (false, s1)) with
        | (neg, s2) => match classL CC n k [] s2 with
          | .bad i => .bad 5 i
          | .ok l s3 => reps n [nSet neg l] s3 g
      else if r = 92 then
        match s1 with
        | [] => .bad 5 (at_ n s1)
        | q :: s2 => match mean CC q with
          | none => .bad 5 (at_ n s1)
          | some (l, neg) => reps n [nSet neg l] s2 g
      else if meta4 r then .bad 5 (at_ n (r :: s1))
      else reps n [nSet false [r, r]] s1 g) := by
  unfold itemP; rfl
/-- the repeat behind an atom -/
def thenR (n : Nat) (x : Rg) : Rg := match x with | .bad c f => .bad c f | .ok l s1 g1 => reps n l s1 g1
theorem grp_ix' (p : List Int) (k : Nat) (no : Int) (i g d : Nat) : grpP CC p.length (k + 1) no (p.drop i) g d = thenR p.length (grpI p k no i g d) := by
  rw [grp_ix]; unfold thenR; rfl
theorem item_ix (p : List Int) (k i g d : Nat) (hi : i < p.length) (hk : p.length ≤ k + i + 1) (h1 : nx p i ≠ 94) (h2 : nx p i ≠ 36) :
    itemP CC p.length (k + 2) (p.drop i) g d = thenR p.length (atomI p k i g d) := by
  have hat := at_drop p i (by omega)
  rw [drop_nx hi] at hat ⊢
  rw [item_def, if_neg h1, if_neg h2, hat]
  unfold atomI
  by_cases h46 : nx p i = 46
  · rw [if_pos h46, if_pos h46]; rfl
  rw [if_neg h46, if_neg h46]
  by_cases h40 : nx p i = 40
  · rw [if_pos h40, if_pos h40]
    by_cases hd : 12 ≤ d
    · rw [if_pos hd, if_pos hd]; rfl
    rw [if_neg hd, if_neg hd]
    by_cases h63 : nx p (i + 1) = 63
    · rw [if_pos h63]
      have l1 : i + 1 < p.length := by
        rcases Nat.lt_or_ge (i + 1) p.length with h | h
        · exact h
        · rw [nx_end h] at h63; cases h63
      rw [drop_nx l1, h63]
      by_cases h58 : nx p (i + 2) = 58
      · rw [if_pos h58]
        have l2 : i + 2 < p.length := by
          rcases Nat.lt_or_ge (i + 2) p.length with h | h
          · exact h
          · rw [nx_end h] at h58; cases h58
        rw [show i + 1 + 1 = i + 2 from rfl, drop_nx l2, h58]
        exact grp_ix' p k 0 (i + 3) g d
      · rw [if_neg h58]
        rw [show i + 1 + 1 = i + 2 from rfl]
        have e2 := at_drop p (i + 2) (by omega)
        show (match p.drop (i + 2) with | 58 :: s3 => grpP CC p.length (k + 1) 0 s3 g d | _ => Rg.bad 5 (at_ p.length (p.drop (i + 2)))) = _
        rw [e2]
        split
        · rename_i hh
          rcases Nat.lt_or_ge (i + 2) p.length with l2 | l2
          · rw [drop_nx l2] at hh
            exact absurd (List.cons.inj hh).1 h58
          · rw [drop_end l2] at hh; cases hh
        · rfl
    · rw [if_neg h63]
      split
      · rename_i hh
        have l1 : i + 1 < p.length := by
          rcases Nat.lt_or_ge (i + 1) p.length with h | h
          · exact h
          · rw [drop_end h] at hh; cases hh
        rw [drop_nx l1] at hh
        exact absurd (List.cons.inj hh).1 h63
      · by_cases hg : 9 ≤ g
        · rw [if_pos hg, if_pos hg]; rfl
        · rw [if_neg hg, if_neg hg]; exact grp_ix' p k _ (i + 1) (g + 1) d
  rw [if_neg h40, if_neg h40]
  have hcl : ∀ (neg : Bool) (j : Nat), i + 1 ≤ j → (match classL CC p.length (k + 1) [] (p.drop j) with | .bad i => Rg.bad 5 i | .ok l s3 => reps p.length [nSet neg l] s3 g) = thenR p.length (clsI p neg j g) := by
    intro neg j hj
    rw [clsF_of (by simp only [List.length_drop]; omega)]
    unfold clsI
    cases clsF CC p.length [] (p.drop j) <;> rfl
  by_cases h91 : nx p i = 91
  · rw [if_pos h91, if_pos h91]
    by_cases h94 : nx p (i + 1) = 94
    · rw [if_pos h94]
      have l1 : i + 1 < p.length := by
        rcases Nat.lt_or_ge (i + 1) p.length with h | h
        · exact h
        · rw [nx_end h] at h94; cases h94
      rw [drop_nx l1, h94]
      exact hcl true (i + 2) (by omega)
    · rw [if_neg h94]
      have e : (match p.drop (i + 1) with | 94 :: s2 => (true, s2) | _ => (false, p.drop (i + 1))) = (false, p.drop (i + 1)) := by
        split
        · rename_i hh
          have l1 : i + 1 < p.length := by
            rcases Nat.lt_or_ge (i + 1) p.length with h | h
            · exact h
            · rw [drop_end h] at hh; cases hh
          rw [drop_nx l1] at hh
          exact absurd (List.cons.inj hh).1 h94
        · rfl
      rw [e]
      exact hcl false (i + 1) (by omega)
  rw [if_neg h91, if_neg h91]
  by_cases h92 : nx p i = 92
  · rw [if_pos h92, if_pos h92]
    rcases Nat.lt_or_ge (i + 1) p.length with l1 | l1
    · have e1 := at_drop p (i + 1) (by omega)
      rw [drop_nx l1] at e1 ⊢
      dsimp only
      rw [e1]
      cases mean CC (nx p (i + 1)) with
      | none => rfl
      | some v => rfl
    · have e1 := at_drop p (i + 1) (by omega)
      rw [drop_end l1] at e1 ⊢
      rw [nx_end l1, mean_end, e1]
      rfl
  rw [if_neg h92, if_neg h92]
  by_cases hm : meta4 (nx p i) = true
  · rw [if_pos hm, if_pos hm]; rfl
  · rw [if_neg hm, if_neg hm]; rfl
theorem reps_g {p : List Int} {a l : List Rn} {g g' j : Nat} {s' : List Int} (h : repsI p a g j = .ok l s' g') : g' = g := by
  unfold repsI finI at h
  repeat' split at h
  all_goals first | (cases h; rfl) | (split at h <;> (cases h; rfl)) | cases h
theorem grp_lt {p : List Int} {k : Nat} {no : Int} {i j g d : Nat} {l : List Rn} {s : List Int} {g' : Nat} (h : grpI p k no j g d = .ok l s g') (hi : i < p.length) (hj : i < j) : s.length < p.length - i := by
  unfold grpI at h
  split at h
  · cases h
  · rename_i l1 s1 g1 hA
    have hl := (all_len CC p.length k).1 _ _ _ _ _ _ hA
    simp only [List.length_drop] at hl
    split at h
    · cases h
      simp only [List.length_cons] at hl
      omega
    · cases h
theorem cls_lt {p : List Int} {neg : Bool} {i j g : Nat} {l : List Rn} {s : List Int} {g' : Nat} (h : clsI p neg j g = .ok l s g') (hi : i < p.length) (hj : i < j) : s.length < p.length - i := by
  unfold clsI clsF at h
  split at h
  · cases h
  · rename_i l1 s1 hA
    have hl := classL_len hA
    simp only [List.length_drop] at hl
    cases h
    omega
theorem atom_lt {p : List Int} {k i g d : Nat} {l : List Rn} {s : List Int} {g' : Nat} (h : atomI p k i g d = .ok l s g') (hi : i < p.length) : s.length < p.length - i := by
  unfold atomI at h
  have hd : ∀ j, i < j → (p.drop j).length < p.length - i := fun j hj => by simp only [List.length_drop]; omega
  split at h
  · cases h; exact hd _ (by omega)
  split at h
  · split at h
    · cases h
    split at h
    · split at h
      · exact grp_lt h hi (by omega)
      · cases h
    split at h
    · cases h
    · exact grp_lt h hi (by omega)
  split at h
  · split at h
    · exact cls_lt h hi (by omega)
    · exact cls_lt h hi (by omega)
  split at h
  · split at h
    · cases h
    · cases h; exact hd _ (by omega)
  split at h
  · cases h
  · cases h; exact hd _ (by omega)
end Go.Proofs.YtefgjicegbhcaaaGreat
