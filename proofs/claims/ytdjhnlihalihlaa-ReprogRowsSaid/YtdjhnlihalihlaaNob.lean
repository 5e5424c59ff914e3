/- Layers 8, 9: no | stands outside of parentheses (Nb): such a pattern is one row; what the tape makes is such. -/
import Derived.Test.YtdjhnlihalihlaaReX
namespace Go.Proofs.Ytdjhnlihalihlaa
namespace ReM
/-- no | outside of parentheses (c: in how many one stands); in a class (1), behind a backslash (2, 3) nothing counts -/
def Nb : Nat → Nat → List Int → Prop
  | _, _, [] => True
  | m, c, r :: s =>
    if m = 2 then Nb 0 c s
    else if m = 3 then Nb 1 c s
    else if r = 92 then Nb (m + 2) c s
    else if m = 1 then Nb (if r = 93 then 0 else 1) c s
    else if r = 91 then Nb 1 c s
    else if r = 40 then Nb 0 (c + 1) s
    else if r = 41 then Nb 0 (c - 1) s
    else (r = 124 → c ≠ 0) ∧ Nb 0 c s
theorem nb_other {c : Nat} {r : Int} {s : List Int} (h : Nb 0 c (r :: s)) (h1 : r ≠ 92) (h2 : r ≠ 91) (h3 : r ≠ 40) (h4 : r ≠ 41) : (r = 124 → c ≠ 0) ∧ Nb 0 c s := by
  unfold Nb at h
  simpa [h1, h2, h3, h4] using h
theorem nb_open {c : Nat} {s : List Int} (h : Nb 0 c (40 :: s)) : Nb 0 (c + 1) s := by
  unfold Nb at h; simpa using h
theorem nb_close {c : Nat} {s : List Int} (h : Nb 0 (c + 1) (41 :: s)) : Nb 0 c s := by
  unfold Nb at h; simpa using h
theorem nb_back {c : Nat} {q : Int} {s : List Int} (h : Nb 0 c (92 :: q :: s)) : Nb 0 c s := by
  simpa [Nb] using h
theorem nb_class {c : Nat} {s : List Int} (h : Nb 0 c (91 :: s)) : Nb 1 c s := by
  unfold Nb at h; simpa using h
theorem nb_in {c : Nat} {r : Int} {s : List Int} (h : Nb 1 c (r :: s)) (h1 : r ≠ 92) (h2 : r ≠ 93) : Nb 1 c s := by
  unfold Nb at h; simpa [h1, h2] using h
theorem nb_end {c : Nat} {s : List Int} (h : Nb 1 c (93 :: s)) : Nb 0 c s := by
  unfold Nb at h; simpa using h
theorem nb_back1 {c : Nat} {q : Int} {s : List Int} (h : Nb 1 c (92 :: q :: s)) : Nb 1 c s := by
  simpa [Nb] using h
theorem member_nb {C : Cls} {i : Int} {s l s' : List Int} {o : Bool} (h : member C i s = .ok l o s') : ∀ c, Nb 1 c s → Nb 1 c s' := by
  unfold member at h
  split at h
  · cases h
  · rename_i r s
    split at h
    · rename_i hr
      subst hr
      split at h
      · cases h
      · rename_i q s2
        split at h
        · rename_i l' hm
          cases h
          exact fun c hb => nb_back1 hb
        · cases h
    · rename_i hr
      split at h
      · cases h
      · rename_i hr2
        cases h
        exact fun c hb => nb_in hb hr hr2
theorem classL_nb {C : Cls} {n k : Nat} {acc s l s' : List Int} (h : classL C n k acc s = .ok l s') : ∀ c, Nb 1 c s → Nb 0 c s' := by
  induction k generalizing acc s with
  | zero => cases h
  | succ k ih =>
    rw [classL_succ] at h
    split at h
    · cases h
    · rename_i m o s1 hm
      have m2 := member_nb hm
      split at h
      · split at h
        · cases h
          exact fun c hb => nb_end (m2 c hb)
        · have i2 := ih h
          exact fun c hb => i2 c (m2 c hb)
      · rename_i s2 hd
        obtain ⟨rfl, -⟩ := dash_some hd
        split at h
        · cases h
        · rename_i q _ s3 hq
          have q2 := member_nb hq
          split at h
          · cases h
          · have bq : ∀ c, Nb 1 c s → Nb 1 c s3 := fun c hb => q2 c (nb_in (m2 c hb) (by omega) (by omega))
            split at h
            · cases h
              exact fun c hb => nb_end (bq c hb)
            · have i2 := ih h
              exact fun c hb => i2 c (bq c hb)
theorem times_nob {n : Nat} {s s' : List Int} {lo hi : Int} (h : times n s = .ok lo hi s') : ∀ c, Nb 0 c s → s.headD 0 = 123 → Nb 0 c s' := by
  have o : ∀ {c : Nat} {r : Int} {s : List Int}, Nb 0 c (r :: s) → r ≠ 92 → r ≠ 91 → r ≠ 40 → r ≠ 41 → Nb 0 c s := fun h h1 h2 h3 h4 => (nb_other h h1 h2 h3 h4).2
  unfold times at h
  split at h
  · rename_i a r s1
    split at h
    · rename_i hr
      have b1 : ∀ c, Nb 0 c (a :: r :: s1) → (a :: r :: s1).headD 0 = 123 → Nb 0 c s1 := fun c hb ha => by
        simp at ha; subst ha
        simp [dig] at hr
        exact o (o hb (by omega) (by omega) (by omega) (by omega)) (by omega) (by omega) (by omega) (by omega)
      split at h
      · cases h
        exact fun c hb ha => o (b1 c hb ha) (by omega) (by omega) (by omega) (by omega)
      · cases h
        exact fun c hb ha => o (o (b1 c hb ha) (by omega) (by omega) (by omega) (by omega)) (by omega) (by omega) (by omega) (by omega)
      · rename_i q s2 hq
        split at h
        · rename_i hd
          split at h
          · rename_i s3
            split at h
            · cases h
            · cases h
              refine fun c hb ha => ?_
              simp [dig] at hd
              exact o (o (o (b1 c hb ha) (by omega) (by omega) (by omega) (by omega)) (by omega) (by omega) (by omega) (by omega)) (by omega) (by omega) (by omega) (by omega)
          · cases h
        · cases h
      · cases h
      · cases h
    · cases h
  · cases h
theorem fin_nob {a l : List Rn} {g g' : Nat} {lo hi : Int} {s s' : List Int} (h : finR a g lo hi s = .ok l s' g') : ∀ c, Nb 0 c s → Nb 0 c s' := by
  unfold finR at h
  split at h
  · cases h
    exact fun c hb => (nb_other hb (by omega) (by omega) (by omega) (by omega)).2
  · cases h
    exact fun c hb => hb
theorem reps_nob {n : Nat} {a l : List Rn} {g g' : Nat} {s s' : List Int} (h : reps n a s g = .ok l s' g') : ∀ c, Nb 0 c s → Nb 0 c s' := by
  rw [reps_def] at h
  split at h
  · exact fun c hb => fin_nob h c (nb_other hb (by omega) (by omega) (by omega) (by omega)).2
  · exact fun c hb => fin_nob h c (nb_other hb (by omega) (by omega) (by omega) (by omega)).2
  · exact fun c hb => fin_nob h c (nb_other hb (by omega) (by omega) (by omega) (by omega)).2
  · split at h
    · rename_i ht
      exact fun c hb => fin_nob h c (times_nob ht c hb rfl)
    · cases h
  · cases h
    exact fun c hb => hb
theorem all_nb (C : Cls) (n : Nat) (k : Nat) :
    (∀ s g d l s' g', altP C n k s g d = .ok l s' g' → ∀ c, Nb 0 c s → Nb 0 c s') ∧
    (∀ acc s g d l s' g', altsP C n k acc s g d = .ok l s' g' → ∀ c, Nb 0 c s → Nb 0 c s') ∧
    (∀ acc s g d l s' g', rowP C n k acc s g d = .ok l s' g' → ∀ c, Nb 0 c s → Nb 0 c s') ∧
    (∀ s g d l s' g', itemP C n k s g d = .ok l s' g' → s.headD 0 ≠ 41 → ∀ c, Nb 0 c s → Nb 0 c s') ∧
    (∀ no s g d l s' g', grpP C n k no s g d = .ok l s' g' → ∀ c, Nb 0 (c + 1) s → Nb 0 c s') := by
  induction k with
  | zero =>
    refine ⟨fun s g d l s' g' h => ?_, fun acc s g d l s' g' h => ?_, fun acc s g d l s' g' h => ?_, fun s g d l s' g' h => ?_, fun no s g d l s' g' h => ?_⟩
    · simp [altP] at h
    · simp [altsP] at h
    · simp [rowP] at h
    · simp [itemP] at h
    · simp [grpP] at h
  | succ k ih =>
    obtain ⟨iA, iB, iR, iI, iG⟩ := ih
    refine ⟨?_, ?_, ?_, ?_, ?_⟩
    · intro s g d l s' g' h c hb
      unfold altP at h
      split at h
      · cases h
      · rename_i r s1 g1 hr
        have r2 := iR _ _ _ _ _ _ _ hr c hb
        split at h
        · exact iB _ _ _ _ _ _ _ h c (nb_other r2 (by omega) (by omega) (by omega) (by omega)).2
        · cases h; exact r2
    · intro acc s g d l s' g' h c hb
      unfold altsP at h
      split at h
      · cases h
      · rename_i r s1 g1 hr
        have r2 := iR _ _ _ _ _ _ _ hr c hb
        split at h
        · exact iB _ _ _ _ _ _ _ h c (nb_other r2 (by omega) (by omega) (by omega) (by omega)).2
        · cases h; exact r2
    · intro acc s g d l s' g' h c hb
      unfold rowP at h
      split at h
      · cases h; exact hb
      · split at h
        · cases h; exact hb
        · rename_i hr
          split at h
          · cases h
          · rename_i it s1 g1 hi
            exact iR _ _ _ _ _ _ _ h c (iI _ _ _ _ _ _ hi (fun e => hr (.inr e)) c hb)
    · intro s g d l s' g' h h41 c hb
      cases s with
      | nil => simp [itemP] at h
      | cons r s1 =>
        have h41' : r ≠ 41 := h41
        rw [item_def] at h
        split at h
        · cases h
          exact (nb_other hb (by omega) (by omega) (by omega) (by omega)).2
        · split at h
          · cases h
            exact (nb_other hb (by omega) (by omega) (by omega) (by omega)).2
          · split at h
            · exact reps_nob h c (nb_other hb (by omega) (by omega) (by omega) (by omega)).2
            · split at h
              · rename_i hr
                subst hr
                have hb1 := nb_open hb
                split at h
                · cases h
                · split at h
                  · split at h
                    · exact iG _ _ _ _ _ _ _ h c (nb_other (nb_other hb1 (by omega) (by omega) (by omega) (by omega)).2 (by omega) (by omega) (by omega) (by omega)).2
                    · cases h
                  · split at h
                    · cases h
                    · exact iG _ _ _ _ _ _ _ h c hb1
              · rename_i h40
                split at h
                · rename_i hr
                  subst hr
                  have hb1 := nb_class hb
                  split at h
                  rename_i neg s2 hneg
                  split at h
                  · cases h
                  · rename_i cl s3 hc
                    have hs2 : Nb 1 c s2 := by
                      split at hneg
                      · cases hneg
                        exact nb_in hb1 (by omega) (by omega)
                      · cases hneg
                        exact hb1
                    exact reps_nob h c (classL_nb hc c hs2)
                · rename_i h91
                  split at h
                  · rename_i hr
                    subst hr
                    split at h
                    · cases h
                    · split at h
                      · cases h
                      · exact reps_nob h c (nb_back hb)
                  · rename_i h92
                    split at h
                    · cases h
                    · exact reps_nob h c (nb_other hb h92 h91 h40 h41').2
    · intro no s g d l s' g' h c hb
      unfold grpP at h
      split at h
      · cases h
      · rename_i l1 s1 g1 ha
        have a2 := iA _ _ _ _ _ _ ha (c + 1) hb
        split at h
        · exact reps_nob h c (nb_close a2)
        · cases h
/-- such a pattern is one row -/
theorem alt_one {C : Cls} {n k : Nat} {p s' : List Int} {l2 : List Rn} {g' : Nat} (h : altP C n k p 0 0 = .ok l2 s' g') (hb : Nb 0 0 p) : ∃ m, l2 = nRow :: m := by
  cases k with
  | zero => simp [altP] at h
  | succ k =>
    unfold altP at h
    split at h
    · cases h
    · rename_i r s1 g1 hr
      have r2 := (all_nb C n k).2.2.1 _ _ _ _ _ _ _ hr 0 hb
      split at h
      · exact absurd rfl ((nb_other r2 (by omega) (by omega) (by omega) (by omega)).1 rfl)
      · cases h; exact ⟨_, rfl⟩
/-! ## what the tape makes -/
def Fl (a : List Int) : Prop := ∀ c rest, Nb 0 c rest → Nb 0 c (a ++ rest)
def Fl1 (a : List Int) : Prop := ∀ c rest, Nb 0 (c + 1) rest → Nb 0 (c + 1) (a ++ rest)
theorem Fl.one {a : List Int} (h : Fl a) : Fl1 a := fun c rest hr => h (c + 1) rest hr
theorem Fl.nil : Fl [] := fun _ _ h => h
theorem Fl.app {a b : List Int} (ha : Fl a) (hb : Fl b) : Fl (a ++ b) := fun c rest h => by
  rw [List.append_assoc]; exact ha c _ (hb c _ h)
theorem Fl1.app {a b : List Int} (ha : Fl1 a) (hb : Fl1 b) : Fl1 (a ++ b) := fun c rest h => by
  rw [List.append_assoc]; exact ha c _ (hb c _ h)
theorem Fl1.bar : Fl1 [124] := fun c rest h => by simp [Nb, h]
theorem Fl1.group {a : List Int} (h : Fl1 a) : Fl (40 :: (a ++ [41])) := fun c rest k => by
  rw [List.cons_append, List.append_assoc]
  have : Nb 0 (c + 1) (a ++ ([41] ++ rest)) := h c _ (by simpa [Nb] using k)
  simpa [Nb] using this
theorem Fl1.free {a : List Int} (h : Fl1 a) : Fl (40 :: 63 :: 58 :: (a ++ [41])) := fun c rest k => by
  simp only [List.cons_append, List.append_assoc]
  have : Nb 0 (c + 1) (a ++ ([41] ++ rest)) := h c _ (by simpa [Nb] using k)
  simpa [Nb] using this
theorem Fl.nb {a : List Int} (h : Fl a) : Nb 0 0 a := by
  have := h 0 [] trivial
  rwa [List.append_nil] at this
theorem parts_fl {a : List Int} (h : a ∈ partsA ++ partsB ++ partsC ++ partsD ++ partsE) : Fl a := by
  intro c rest k
  simp [partsA, partsB, partsC, partsD, partsE] at h
  rcases h with rfl | rfl | rfl | rfl | rfl | rfl | rfl | rfl | rfl | rfl | rfl | rfl | rfl | rfl | rfl | rfl | rfl | rfl | rfl | rfl | rfl | rfl | rfl | rfl | rfl | rfl | rfl | rfl | rfl | rfl | rfl | rfl | rfl <;>
    simp [Nb, k]
theorem Tw.app {a b : List Int} (ha : Tw a) (hb : Tw b) : Tw (a ++ b) := by
  cases a with
  | nil => exact hb
  | cons x a => exact fun r u e => ha r a (by injection e with e _; rw [e])
theorem Tw.app1 {a b : List Int} (ha : Tw a) (h0 : a ≠ []) : Tw (a ++ b) := by
  cases a with
  | nil => exact absurd rfl h0
  | cons x a => exact fun r u e => ha r a (by injection e with e _; rw [e])
theorem parts_tw {a : List Int} (h : a ∈ partsA ++ partsB ++ partsC ++ partsD) : Tw a := by
  simp [partsA, partsB, partsC, partsD] at h
  intro r u e
  rcases h with rfl | rfl | rfl | rfl | rfl | rfl | rfl | rfl | rfl | rfl | rfl | rfl | rfl | rfl | rfl | rfl | rfl | rfl | rfl | rfl | rfl | rfl | rfl | rfl <;>
    (simp at e; try (obtain ⟨rfl, _⟩ := e; omega))
theorem parts_ne {a : List Int} (h : a ∈ partsA ++ partsB ++ partsD) : a ≠ [] := by
  intro e; subst e
  simp [partsA, partsB, partsD] at h
/-- a pattern of the tape -/
structure PP (d : Nat) (a : List Int) : Prop where
  nst : Nst (d + 1) a
  fl : Fl a
  tw : Tw a
/-- .. behind which a repeat may stand -/
structure PQ (d : Nat) (a : List Int) : Prop where
  pp : PP d a
  ne : a ≠ []
/-- what stands in parentheses -/
structure PI (d : Nat) (a : List Int) : Prop where
  nst : Nst (d + 1) a
  fl : Fl1 a
theorem nst_of {d : Nat} {x : List Int} (h : x ∈ partsA ++ partsB ++ partsC ++ partsD ++ partsE) : Nst (d + 1) x := Nst.mono (parts_nst h) (Nat.le_add_left 1 d)
theorem PP.nil (d : Nat) : PP d [] := ⟨Nst.nil _, Fl.nil, fun r u e => by cases e⟩
theorem PP.partA {d : Nat} {a b : List Int} (h : PP d a) (hb : b ∈ partsA ∨ b ∈ partsB ∨ b ∈ partsD) : PQ d (a ++ b) := by
  have h1 : b ∈ partsA ++ partsB ++ partsC ++ partsD ++ partsE := by simp only [List.mem_append]; rcases hb with hb | hb | hb <;> simp [hb]
  have h2 : b ∈ partsA ++ partsB ++ partsC ++ partsD := by simp only [List.mem_append]; rcases hb with hb | hb | hb <;> simp [hb]
  have h3 : b ∈ partsA ++ partsB ++ partsD := by simp only [List.mem_append]; rcases hb with hb | hb | hb <;> simp [hb]
  exact ⟨⟨h.nst.app (nst_of h1), h.fl.app (parts_fl h1), h.tw.app (parts_tw h2)⟩, fun e => parts_ne h3 (List.append_eq_nil_iff.1 e).2⟩
theorem PP.partC {d : Nat} {a b : List Int} (h : PP d a) (hb : b ∈ partsC) : PP d (a ++ b) := by
  have h1 : b ∈ partsA ++ partsB ++ partsC ++ partsD ++ partsE := by simp only [List.mem_append]; simp [hb]
  have h2 : b ∈ partsA ++ partsB ++ partsC ++ partsD := by simp only [List.mem_append]; simp [hb]
  exact ⟨h.nst.app (nst_of h1), h.fl.app (parts_fl h1), h.tw.app (parts_tw h2)⟩
theorem PQ.partE {d : Nat} {a b : List Int} (h : PQ d a) (hb : b ∈ partsE) : PP d (a ++ b) := by
  have h1 : b ∈ partsA ++ partsB ++ partsC ++ partsD ++ partsE := by simp only [List.mem_append]; simp [hb]
  exact ⟨h.pp.nst.app (nst_of h1), h.pp.fl.app (parts_fl h1), h.pp.tw.app1 h.ne⟩
theorem PP.inner {d : Nat} {a : List Int} (h : PP d a) : PI d a := ⟨h.nst, h.fl.one⟩
theorem PP.bar {d : Nat} {a b : List Int} (h : PP d a) (k : PP d b) : PI d (a ++ [124] ++ b) := ⟨(h.nst.app (Nst.one (by decide))).app k.nst, (h.fl.one.app Fl1.bar).app k.fl.one⟩
theorem PP.group {d : Nat} {a s x : List Int} (h : PP (d + 1) a) (hs : s ∈ [[40], [40, 63, 58]]) (hx : PI d x) : PQ (d + 1) (a ++ (s ++ (x ++ [41]))) := by
  have h0 : Nst (d + 1 + 1) (s ++ (x ++ [41])) ∧ Fl (s ++ (x ++ [41])) ∧ Tw (s ++ (x ++ [41])) ∧ s ++ (x ++ [41]) ≠ [] := by
    simp only [List.mem_cons, List.not_mem_nil, or_false] at hs
    rcases hs with rfl | rfl
    · exact ⟨hx.nst.group, hx.fl.group, fun r u e => by simp at e; omega, by simp⟩
    · exact ⟨hx.nst.free, hx.fl.free, fun r u e => by simp at e; omega, by simp⟩
  exact ⟨⟨h.nst.app h0.1, h.fl.app h0.2.1, h.tw.app h0.2.2.1⟩, fun e => h0.2.2.2 (List.append_eq_nil_iff.1 e).2⟩
end ReM
end Go.Proofs.Ytdjhnlihalihlaa
