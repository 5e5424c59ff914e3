/- Layer 10 as plain relations: the machine that runs a program (paths that are left, what was reached), a Find; that each has one outcome; where a match lies; what was reached in vain does not matter. Layer 10 in memory: whether an element lies in the ranges of a set (inRanges), is in the set of an instruction (inSet). Layer 10 in memory: the bitmap (words of 64 bits as a list of numbers), a number added to it. Layer 10 in memory: a search (Srch: its cells, its lists), the matcher it works for (Mt); reach, record, undoTo. Layer 10 in memory: reach, record, undoTo of a search. Layer 10 in memory: undoTo of a search. Layer 10: what stands in a search's lists as a state of the machine (Inv, absS); how many places are not reached yet (unv). -/
import Derived.Test.YtefgjicegbhcaaaGreatCpA
import Derived.Test.YtefgjicegbhcaaaGreatPgA
import Derived.Test.YtefgjicegbhcaaaGreatSigns
import Derived.Deep.RegionHeld3
import Derived.Deep.QuietTactic
import Derived.Laws.Bits64b
import Derived.Test.YtefgjicegbhcaaaGreatRxg
import Derived.Deep.RegionLaw
import Derived.Deep.CutBlock
import Derived.Deep.DeepCutAuto
namespace Go.Proofs.YtefgjicegbhcaaaGreat
namespace ReM
/-- what a machine runs on: the program, the text's length, at which instruction the element at which place is in the set -/
structure Mc where
  P : List Ins
  n : Nat
  ok : Nat → Nat → Bool
/-- a path that is left -/
structure Pa where
  i : Nat
  a : Nat
  r : List Int
abbrev Vis := Nat → Nat → Bool
def mark (v : Vis) (i a : Nat) : Vis := fun j b => (decide (j = i) && decide (b = a)) || v j b
theorem mark_self (v : Vis) (i a : Nat) : mark v i a i a = true := by simp [mark]
theorem mark_old {v : Vis} {i a j b : Nat} (h : v j b = true) : mark v i a j b = true := by simp [mark, h]
theorem mark_or {v : Vis} {i a j b : Nat} (h : mark v i a j b = true) : (j = i ∧ b = a) ∨ v j b = true := by
  simpa [mark] using h
theorem mark_ne {v : Vis} {i a j b : Nat} (h : ¬ (j = i ∧ b = a)) : mark v i a j b = v j b := by
  simp only [mark]
  have : (decide (j = i) && decide (b = a)) = false := by
    rw [Bool.and_eq_false_iff]
    by_cases h1 : j = i
    · right; exact decide_eq_false fun h2 => h ⟨h1, h2⟩
    · left; exact decide_eq_false h1
  rw [this, Bool.false_or]
/-- what follows a path -/
def succs (m : Mc) (p : Pa) : List Pa :=
  if (igt m.P p.i).op = 0 then (if m.ok p.i p.a then [⟨p.i + 1, p.a + 1, p.r⟩] else [])
  else if (igt m.P p.i).op = 1 then (if p.a = 0 then [⟨p.i + 1, p.a, p.r⟩] else [])
  else if (igt m.P p.i).op = 2 then (if p.a = m.n then [⟨p.i + 1, p.a, p.r⟩] else [])
  else if (igt m.P p.i).op = 3 then [⟨p.i + 1, p.a, p.r.set (igt m.P p.i).x.toNat (p.a : Int)⟩]
  else if (igt m.P p.i).op = 4 then [⟨(igt m.P p.i).x.toNat, p.a, p.r⟩, ⟨(igt m.P p.i).y.toNat, p.a, p.r⟩]
  else if (igt m.P p.i).op = 5 then [⟨(igt m.P p.i).x.toNat, p.a, p.r⟩]
  else []
inductive Run (m : Mc) : List Pa → Vis → List Pa → Vis → Prop
  | refl (S : List Pa) (v : Vis) : Run m S v S v
  | old {p : Pa} {S S' : List Pa} {v v' : Vis} : v p.i p.a = true → Run m S v S' v' → Run m (p :: S) v S' v'
  | new {p : Pa} {S S' : List Pa} {v v' : Vis} : v p.i p.a = false → (igt m.P p.i).op ≠ 6 → Run m (succs m p ++ S) (mark v p.i p.a) S' v' → Run m (p :: S) v S' v'
theorem Run.trans {m : Mc} {S S1 S2 : List Pa} {v v1 v2 : Vis} (h : Run m S v S1 v1) (k : Run m S1 v1 S2 v2) : Run m S v S2 v2 := by
  induction h with
  | refl => exact k
  | old h _ ih => exact .old h (ih k)
  | new h h2 _ ih => exact .new h h2 (ih k)
theorem Run.pop {m : Mc} {p : Pa} {S : List Pa} {v : Vis} (h : v p.i p.a = true) : Run m (p :: S) v S v := .old h (.refl _ _)
theorem Run.step {m : Mc} {p : Pa} {S : List Pa} {v : Vis} (h : v p.i p.a = false) (h2 : (igt m.P p.i).op ≠ 6) : Run m (p :: S) v (succs m p ++ S) (mark v p.i p.a) := .new h h2 (.refl _ _)
/-- where a run ends -/
def EndsM (m : Mc) (v : Vis) : List Pa → Prop
  | [] => True
  | p :: _ => v p.i p.a = false ∧ (igt m.P p.i).op = 6
theorem Run.one {m : Mc} {S S1 : List Pa} {v v1 : Vis} (h : Run m S v S1 v1) (e1 : EndsM m v1 S1) : ∀ {S2 v2}, Run m S v S2 v2 → EndsM m v2 S2 → S1 = S2 ∧ v1 = v2 := by
  induction h with
  | refl S v =>
    intro S2 v2 k e2
    cases k with
    | refl => exact ⟨rfl, rfl⟩
    | old h2 _ => rw [e1.1] at h2; cases h2
    | new h2 h3 _ => exact absurd e1.2 h3
  | old h _ ih =>
    intro S2 v2 k e2
    cases k with
    | refl => rw [e2.1] at h; cases h
    | old _ k => exact ih e1 k e2
    | new h2 _ _ => rw [h] at h2; cases h2
  | new h h2 _ ih =>
    intro S2 v2 k e2
    cases k with
    | refl => exact absurd e2.2 h2
    | old h3 _ => rw [h] at h3; cases h3
    | new _ _ k => exact ih e1 k e2
/-- a try that reaches no end; one that does -/
def Fails (m : Mc) (z : List Int) (at_ : Nat) (v v' : Vis) : Prop := Run m [⟨0, at_, z⟩] v [] v'
def Hits (m : Mc) (z : List Int) (at_ : Nat) (v : Vis) (r : List Int) : Prop := ∃ p S v', Run m [⟨0, at_, z⟩] v (p :: S) v' ∧ v' p.i p.a = false ∧ (igt m.P p.i).op = 6 ∧ p.r = r
theorem Fails.one {m : Mc} {z : List Int} {at_ : Nat} {v v1 v2 : Vis} (h : Fails m z at_ v v1) (k : Fails m z at_ v v2) : v1 = v2 := (Run.one h trivial k trivial).2
theorem Hits.one {m : Mc} {z : List Int} {at_ : Nat} {v : Vis} {r1 r2 : List Int} (h : Hits m z at_ v r1) (k : Hits m z at_ v r2) : r1 = r2 := by
  obtain ⟨p, S, v', h1, h2, h3, rfl⟩ := h
  obtain ⟨q, T, w', k1, k2, k3, rfl⟩ := k
  obtain ⟨e, _⟩ := Run.one h1 ⟨h2, h3⟩ k1 ⟨k2, k3⟩
  cases e; rfl
theorem Hits.not {m : Mc} {z : List Int} {at_ : Nat} {v v' : Vis} {r : List Int} (h : Hits m z at_ v r) (k : Fails m z at_ v v') : False := by
  obtain ⟨p, S, v', h1, h2, h3, rfl⟩ := h
  obtain ⟨e, _⟩ := Run.one h1 ⟨h2, h3⟩ k trivial
  cases e
/-- the tries from a place on -/
inductive Finds (m : Mc) (z : List Int) : Nat → Vis → Option (List Int) → Prop
  | out {at_ : Nat} {v : Vis} : m.n < at_ → Finds m z at_ v none
  | hit {at_ : Nat} {v : Vis} {r : List Int} : at_ ≤ m.n → Hits m z at_ v r → Finds m z at_ v (some r)
  | miss {at_ : Nat} {v v' : Vis} {o : Option (List Int)} : at_ ≤ m.n → Fails m z at_ v v' → Finds m z (at_ + 1) v' o → Finds m z at_ v o
theorem Finds.one {m : Mc} {z : List Int} {at_ : Nat} {v : Vis} {o1 o2 : Option (List Int)} (h : Finds m z at_ v o1) : Finds m z at_ v o2 → o1 = o2 := by
  induction h with
  | out h =>
    intro k
    cases k with
    | out => rfl
    | hit h2 _ => omega
    | miss h2 _ _ => omega
  | hit h h2 =>
    intro k
    cases k with
    | out => omega
    | hit _ k => rw [h2.one k]
    | miss _ k _ => exact (h2.not k).elim
  | miss h h2 _ ih =>
    intro k
    cases k with
    | out => omega
    | hit _ k => exact (k.not h2).elim
    | miss _ k k2 => rw [← h2.one k] at k2; exact ih k2
def none_ : Vis := fun _ _ => false
/-- what Find gives -/
def FindR (m : Mc) (z : List Int) (from_ : Nat) (o : Option (List Int)) : Prop := Finds m z from_ none_ o
theorem FindR.one {m : Mc} {z : List Int} {from_ : Nat} {o1 o2 : Option (List Int)} (h : FindR m z from_ o1) (k : FindR m z from_ o2) : o1 = o2 := Finds.one h k

/-! ## what was reached in vain -/
/-- a set of places that no way leaves, and that holds no end -/
def Shut (m : Mc) (C : Vis) : Prop := ∀ i a, C i a = true → (igt m.P i).op ≠ 6 ∧ ∀ r q, q ∈ succs m ⟨i, a, r⟩ → C q.i q.a = true
theorem shut_none (m : Mc) : Shut m none_ := fun i a h => by simp [none_] at h
def orV (C D : Vis) : Vis := fun i a => C i a || D i a
theorem Shut.or {m : Mc} {C D : Vis} (h : Shut m C) (k : Shut m D) : Shut m (orV C D) := by
  intro i a hc
  simp only [orV, Bool.or_eq_true] at hc ⊢
  rcases hc with hc | hc
  · exact ⟨(h i a hc).1, fun r q hq => .inl ((h i a hc).2 r q hq)⟩
  · exact ⟨(k i a hc).1, fun r q hq => .inr ((k i a hc).2 r q hq)⟩
/-- the ways of a path do not hang on what is recorded -/
theorem succs_rec (m : Mc) (i a : Nat) (r r' : List Int) : (succs m ⟨i, a, r⟩).map (fun q => (q.i, q.a)) = (succs m ⟨i, a, r'⟩).map (fun q => (q.i, q.a)) := by
  unfold succs
  (repeat' split) <;> rfl
theorem succs_mem {m : Mc} {i a : Nat} {r r' : List Int} {q : Pa} (h : q ∈ succs m ⟨i, a, r⟩) : ∃ q', q' ∈ succs m ⟨i, a, r'⟩ ∧ q'.i = q.i ∧ q'.a = q.a := by
  have := List.mem_map_of_mem (f := fun q : Pa => (q.i, q.a)) h
  rw [succs_rec m i a r r'] at this
  obtain ⟨q', h1, h2⟩ := List.mem_map.1 this
  simp only [Prod.mk.injEq] at h2
  exact ⟨q', h1, h2.1, h2.2⟩
/-- what a run that goes on leaves: each place reached has its ways reached, or left -/
def Half (m : Mc) (S : List Pa) (v : Vis) : Prop := ∀ i a, v i a = true → (igt m.P i).op ≠ 6 ∧ ∀ r q, q ∈ succs m ⟨i, a, r⟩ → v q.i q.a = true ∨ ∃ p, p ∈ S ∧ p.i = q.i ∧ p.a = q.a
theorem Run.half {m : Mc} {S S' : List Pa} {v v' : Vis} (h : Run m S v S' v') : Half m S v → Half m S' v' := by
  induction h with
  | refl => exact fun h => h
  | @old p S S' v v' h _ ih =>
    intro k
    refine ih fun i a hv => ⟨(k i a hv).1, fun r q hq => ?_⟩
    rcases (k i a hv).2 r q hq with h1 | ⟨p', hp, h1, h2⟩
    · exact .inl h1
    · rcases List.mem_cons.1 hp with rfl | hp
      · left; rw [← h1, ← h2]; exact h
      · exact .inr ⟨p', hp, h1, h2⟩
  | @new p S S' v v' h h2 _ ih =>
    intro k
    refine ih fun i a hv => ?_
    rcases mark_or hv with ⟨rfl, rfl⟩ | hv
    · refine ⟨h2, fun r q hq => .inr ?_⟩
      obtain ⟨q', hq', e1, e2⟩ := succs_mem (r' := p.r) hq
      exact ⟨q', List.mem_append.2 (.inl hq'), e1, e2⟩
    · refine ⟨(k i a hv).1, fun r q hq => ?_⟩
      rcases (k i a hv).2 r q hq with h1 | ⟨p', hp, h1, h3⟩
      · exact .inl (mark_old h1)
      · rcases List.mem_cons.1 hp with rfl | hp
        · left; rw [← h1, ← h3]; exact mark_self _ _ _
        · exact .inr ⟨p', List.mem_append.2 (.inr hp), h1, h3⟩
theorem Fails.shut {m : Mc} {z : List Int} {at_ : Nat} {v v' : Vis} (h : Fails m z at_ v v') (k : Shut m v) : Shut m v' := by
  have := Run.half h fun i a hv => ⟨(k i a hv).1, fun r q hq => .inl ((k i a hv).2 r q hq)⟩
  intro i a hv
  refine ⟨(this i a hv).1, fun r q hq => ?_⟩
  rcases (this i a hv).2 r q hq with h1 | ⟨p', hp, _⟩
  · exact h1
  · cases hp
/-- the machine that leaves out a shut set -/
def outC (C : Vis) (S : List Pa) : List Pa := S.filter fun p => !C p.i p.a
theorem outC_cons_in {C : Vis} {p : Pa} {S : List Pa} (h : C p.i p.a = true) : outC C (p :: S) = outC C S := by simp [outC, h]
theorem outC_cons_out {C : Vis} {p : Pa} {S : List Pa} (h : C p.i p.a = false) : outC C (p :: S) = p :: outC C S := by simp [outC, h]
theorem outC_app (C : Vis) (S T : List Pa) : outC C (S ++ T) = outC C S ++ outC C T := by simp [outC]
theorem outC_all {C : Vis} {S : List Pa} (h : ∀ p, p ∈ S → C p.i p.a = true) : outC C S = [] := by
  unfold outC
  rw [List.filter_eq_nil_iff]
  intro p hp
  simp [h p hp]
inductive RunC (m : Mc) (C : Vis) : List Pa → Vis → List Pa → Vis → Prop
  | refl (S : List Pa) (v : Vis) : RunC m C S v S v
  | old {p : Pa} {S S' : List Pa} {v v' : Vis} : C p.i p.a = false → v p.i p.a = true → RunC m C S v S' v' → RunC m C (p :: S) v S' v'
  | new {p : Pa} {S S' : List Pa} {v v' : Vis} : C p.i p.a = false → v p.i p.a = false → (igt m.P p.i).op ≠ 6 → RunC m C (outC C (succs m p) ++ S) (mark v p.i p.a) S' v' → RunC m C (p :: S) v S' v'
/-- two sets alike outside of C -/
def AlikeV (C v w : Vis) : Prop := ∀ i a, C i a = false → v i a = w i a
theorem AlikeV.mark {C v w : Vis} (h : AlikeV C v w) (i a : Nat) : AlikeV C (mark v i a) (mark w i a) := fun j b hc => by simp [ReM.mark, h j b hc]
theorem AlikeV.mark_in {C v w : Vis} (h : AlikeV C v w) {i a : Nat} (hC : C i a = true) : AlikeV C (ReM.mark v i a) w := fun j b hc => by
  rw [mark_ne fun ⟨e1, e2⟩ => by subst e1; subst e2; rw [hC] at hc; cases hc]
  exact h j b hc
theorem Run.runC {m : Mc} {C : Vis} (hC : Shut m C) {S S' : List Pa} {v v' : Vis} (h : Run m S v S' v') : ∀ {w : Vis}, AlikeV C v w → ∃ w', RunC m C (outC C S) w (outC C S') w' ∧ AlikeV C v' w' := by
  induction h with
  | refl => intro w hw; exact ⟨w, .refl _ _, hw⟩
  | @old p S S' v v' h _ ih =>
    intro w hw
    by_cases hc : C p.i p.a = true
    · rw [outC_cons_in hc]; exact ih hw
    · have hc : C p.i p.a = false := by simpa using hc
      obtain ⟨w', h1, h2⟩ := ih hw
      refine ⟨w', ?_, h2⟩
      rw [outC_cons_out hc]
      exact .old hc (by rw [← hw _ _ hc]; exact h) h1
  | @new p S S' v v' h h2 _ ih =>
    intro w hw
    by_cases hc : C p.i p.a = true
    · obtain ⟨w', h3, h4⟩ := ih (hw.mark_in hc)
      refine ⟨w', ?_, h4⟩
      rw [outC_cons_in hc]
      rw [outC_app, outC_all fun q hq => (hC p.i p.a hc).2 p.r q hq, List.nil_append] at h3
      exact h3
    · have hc : C p.i p.a = false := by simpa using hc
      obtain ⟨w', h3, h4⟩ := ih (hw.mark p.i p.a)
      refine ⟨w', ?_, h4⟩
      rw [outC_cons_out hc]
      rw [outC_app] at h3
      exact .new hc (by rw [← hw _ _ hc]; exact h) h2 h3
theorem RunC.one {m : Mc} {C : Vis} {S S1 : List Pa} {v v1 : Vis} (h : RunC m C S v S1 v1) (e1 : EndsM m v1 S1) : ∀ {S2 v2}, RunC m C S v S2 v2 → EndsM m v2 S2 → S1 = S2 ∧ v1 = v2 := by
  induction h with
  | refl S v =>
    intro S2 v2 k e2
    cases k with
    | refl => exact ⟨rfl, rfl⟩
    | old _ h2 _ => rw [e1.1] at h2; cases h2
    | new _ h2 h3 _ => exact absurd e1.2 h3
  | old _ h _ ih =>
    intro S2 v2 k e2
    cases k with
    | refl => rw [e2.1] at h; cases h
    | old _ _ k => exact ih e1 k e2
    | new _ h2 _ _ => rw [h] at h2; cases h2
  | new _ h h2 _ ih =>
    intro S2 v2 k e2
    cases k with
    | refl => exact absurd e2.2 h2
    | old _ h3 _ => rw [h] at h3; cases h3
    | new _ _ _ k => exact ih e1 k e2
theorem alike_two {v w : Vis} : AlikeV (orV v w) v w := fun i a h => by
  simp only [orV, Bool.or_eq_false_iff] at h
  rw [h.1, h.2]
/-- a hit does not hang on what was reached in vain -/
theorem Hits.free {m : Mc} {z : List Int} {at_ : Nat} {v w w' : Vis} {r : List Int} (hv : Shut m v) (hw : Shut m w) (h : Hits m z at_ v r) : ¬ Fails m z at_ w w' ∧ ∀ r', Hits m z at_ w r' → r' = r := by
  have hC := hv.or hw
  obtain ⟨p, S, v', h1, h2, h3, rfl⟩ := h
  have hp : orV v w p.i p.a = false := by
    cases hc : orV v w p.i p.a with
    | false => rfl
    | true => exact absurd h3 (hC _ _ hc).1
  obtain ⟨u, r1, a1⟩ := Run.runC hC h1 (w := w) alike_two
  rw [outC_cons_out hp] at r1
  have e1 : EndsM m u (p :: outC (orV v w) S) := ⟨by rw [← a1 _ _ hp]; exact h2, h3⟩
  refine ⟨fun k => ?_, fun r' k => ?_⟩
  · obtain ⟨u2, r2, -⟩ := Run.runC hC k (w := w) (fun _ _ _ => rfl)
    obtain ⟨e, _⟩ := RunC.one r1 e1 r2 trivial
    cases e
  · obtain ⟨q, T, v2, k1, k2, k3, rfl⟩ := k
    have hq : orV v w q.i q.a = false := by
      cases hc : orV v w q.i q.a with
      | false => rfl
      | true => exact absurd k3 (hC _ _ hc).1
    obtain ⟨u2, r2, a2⟩ := Run.runC hC k1 (w := w) (fun _ _ _ => rfl)
    rw [outC_cons_out hq] at r2
    obtain ⟨e, _⟩ := RunC.one r1 e1 r2 ⟨by rw [← a2 _ _ hq]; exact k2, k3⟩
    rw [(List.cons.inj e).1]
/-- where the tries of a Find hit -/
theorem Finds.hits {m : Mc} {z : List Int} {at_ : Nat} {v : Vis} {o : Option (List Int)} (h : Finds m z at_ v o) : Shut m v → ∀ r, o = some r → ∃ b u, at_ ≤ b ∧ b ≤ m.n ∧ Shut m u ∧ Hits m z b u r ∧ ∀ k, at_ ≤ k → k < b → ∃ x y, Shut m x ∧ Fails m z k x y := by
  induction h with
  | out => intro _ r h; cases h
  | @hit at_ v r h h2 =>
    intro hv r' e
    cases e
    exact ⟨at_, v, Nat.le_refl _, h, hv, h2, fun k h1 h2 => by omega⟩
  | @miss at_ v v' o h h2 _ ih =>
    intro hv r e
    obtain ⟨b, u, h3, h4, h5, h6, h7⟩ := ih (h2.shut hv) r e
    refine ⟨b, u, by omega, h4, h5, h6, fun k k1 k2 => ?_⟩
    rcases Nat.eq_or_lt_of_le k1 with rfl | k1
    · exact ⟨v, v', hv, h2⟩
    · exact h7 k k1 k2
/-- from each place between, the same -/
theorem Finds.from {m : Mc} {z : List Int} {at_ : Nat} {v : Vis} {o : Option (List Int)} (h : Finds m z at_ v o) : Shut m v → ∀ {b u r}, at_ ≤ b → b ≤ m.n → Shut m u → Hits m z b u r → (∀ k, at_ ≤ k → k < b → ∃ x y, Shut m x ∧ Fails m z k x y) → o = some r := by
  induction h with
  | out h => intro _ b u r h1 h2; omega
  | @hit at_ v r h h2 =>
    intro hv b u r' h3 h4 h5 h6 h7
    rcases Nat.eq_or_lt_of_le h3 with rfl | h3
    · rw [(h6.free h5 hv (w' := v)).2 _ h2]
    · obtain ⟨x, y, h8, h9⟩ := h7 at_ (Nat.le_refl _) h3
      exact absurd h9 (h2.free hv h8).1
  | @miss at_ v v' o h h2 _ ih =>
    intro hv b u r h3 h4 h5 h6 h7
    rcases Nat.eq_or_lt_of_le h3 with rfl | h3
    · exact absurd h2 (h6.free h5 hv).1
    · exact ih (h2.shut hv) h3 h4 h5 h6 fun k k1 k2 => h7 k (by omega) k2
theorem FindR.again {m : Mc} {z : List Int} {from_ k : Nat} {r : List Int} {o : Option (List Int)} (h : FindR m z from_ (some r)) {b : Nat} (hb : ∃ u, Shut m u ∧ Hits m z b u r) (h1 : from_ ≤ k) (h2 : k ≤ b) (hbf : ∀ b' u, from_ ≤ b' → Hits m z b' u r → b' = b) (g : FindR m z k o) : o = some r := by
  obtain ⟨b', u, h3, h4, h5, h6, h7⟩ := Finds.hits h (shut_none m) r rfl
  obtain rfl := hbf b' u h3 h6
  exact Finds.from g (shut_none m) h2 h4 h5 h6 fun j j1 j2 => h7 j (by omega) j2
end ReM
end Go.Proofs.YtefgjicegbhcaaaGreat
namespace Go.Proofs.YtefgjicegbhcaaaGreat
open Go.RowKit ReM

namespace ReM
def inR : List Int → Int → Bool
  | lo :: hi :: t, r => (decide (lo ≤ r) && decide (r ≤ hi)) || inR t r
  | _, _ => false
theorem inR_at {s : List Int} {i : Nat} (r : Int) (h : i + 1 < s.length) : inR (s.drop i) r = ((decide (gt s i ≤ r) && decide (r ≤ gt s (i + 1))) || inR (s.drop (i + 2)) r) := by
  rw [List.drop_eq_getElem_cons (by omega : i < s.length), List.drop_eq_getElem_cons h, gt_get (by omega), gt_get h]
  rfl
theorem inR_end {s : List Int} {i : Nat} (r : Int) (h : s.length ≤ i) : inR (s.drop i) r = false := by
  rw [List.drop_eq_nil_of_le h]; rfl
/-- an element in an instruction's set -/
def inW (fold : Bool) (q : Ins) (r : Int) : Bool := (inR q.set r || (fold && (inR q.set (up r) || inR q.set (lo r)))) != q.not
end ReM
set_option maxHeartbeats 4000000 in
theorem inr_c (a : Option Addr) (c : Nat) (s : List Int) (r : Int) (w : World) (h : Sl w a s) (he : s.length % 2 = 0) :
    Calls Tryz.prog 130 #[.slice a s.length c, .int .i32 r] w fun e' w' => e' = .returned (.bool (inR s r)) ∧ w = w' := by
  have hlen := h.len
  have HS := hid h
  have HE := hid he
  clear h he
  go_enter Tryz.func130, Tryz.ntmps130
  go_wp2_with fail
  go_loop [5] (fun iv => ∃ i : Nat, iv = .int .i64 i ∧ i ≤ s.length ∧ Hid (i % 2 = 0) ∧ Hid (inR (s.drop i) r = inR s r)) (fun iv => s.length - (intOf iv).toNat)
  case atStart => exact ⟨0, rfl, Nat.zero_le _, hid rfl, hid rfl⟩
  case round =>
    obtain ⟨i, rfl, hi, He, Hr⟩ := hrel
    by_cases hlt : i < s.length
    · have h1 : i + 1 < s.length := by have := He.out; have := HE.out; omega
      obtain ⟨b, o, rfl, hc⟩ := HS.out.at hlt
      have c0 := hc i hlt
      have c1 := hc (i + 1) h1
      have Hat := hid (inR_at r h1)
      have z1 : ((i : Int) < (s.length : Int)) := by omega
      have z2 : ((i : Int) + 1 < (s.length : Int)) := by omega
      have z3 : (0 : Int) ≤ (i : Int) := by omega
      clear hc
      obtain ⟨x, hx⟩ : ∃ x, x = gt s i := ⟨_, rfl⟩
      obtain ⟨y, hy⟩ : ∃ y, y = gt s (i + 1) := ⟨_, rfl⟩
      rw [← hx] at c0 Hat
      rw [← hy] at c1 Hat
      have bz : decide ((i : Int) < (s.length : Int)) = true := decide_eq_true z1
      clear hx hy
      by_cases hx : x ≤ r
      · have b1 : decide (x ≤ r) = true := decide_eq_true hx
        by_cases hy : r ≤ y
        · have b2 : decide (r ≤ y) = true := decide_eq_true hy
          go_wp2_with fail
          go_ret
          refine ⟨ret_bool ?_, rfl⟩
          rw [← Hr.out, Hat.out, b1, b2]; rfl
        · have b2 : decide (r ≤ y) = false := decide_eq_false hy
          go_wp2_with fail
          go_round
          case rel => exact ⟨i + 2, by go_num, by omega, hid (by have := He.out; omega), hid (by rw [← Hr.out, Hat.out, b2]; simp)⟩
          case measure => simp [intOf]; omega
      · have b1 : decide (x ≤ r) = false := decide_eq_false hx
        go_wp2_with fail
        go_round
        case rel => exact ⟨i + 2, by go_num, by omega, hid (by have := He.out; omega), hid (by rw [← Hr.out, Hat.out, b1]; simp)⟩
        case measure => simp [intOf]; omega
    · have bz : decide ((i : Int) < (s.length : Int)) = false := decide_eq_false (by omega)
      have hE := hid (inR_end (s := s) r (Nat.le_of_not_lt hlt))
      go_wp2_with fail
      go_ret
      exact ⟨ret_bool (by rw [← Hr.out, hE.out]), rfl⟩
theorem inr_v (a : Option Addr) (c : Nat) (s : List Int) (r : Int) (w : World) (h : Sl w a s) (he : s.length % 2 = 0) {b : Bool} (hb : inR s r = b) :
    Calls Tryz.prog 130 #[.slice a s.length c, .int .i32 r] w fun e' w' => e' = .returned (.bool b) ∧ w' = w := by
  subst hb
  exact (inr_c a c s r w h he).mono fun _ _ h => ⟨h.1, h.2.symm⟩
set_option maxHeartbeats 8000000 in
theorem inset_c (r M : Nat) (q : Ins) (sa : Option Addr) (sc : Nat) (e : Int) (w : World) (fold : Bool) (h0 : w.cell? ⟨r, 0, none⟩ = some (.pointer (some ⟨M, 0, none⟩))) (h1 : w.cell? ⟨M, 2, none⟩ = some (.bool fold))
    (h : Sl w sa q.set) (he : q.set.length % 2 = 0) (hr : -2147483648 ≤ e ∧ e ≤ 2147483647) :
    Calls Tryz.prog 103 #[.pointer (some ⟨r, 0, none⟩), .agg #[.int .i64 q.op, .int .i64 q.x, .int .i64 q.y, .bool q.not, .slice sa q.set.length sc], .int .i32 e] w fun e' w' => e' = .returned (.bool (inW fold q e)) ∧ Below w.heap.size w w' := by
  obtain ⟨op, x, y, nt, set⟩ := q
  change Sl w sa set at h
  change set.length % 2 = 0 at he
  show Calls Tryz.prog 103 #[.pointer (some ⟨r, 0, none⟩), .agg #[.int .i64 op, .int .i64 x, .int .i64 y, .bool nt, .slice sa set.length sc], .int .i32 e] w _
  obtain ⟨V, hV⟩ : ∃ V, V = w.alloc (.cells #[.int .i64 op, .int .i64 x, .int .i64 y, .bool nt, .slice sa set.length sc] 121) := ⟨_, rfl⟩
  have bV : Below w.heap.size w V := by subst hV; (repeat' (first | exact Below.refl _ _ | assumption | refine bdrewN ?_ _ | refine Below.drew ?_ | refine bal ?_ _ | refine bthen ?_ (by assumption)))
  have hc : ∀ j, V.cell? ⟨w.heap.size, j, none⟩ = #[Value.int .i64 op, .int .i64 x, .int .i64 y, .bool nt, .slice sa set.length sc][j]? := fun j => by subst hV; rw [cell_alloc_new]
  have d3 := hc 3
  have d4 := hc 4
  simp at d3 d4
  have H := hid (h.bel bV)
  have HE := hid he
  have k0 : V.cell? ⟨r, 0, none⟩ = some (.pointer (some ⟨M, 0, none⟩)) := (bV.cell (World.block_lt_of_cell? w _ h0)).trans h0
  have k1 : V.cell? ⟨M, 2, none⟩ = some (.bool fold) := (bV.cell (World.block_lt_of_cell? w _ h1)).trans h1
  have HV := hid bV
  have HR := hid hr
  obtain ⟨b, hb⟩ : ∃ b, inR set e = b := ⟨_, rfl⟩
  have Hb := hid hb
  clear h he h0 h1 bV hb hc
  go_enter Tryz.func103, Tryz.ntmps103
  go_wp2_with fail
  rw [← hV]; clear hV
  refine (inr_v sa sc set e V H.out HE.out Hb.out).mono ?_
  rintro _ _ ⟨rfl, rfl⟩
  have done : inW fold ⟨op, x, y, nt, set⟩ e = ((b || (fold && (inR set (up e) || inR set (lo e)))) != nt) := by rw [← Hb.out]; rfl
  have HD := hid done
  clear done
  cases fold with
  | false =>
    go_wp2_with fail
    go_ret
    exact ⟨ret_bool (by rw [HD.out]; cases nt <;> (first | rfl | (cases b <;> rfl))), HV.out⟩
  | true =>
    cases b with
    | true =>
      go_wp2_with fail
      go_ret
      exact ⟨ret_bool (by rw [HD.out]; cases nt <;> (first | rfl | (cases b <;> rfl))), HV.out⟩
    | false =>
      obtain ⟨b1, hb1⟩ : ∃ b, inR set (up e) = b := ⟨_, rfl⟩
      obtain ⟨b2, hb2⟩ : ∃ b, inR set (lo e) = b := ⟨_, rfl⟩
      have D2 := HD.out
      rw [hb1, hb2] at D2
      have HD2 := hid D2
      have Hb1 := hid hb1
      have Hb2 := hid hb2
      clear hb1 hb2 D2 HD
      cases b1 with
      | true =>
        go_upto_region 3 with fail
        go_quiet (first | (go_at_call 117; exact Calls.quiet_of_same ((upper_c _ _ HR.out).mono fun e w' h => ⟨h.1, h.2.symm⟩)) | (go_at_call 130; (with_reducible refine Calls.quiet_of_same (inr_v sa sc set (up e) _ ?_ HE.out Hb1.out)); exact H.out.drewN _))
        go_wp2_with fail
        go_ret
        exact ⟨ret_bool (by rw [HD2.out]; cases nt <;> (first | rfl | (cases b2 <;> rfl))), bdrewN HV.out _⟩
      | false =>
        go_upto_region 3 with fail
        go_quiet (first | (go_at_call 117; exact Calls.quiet_of_same ((upper_c _ _ HR.out).mono fun e w' h => ⟨h.1, h.2.symm⟩)) | (go_at_call 118; exact Calls.quiet_of_same ((lower_c _ _ HR.out).mono fun e w' h => ⟨h.1, h.2.symm⟩)) | (go_at_call 130; (with_reducible refine Calls.quiet_of_same (inr_v sa sc set (up e) _ ?_ HE.out Hb1.out)); exact H.out.drewN _) | (go_at_call 130; (with_reducible refine Calls.quiet_of_same (inr_v sa sc set (lo e) _ ?_ HE.out Hb2.out)); exact H.out.drewN _))
        go_wp2_with fail
        go_ret
        exact ⟨ret_bool (by rw [HD2.out]; cases nt <;> (first | rfl | (cases b2 <;> rfl))), bdrewN HV.out _⟩
end Go.Proofs.YtefgjicegbhcaaaGreat
namespace Go.Proofs.YtefgjicegbhcaaaGreat
open Go.RowKit ReM

def encWd : Enc Nat where
  k := 1
  v := fun x => [.int .u64 (x : Int)]
  cap := 2199023255552
  pos := by decide
  len := fun _ => rfl
  one := fun x u h => by simp at h; subst h; rfl
theorem Tryz.infoWd : (Tryz.prog.info? 171).map (fun i => (i.zero, i.size, i.bytes)) = some (some (.int .u64 0), 1, 8) := by kernel_rfl
theorem Tryz.elemWd : Tryz.prog.underlying 94 = some (.slice (Tryz.prog.elem 94)) := by kernel_rfl
theorem Tryz.sizeWd (w : World) : (sizeOf (Tryz.prog.elem 94)).run Tryz.prog w = .ok 1 w := by kernel_rfl
theorem Tryz.tyWd : Ty Tryz.prog encWd 94 171 where
  und := by kernel_rfl
  info := ⟨_, _, Tryz.infoWd, rfl, by decide⟩
  elem := Tryz.elemWd
  size := Tryz.sizeWd
  max := by decide
abbrev WO (w : World) (base : Nat) (a : Option Addr) (c : Nat) (V : List Nat) : Prop := ROwn encWd 171 w base a c V
namespace ReM
/-- all words are words -/
def Wds (V : List Nat) : Prop := ∀ x, x ∈ V → x < 18446744073709551616
def bit (V : List Nat) (n : Nat) : Bool := (rgt V (n / 64)).testBit (n % 64)
def setb (V : List Nat) (n : Nat) : List Nat := V.set (n / 64) (rgt V (n / 64) ||| 2 ^ (n % 64))
theorem pow_lt {n : Nat} (h : n < 64) : 2 ^ n < 18446744073709551616 := by
  have := Nat.pow_lt_pow_right (a := 2) (by decide) h
  simpa using this
theorem setb_len (V : List Nat) (n : Nat) : (setb V n).length = V.length := by simp [setb]
theorem setb_wds {V : List Nat} (h : Wds V) {n : Nat} (hn : n / 64 < V.length) : Wds (setb V n) := by
  intro x hx
  rcases List.mem_or_eq_of_mem_set hx with hx | rfl
  · exact h x hx
  · have := h _ (rgt_mem hn)
    exact Nat.or_lt_two_pow (n := 64) this (pow_lt (Nat.mod_lt _ (by decide)))
theorem and_pow (x k : Nat) : (x &&& 2 ^ k = 0) ↔ x.testBit k = false := by
  constructor
  · intro h
    have := congrArg (fun y => y.testBit k) h
    simpa [Nat.testBit_and, Nat.testBit_two_pow] using this
  · intro h
    refine Nat.eq_of_testBit_eq fun i => ?_
    rw [Nat.testBit_and, Nat.testBit_two_pow, Nat.zero_testBit]
    by_cases hi : k = i
    · subst hi; rw [h]; rfl
    · rw [decide_eq_false hi, Bool.and_false]
theorem bit_setb {V : List Nat} {n : Nat} (hn : n / 64 < V.length) (k : Nat) : bit (setb V n) k = (decide (k = n) || bit V k) := by
  unfold bit setb
  by_cases hk : k / 64 = n / 64
  · rw [hk]
    have : rgt (V.set (n / 64) (rgt V (n / 64) ||| 2 ^ (n % 64))) (n / 64) = (rgt V (n / 64) ||| 2 ^ (n % 64)) := by
      unfold rgt; rw [List.getD_eq_getElem?_getD, List.getElem?_set_self hn]; rfl
    rw [this, Nat.testBit_or, Nat.testBit_two_pow, Bool.or_comm]
    congr 1
    rw [Bool.eq_iff_iff]
    simp only [decide_eq_true_eq]
    omega
  · have : rgt (V.set (n / 64) (rgt V (n / 64) ||| 2 ^ (n % 64))) (k / 64) = rgt V (k / 64) := by
      unfold rgt; rw [List.getD_eq_getElem?_getD, List.getElem?_set_ne (by omega), ← List.getD_eq_getElem?_getD]
    rw [this, decide_eq_false (by rintro rfl; exact hk rfl), Bool.false_or]
end ReM
theorem wdr {w : World} {b o : Nat} {x : Nat} (h : Rec1 encWd w b o x) : w.cell? ⟨b, o, none⟩ = some (.int .u64 (x : Int)) := h 0 _ rfl
set_option maxHeartbeats 8000000 in
theorem badd_c (v vc : Nat) (V : List Nat) (n : Nat) (base : Nat) (w : World) (h : WO w base (some ⟨v, 0, none⟩) vc V) (hV : Wds V) (hn : n / 64 < V.length) :
    Calls Tryz.prog 129 #[.slice (some ⟨v, 0, none⟩) V.length vc, .int .i64 n] w fun e' w' => e' = .returned (.bool (!bit V n)) ∧ WO w' base (some ⟨v, 0, none⟩) vc (setb V n) ∧ Kpt (Blk (some ⟨v, 0, none⟩)) w w' := by
  have hVl : V.length ≤ 2199023255552 := h.2
  have hc : w.cell? ⟨v, n / 64, none⟩ = some (.int .u64 ((rgt V (n / 64) : Nat) : Int)) := by
    obtain ⟨b, o, he, hat⟩ := h.sl.at hn
    have h2 := h.sl.cells
    cases he
    have := wdr (hat (n / 64) hn)
    simpa [encWd] using this
  have hf : ∀ i, w.frozen? ⟨v, i, none⟩ = false := fun i => h.1.frozenAt i
  have fz := hf (n / 64)
  obtain ⟨x, hx⟩ : ∃ x, x = rgt V (n / 64) := ⟨_, rfl⟩
  obtain ⟨m, hm⟩ : ∃ m, m = 2 ^ (n % 64) := ⟨_, rfl⟩
  obtain ⟨q, hq⟩ : ∃ q, q = n / 64 := ⟨_, rfl⟩
  obtain ⟨k, hk⟩ : ∃ k, k = n % 64 := ⟨_, rfl⟩
  have hx64 : x < 18446744073709551616 := by rw [hx]; exact hV _ (rgt_mem hn)
  have hm64 : m < 18446744073709551616 := by rw [hm]; exact pow_lt (Nat.mod_lt _ (by decide))
  have ha := bits_and_u64_nat x m hx64 hm64
  have ho := bits_or_u64_nat x m hx64 hm64
  have hk64 : k < 64 := by omega
  have hqn : q ≤ n := by omega
  have e1 : ((n : Int) / 64) = (q : Int) := by omega
  have e2 : ((n : Int) % 64) = (k : Int) := by omega
  have e3 : IntKind.u64.wrap (2 ^ k) = (m : Int) := by
    rw [IntKind.wrap_u64, show ((2 : Int) ^ k) = ((2 ^ k : Nat) : Int) from by simp, hk, ← hm]
    omega
  rw [← hx, ← hq] at hc
  rw [← hq] at fz hn
  have HX := hid hx
  have HM := hid hm
  have HQ := hid hq
  have HK := hid hk
  have H := hid h
  have z1 : (q : Int) < (V.length : Int) := by omega
  clear hx hm hq hk h hV hf hx64 hm64
  go_enter Tryz.func129, Tryz.ntmps129
  go_upto_region 1 with fail
  go_quiet (fail)
  go_wp2_with fail
  go_ret
  show Ending.returned (Value.bool (((x &&& m : Nat) : Int) == 0)) = _ ∧ _
  have hw0 : WO (w.drewN nq) base (some ⟨v, 0, none⟩) vc V := H.out
  have hs := hw0.stored q 0 (x ||| m) (.int .u64 ((x ||| m : Nat) : Int)) (by omega) (by decide) rfl
  have ev : setb V n = V.set q (x ||| m) := by rw [HX.out, HM.out, HQ.out]; rfl
  refine ⟨ret_bool ?_, ?_, Kpt.setCell (Kpt.of (bdrewN (Below.refl _ _) _)) (p := ⟨v, q, none⟩) ⟨_, rfl, rfl⟩ _⟩
  · have h1 := and_pow x k
    rw [HK.out, ← HM.out, HX.out] at h1
    rw [Bool.eq_iff_iff, beq_iff_eq, Bool.not_eq_true', show bit V n = (rgt V (n / 64)).testBit (n % 64) from rfl, ← h1, ← HX.out]
    omega
  · rw [ev]
    have e0 : (q * 1 + 0 : Nat) = q := by omega
    have hs2 : ROwn encWd 171 ((w.drewN nq).setCell ⟨v, q * 1 + 0, none⟩ (.int .u64 ((x ||| m : Nat) : Int))) base (some ⟨v, 0, none⟩) vc (V.set q (x ||| m)) := hs
    rw [e0] at hs2
    exact hs2
end Go.Proofs.YtefgjicegbhcaaaGreat
namespace Go.Proofs.YtefgjicegbhcaaaGreat
open Go.RowKit ReM

structure RcM where
  slot : Nat
  before : Int
instance : Inhabited RcM := ⟨⟨0, 0⟩⟩
structure PaM where
  i : Nat
  a : Nat
  k : Nat
instance : Inhabited PaM := ⟨⟨0, 0, 0⟩⟩
def encRc : Enc RcM where
  k := 2
  v := fun x => [.int .i64 (x.slot : Int), .int .i64 x.before]
  cap := 2199023255552
  pos := by decide
  len := fun _ => rfl
  one := fun x u h => by simp at h; rcases h with rfl | rfl <;> rfl
def encPm : Enc PaM where
  k := 3
  v := fun x => [.int .i64 (x.i : Int), .int .i64 (x.a : Int), .int .i64 (x.k : Int)]
  cap := 2199023255552
  pos := by decide
  len := fun _ => rfl
  one := fun x u h => by simp at h; rcases h with rfl | rfl | rfl <;> rfl
theorem Tryz.infoRc : (Tryz.prog.info? 159).map (fun i => (i.zero, i.size, i.bytes)) = some (some (.agg #[.int .i64 0, .int .i64 0]), 2, 16) := by kernel_rfl
theorem Tryz.elemRc : Tryz.prog.underlying 91 = some (.slice (Tryz.prog.elem 91)) := by kernel_rfl
theorem Tryz.sizeRc (w : World) : (sizeOf (Tryz.prog.elem 91)).run Tryz.prog w = .ok 2 w := by kernel_rfl
theorem Tryz.tyRc : Ty Tryz.prog encRc 91 159 where
  und := by kernel_rfl
  info := ⟨_, _, Tryz.infoRc, rfl, by decide⟩
  elem := Tryz.elemRc
  size := Tryz.sizeRc
  max := by decide
theorem Tryz.infoPm : (Tryz.prog.info? 132).map (fun i => (i.zero, i.size, i.bytes)) = some (some (.agg #[.int .i64 0, .int .i64 0, .int .i64 0]), 3, 24) := by kernel_rfl
theorem Tryz.elemPm : Tryz.prog.underlying 92 = some (.slice (Tryz.prog.elem 92)) := by kernel_rfl
theorem Tryz.sizePm (w : World) : (sizeOf (Tryz.prog.elem 92)).run Tryz.prog w = .ok 3 w := by kernel_rfl
theorem Tryz.tyPm : Ty Tryz.prog encPm 92 132 where
  und := by kernel_rfl
  info := ⟨_, _, Tryz.infoPm, rfl, by decide⟩
  elem := Tryz.elemPm
  size := Tryz.sizePm
  max := by decide
abbrev UO (w : World) (base : Nat) (a : Option Addr) (c : Nat) (U : List RcM) : Prop := ROwn encRc 159 w base a c U
abbrev LO (w : World) (base : Nat) (a : Option Addr) (c : Nat) (S : List PaM) : Prop := ROwn encPm 132 w base a c S
theorem rec_rc {w : World} {b o : Nat} {m : RcM} (h : Rec1 encRc w b o m) : w.cell? ⟨b, o, none⟩ = some (.int .i64 (m.slot : Int)) ∧ w.cell? ⟨b, o + 1, none⟩ = some (.int .i64 m.before) := ⟨h 0 _ rfl, h 1 _ rfl⟩
theorem rec_pm {w : World} {b o : Nat} {m : PaM} (h : Rec1 encPm w b o m) : w.cell? ⟨b, o, none⟩ = some (.int .i64 (m.i : Int)) ∧ w.cell? ⟨b, o + 1, none⟩ = some (.int .i64 (m.a : Int)) ∧ w.cell? ⟨b, o + 2, none⟩ = some (.int .i64 (m.k : Int)) := ⟨h 0 _ rfl, h 1 _ rfl, h 2 _ rfl⟩

/-- the matcher: its program, its groups, whether it folds -/
structure Mt (w : World) (M : Nat) (pa : Option Addr) (pc : Nat) (L : List Im) (G : Nat) (fold : Bool) : Prop where
  c0 : w.cell? ⟨M, 0, none⟩ = some (.slice pa L.length pc)
  c1 : w.cell? ⟨M, 1, none⟩ = some (.int .i64 (G : Int))
  c2 : w.cell? ⟨M, 2, none⟩ = some (.bool fold)
  prog : RSl encIn w pa L
  cap : L.length ≤ pc
  sets : ∀ q, q ∈ L → Sl w q.sa q.set
theorem Mt.bel {w w' : World} {M : Nat} {pa : Option Addr} {pc : Nat} {L : List Im} {G : Nat} {fold : Bool} (h : Mt w M pa pc L G fold) (b : Below w.heap.size w w') : Mt w' M pa pc L G fold :=
  ⟨(b.cell (World.block_lt_of_cell? w _ h.c0)).trans h.c0, (b.cell (World.block_lt_of_cell? w _ h.c1)).trans h.c1, (b.cell (World.block_lt_of_cell? w _ h.c2)).trans h.c2, h.prog.bel b, h.cap, fun q hq => (h.sets q hq).bel b⟩
/-- what a search is made for -/
structure Fx where
  M : Nat
  pa : Option Addr
  pc : Nat
  L : List Im
  G : Nat
  fold : Bool
  ta : Option Addr
  tc : Nat
  t : List Int
structure FxOk (w : World) (x : Fx) : Prop where
  mt : Mt w x.M x.pa x.pc x.L x.G x.fold
  text : Sl w x.ta x.t
  tcap : x.t.length ≤ x.tc
  tl : x.t.length ≤ 1000
  Ll : x.L.length ≤ 300
  G9 : x.G ≤ 9
theorem FxOk.bel {w w' : World} {x : Fx} (h : FxOk w x) (b : Below w.heap.size w w') : FxOk w' x := ⟨h.mt.bel b, h.text.bel b, h.tcap, h.tl, h.Ll, h.G9⟩
/-- where a search lies, where its lists lie that stay -/
structure Sx where
  r : Nat
  g : Nat
  c : Nat
  v : Nat
  vc : Nat
/-- a search in memory -/
structure Srch (w0 w : World) (x : Fx) (y : Sx) (R : List Int) (ua : Option Addr) (uc : Nat) (U : List RcM) (la : Option Addr) (lc : Nat) (S : List PaM) (V : List Nat) : Prop where
  bel : Below w0.heap.size w0 w
  r0 : w0.heap.size ≤ y.r
  rl : y.r < w.heap.size
  c0 : w.cell? ⟨y.r, 0, none⟩ = some (.pointer (some ⟨x.M, 0, none⟩))
  c1 : w.cell? ⟨y.r, 1, none⟩ = some (.slice x.ta x.t.length x.tc)
  c2 : w.cell? ⟨y.r, 2, none⟩ = some (.slice (some ⟨y.g, 0, none⟩) R.length y.c)
  c3 : w.cell? ⟨y.r, 3, none⟩ = some (.slice ua U.length uc)
  c4 : w.cell? ⟨y.r, 4, none⟩ = some (.slice la S.length lc)
  c5 : w.cell? ⟨y.r, 5, none⟩ = some (.slice (some ⟨y.v, 0, none⟩) V.length y.vc)
  fz : ∀ i, w.frozen? ⟨y.r, i, none⟩ = false
  rcd : I.Own w w0.heap.size (some ⟨y.g, 0, none⟩) y.c R
  gr : y.g < y.r
  vr : y.v < y.r
  und : UO w (y.r + 1) ua uc U
  lef : LO w (y.r + 1) la lc S
  bits : WO w w0.heap.size (some ⟨y.v, 0, none⟩) y.vc V
theorem Srch.fx {w0 w : World} {x : Fx} {y : Sx} {R : List Int} {ua : Option Addr} {uc : Nat} {U : List RcM} {la : Option Addr} {lc : Nat} {S : List PaM} {V : List Nat} (h : Srch w0 w x y R ua uc U la lc S V) (f : FxOk w0 x) : FxOk w x := f.bel h.bel
theorem Srch.same {w0 w w' : World} {x : Fx} {y : Sx} {R : List Int} {ua : Option Addr} {uc : Nat} {U : List RcM} {la : Option Addr} {lc : Nat} {S : List PaM} {V : List Nat} (h : Srch w0 w x y R ua uc U la lc S V) (b : Below w.heap.size w w') : Srch w0 w' x y R ua uc U la lc S V :=
  have hb : ∀ i, w'.cell? ⟨y.r, i, none⟩ = w.cell? ⟨y.r, i, none⟩ := fun i => World.cell?_of_block (a := ⟨y.r, i, none⟩) (b.block y.r h.rl)
  ⟨h.bel.trans (b.mono h.bel.size), h.r0, Nat.lt_of_lt_of_le h.rl b.size, (hb 0).trans h.c0, (hb 1).trans h.c1, (hb 2).trans h.c2, (hb 3).trans h.c3, (hb 4).trans h.c4, (hb 5).trans h.c5,
    fun i => (World.frozen?_of_block (a := ⟨y.r, i, none⟩) (b.block y.r h.rl)).trans (h.fz i), h.rcd.same fun _ _ hl => b.block _ hl, h.gr, h.vr, h.und.grow b, h.lef.grow b, h.bits.grow b⟩
/-- beside the bitmap that turns -/
theorem Srch.bit {w0 w w' : World} {x : Fx} {y : Sx} {R : List Int} {ua : Option Addr} {uc : Nat} {U : List RcM} {la : Option Addr} {lc : Nat} {S : List PaM} {V V' : List Nat} (h : Srch w0 w x y R ua uc U la lc S V)
    (ho : WO w' w0.heap.size (some ⟨y.v, 0, none⟩) y.vc V') (k : Kpt (Blk (some ⟨y.v, 0, none⟩)) w w') (hl : V'.length = V.length) : Srch w0 w' x y R ua uc U la lc S V' := by
  have nv : ∀ j, Blk (some ⟨y.v, 0, none⟩) j → j = y.v := fun j ⟨ad, ha, e⟩ => by cases ha; exact e.symm
  have hr := h.vr
  have hvb : w0.heap.size ≤ y.v := (h.bits.lt (k := y.v) ⟨_, rfl, rfl⟩).1
  have hb : ∀ i, w'.cell? ⟨y.r, i, none⟩ = w.cell? ⟨y.r, i, none⟩ := fun i => World.cell?_of_block (a := ⟨y.r, i, none⟩) (k.block y.r h.rl fun hv => by have := nv _ hv; omega)
  refine ⟨h.bel.trans (k.below (fun j hj => by rw [nv j hj]; exact hvb) h.bel.size), h.r0, Nat.lt_of_lt_of_le h.rl k.size, (hb 0).trans h.c0, (hb 1).trans h.c1, (hb 2).trans h.c2, (hb 3).trans h.c3, (hb 4).trans h.c4, by rw [hl]; exact (hb 5).trans h.c5,
    fun i => (World.frozen?_of_block (a := ⟨y.r, i, none⟩) (k.block y.r h.rl fun hv => by have := nv _ hv; omega)).trans (h.fz i), h.rcd.same fun ad ha hl => k.block _ hl fun hv => ?_, h.gr, h.vr, h.und.same fun ad ha hl => k.block _ hl fun hv => ?_, h.lef.same fun ad ha hl => k.block _ hl fun hv => ?_, ho⟩
  · exact own_types h.rcd.1 h.bits.1 (by decide) (k := ad.block) (by cases ha; rfl) (by rw [nv _ hv]; rfl)
  · exact own_types h.und.1 h.bits.1 (by decide) (k := ad.block) (by rw [ha]; rfl) (by rw [nv _ hv]; rfl)
  · exact own_types h.lef.1 h.bits.1 (by decide) (k := ad.block) (by rw [ha]; rfl) (by rw [nv _ hv]; rfl)
end Go.Proofs.YtefgjicegbhcaaaGreat
namespace Go.Proofs.YtefgjicegbhcaaaGreat
open Go.RowKit ReM

/-- the number of an instruction at a place -/
def numS (n i a : Nat) : Nat := i * (n + 1) + a
def ReachP (w0 : World) (x : Fx) (y : Sx) (R : List Int) (ua : Option Addr) (uc : Nat) (U : List RcM) (la : Option Addr) (lc : Nat) (S : List PaM) (V : List Nat) (i a : Nat) (e' : Ending) (w' : World) : Prop :=
  e' = .returned (.bool (!bit V (numS x.t.length i a))) ∧ Srch w0 w' x y R ua uc U la lc S (setb V (numS x.t.length i a))
set_option maxRecDepth 20000 in
set_option maxHeartbeats 16000000 in
theorem reach_c (w0 w : World) (x : Fx) (y : Sx) (R : List Int) (ua : Option Addr) (uc : Nat) (U : List RcM) (la : Option Addr) (lc : Nat) (S : List PaM) (V : List Nat) (h : Srch w0 w x y R ua uc U la lc S V) (f : FxOk w0 x) (hV : Wds V)
    (i a : Nat) (hi : i ≤ 300) (ha : a ≤ 1000) (hb : numS x.t.length i a / 64 < V.length) :
    Calls Tryz.prog 102 #[.pointer (some ⟨y.r, 0, none⟩), .int .i64 i, .int .i64 a] w (ReachP w0 x y R ua uc U la lc S V i a) := by
  have hl := f.tl
  obtain ⟨r, hr⟩ : ∃ r, r = y.r := ⟨_, rfl⟩
  obtain ⟨v, hv⟩ : ∃ v, v = y.v := ⟨_, rfl⟩
  obtain ⟨n, hn⟩ : ∃ n, n = x.t.length := ⟨_, rfl⟩
  obtain ⟨N1, hN1⟩ : ∃ N1, N1 = n + 1 := ⟨_, rfl⟩
  obtain ⟨N2, hN2⟩ : ∃ N2, N2 = i * N1 := ⟨_, rfl⟩
  obtain ⟨N3, hN3⟩ : ∃ N3, N3 = N2 + a := ⟨_, rfl⟩
  have eN : numS x.t.length i a = N3 := by rw [hN3, hN2, hN1, hn]; rfl
  have b2 : N2 ≤ 300 * 1001 := by rw [hN2]; exact Nat.mul_le_mul hi (by omega)
  have e1 : IntKind.i64.wrap ((n : Int) + 1) = (N1 : Int) := by rw [IntKind.wrap_i64]; omega
  have e2 : IntKind.i64.wrap ((i : Int) * (N1 : Int)) = (N2 : Int) := by
    rw [show (i : Int) * (N1 : Int) = ((i * N1 : Nat) : Int) from by simp, ← hN2, IntKind.wrap_i64]; omega
  have e3 : IntKind.i64.wrap ((N2 : Int) + (a : Int)) = (N3 : Int) := by rw [IntKind.wrap_i64]; omega
  have K := hid (fun w' (b : Below w.heap.size w w') => h.same b)
  have c1 := h.c1
  have c5 := h.c5
  rw [← hr, ← hn] at c1
  rw [← hr, ← hv] at c5
  have KC := hid (fun w' (b : Below w.heap.size w w') => show w'.cell? ⟨r, 1, none⟩ = some (.slice x.ta n x.tc) ∧ w'.cell? ⟨r, 5, none⟩ = some (.slice (some ⟨v, 0, none⟩) V.length y.vc) from ⟨(b.cell (World.block_lt_of_cell? w _ c1)).trans c1, (b.cell (World.block_lt_of_cell? w _ c5)).trans c5⟩)
  have HV := hid hV
  have Hb := hid hb
  have C := hid (fun w' (b : Below w.heap.size w w') => badd_c y.v y.vc V N3 w0.heap.size w' (h.same b).bits hV (by rw [← eN]; exact hb))
  have EN := hid eN
  rw [← hv] at C
  show Calls Tryz.prog 102 #[.pointer (some ⟨y.r, 0, none⟩), .int .i64 i, .int .i64 a] w _
  rw [← hr]
  have Hr := hid hr
  have Hn := hid hn
  have Hv := hid hv
  clear h hV hb hr hv hn hN1 hN2 hN3 b2 hl eN f
  go_enter Tryz.func102, Tryz.ntmps102
  go_upto_region 1 with fail
  go_region_held3 (fun w' => w'.cell? ⟨r, 1, none⟩ = some (.slice x.ta n x.tc) ∧ w'.cell? ⟨r, 5, none⟩ = some (.slice (some ⟨v, 0, none⟩) V.length y.vc)) (first | (with_reducible assumption) | (exact ⟨by with_reducible assumption, by with_reducible assumption⟩) | (exact KC.out _ (by (repeat' (first | exact Below.refl _ _ | assumption | refine bdrewN ?_ _ | refine Below.drew ?_ | refine Below.setCell ?_ (Nat.le_refl _) _ | refine bal ?_ _ | refine bthen ?_ (by assumption))))))
    (first | (go_at_call 129; refine (C.out _ (by (repeat' (first | exact Below.refl _ _ | assumption | refine bdrewN ?_ _ | refine Below.drew ?_ | refine Below.setCell ?_ (Nat.le_refl _) _ | refine bal ?_ _ | refine bthen ?_ (by assumption))))).mono ?_; rintro e v1 ⟨rfl, ho, hk⟩; have h1 := hid ((K.out w.drew (by (repeat' (first | exact Below.refl _ _ | assumption | refine bdrewN ?_ _ | refine Below.drew ?_ | refine Below.setCell ?_ (Nat.le_refl _) _ | refine bal ?_ _ | refine bthen ?_ (by assumption))))).bit (by rw [← Hv.out]; exact ho) (by rw [← Hv.out]; exact hk) (setb_len _ _)); have o1 := h1.out.c1; have o5 := h1.out.c5; rw [← Hr.out, ← Hn.out] at o1; rw [← Hr.out, ← Hv.out, setb_len] at o5))
  all_goals
    go_wp2_with fail
    go_ret
    refine ⟨?_, ?_⟩
    · rw [EN.out]; rfl
    · rw [EN.out]; exact h1.out.same (by (repeat' (first | exact Below.refl _ _ | assumption | refine bdrewN ?_ _ | refine Below.drew ?_ | refine Below.setCell ?_ (Nat.le_refl _) _ | refine bal ?_ _ | refine bthen ?_ (by assumption))))
theorem blk_is {g k : Nat} (h : Blk (some ⟨g, 0, none⟩) k) : k = g := by obtain ⟨ad, ha, rfl⟩ := h; cases ha; rfl
/-- the list of records turned -/
theorem Srch.undo {w0 w w1 : World} {x : Fx} {y : Sx} {R : List Int} {ua : Option Addr} {uc : Nat} {U : List RcM} {la : Option Addr} {lc : Nat} {S : List PaM} {V : List Nat} (h : Srch w0 w x y R ua uc U la lc S V)
    {a1 : Option Addr} {c1 : Nat} {U1 : List RcM} (ho : UO w1 (y.r + 1) a1 c1 U1) (k : Kpt (Blk ua) w w1) : Srch w0 (w1.setCell ⟨y.r, 3, none⟩ (.slice a1 U1.length c1)) x y R a1 c1 U1 la lc S V := by
  have hr0 := h.r0
  have nb : ¬ Blk ua y.r := fun hb => by have := (h.und.lt hb).1; omega
  have hu : ∀ j, Blk ua j → y.r + 1 ≤ j := fun j hj => (h.und.lt hj).1
  have e : ∀ j, j ≠ y.r → (w1.setCell ⟨y.r, 3, none⟩ (.slice a1 U1.length c1)).heap[j]? = w1.heap[j]? := fun j hj => Below.heap_setCell _ _ _ _ (fun e => hj e)
  have kc : ∀ i v, w.cell? ⟨y.r, i, none⟩ = some v → w1.cell? ⟨y.r, i, none⟩ = some v := fun i v hv => k.cell hv nb
  have hz := k.size
  have hl := h.rl
  have fz : ∀ i, w1.frozen? ⟨y.r, i, none⟩ = false := fun i => by rw [k.frozen (by show y.r < _; omega) nb]; exact h.fz i
  refine ⟨(h.bel.trans (k.below (fun j hj => by have := hu j hj; omega) h.bel.size)).setCell h.r0 _, hr0, by simp; omega, ?_, ?_, ?_, ?_, ?_, ?_, fun i => by rw [World.frozen?_setCell]; exact fz i, ?_, h.gr, h.vr, ?_, ?_, ?_⟩
  · rw [World.cell?_setCell_other (h := by simp)]; exact kc 0 _ h.c0
  · rw [World.cell?_setCell_other (h := by simp)]; exact kc 1 _ h.c1
  · rw [World.cell?_setCell_other (h := by simp)]; exact kc 2 _ h.c2
  · rw [World.cell?_setCell_same (h := kc 3 _ h.c3)]
  · rw [World.cell?_setCell_other (h := by simp)]; exact kc 4 _ h.c4
  · rw [World.cell?_setCell_other (h := by simp)]; exact kc 5 _ h.c5
  · have hg := h.gr
    refine h.rcd.same fun ad ha hl => ?_
    cases ha
    rw [e _ (by show y.g ≠ _; omega)]
    exact k.block _ hl fun hb => by have := hu _ hb; simp at this; omega
  · exact ho.same fun ad ha hl => e _ (by have := (ho.lt (k := ad.block) ⟨ad, ha, rfl⟩).1; omega)
  · refine h.lef.same fun ad ha hl => ?_
    have := (h.lef.lt (k := ad.block) ⟨ad, ha, rfl⟩).1
    rw [e _ (by omega)]
    exact k.block _ hl fun ⟨ae, he, hb⟩ => own_types h.und.1 h.lef.1 (by decide) (k := ad.block) (by rw [he, ← hb]; rfl) (by rw [ha]; rfl)
  · have hg := h.vr
    refine h.bits.same fun ad ha hl => ?_
    cases ha
    rw [e _ (by show y.v ≠ _; omega)]
    exact k.block _ hl fun hb => by have := hu _ hb; simp at this; omega
/-- the list of paths turned -/
theorem Srch.left {w0 w w1 : World} {x : Fx} {y : Sx} {R : List Int} {ua : Option Addr} {uc : Nat} {U : List RcM} {la : Option Addr} {lc : Nat} {S : List PaM} {V : List Nat} (h : Srch w0 w x y R ua uc U la lc S V)
    {a1 : Option Addr} {c1 : Nat} {S1 : List PaM} (ho : LO w1 (y.r + 1) a1 c1 S1) (k : Kpt (Blk la) w w1) : Srch w0 (w1.setCell ⟨y.r, 4, none⟩ (.slice a1 S1.length c1)) x y R ua uc U a1 c1 S1 V := by
  have hr0 := h.r0
  have nb : ¬ Blk la y.r := fun hb => by have := (h.lef.lt hb).1; omega
  have hu : ∀ j, Blk la j → y.r + 1 ≤ j := fun j hj => (h.lef.lt hj).1
  have e : ∀ j, j ≠ y.r → (w1.setCell ⟨y.r, 4, none⟩ (.slice a1 S1.length c1)).heap[j]? = w1.heap[j]? := fun j hj => Below.heap_setCell _ _ _ _ (fun e => hj e)
  have kc : ∀ i v, w.cell? ⟨y.r, i, none⟩ = some v → w1.cell? ⟨y.r, i, none⟩ = some v := fun i v hv => k.cell hv nb
  have hz := k.size
  have hl := h.rl
  have fz : ∀ i, w1.frozen? ⟨y.r, i, none⟩ = false := fun i => by rw [k.frozen (by show y.r < _; omega) nb]; exact h.fz i
  refine ⟨(h.bel.trans (k.below (fun j hj => by have := hu j hj; omega) h.bel.size)).setCell h.r0 _, hr0, by simp; omega, ?_, ?_, ?_, ?_, ?_, ?_, fun i => by rw [World.frozen?_setCell]; exact fz i, ?_, h.gr, h.vr, ?_, ?_, ?_⟩
  · rw [World.cell?_setCell_other (h := by simp)]; exact kc 0 _ h.c0
  · rw [World.cell?_setCell_other (h := by simp)]; exact kc 1 _ h.c1
  · rw [World.cell?_setCell_other (h := by simp)]; exact kc 2 _ h.c2
  · rw [World.cell?_setCell_other (h := by simp)]; exact kc 3 _ h.c3
  · rw [World.cell?_setCell_same (h := kc 4 _ h.c4)]
  · rw [World.cell?_setCell_other (h := by simp)]; exact kc 5 _ h.c5
  · have hg := h.gr
    refine h.rcd.same fun ad ha hl => ?_
    cases ha
    rw [e _ (by show y.g ≠ _; omega)]
    exact k.block _ hl fun hb => by have := hu _ hb; simp at this; omega
  · refine h.und.same fun ad ha hl => ?_
    have := (h.und.lt (k := ad.block) ⟨ad, ha, rfl⟩).1
    rw [e _ (by omega)]
    exact k.block _ hl fun ⟨ae, he, hb⟩ => own_types h.lef.1 h.und.1 (by decide) (k := ad.block) (by rw [he, ← hb]; rfl) (by rw [ha]; rfl)
  · exact ho.same fun ad ha hl => e _ (by have := (ho.lt (k := ad.block) ⟨ad, ha, rfl⟩).1; omega)
  · have hg := h.vr
    refine h.bits.same fun ad ha hl => ?_
    cases ha
    rw [e _ (by show y.v ≠ _; omega)]
    exact k.block _ hl fun hb => by have := hu _ hb; simp at this; omega
/-- an index recorded -/
theorem Srch.put {w0 w : World} {x : Fx} {y : Sx} {R : List Int} {ua : Option Addr} {uc : Nat} {U : List RcM} {la : Option Addr} {lc : Nat} {S : List PaM} {V : List Nat} (h : Srch w0 w x y R ua uc U la lc S V)
    (i : Nat) (z : Int) (hz : -9223372036854775808 ≤ z ∧ z ≤ 9223372036854775807) : Srch w0 (w.setCell ⟨y.g, i, none⟩ (.int .i64 z)) x y (R.set i z) ua uc U la lc S V := by
  have hr0 := h.r0
  have hg := h.gr
  have hg0 : w0.heap.size ≤ y.g := (h.rcd.1.lt y.g rfl).1
  have hl := h.rl
  have e : ∀ j, j ≠ y.g → (w.setCell ⟨y.g, i, none⟩ (.int .i64 z)).heap[j]? = w.heap[j]? := fun j hj => Below.heap_setCell _ _ _ _ (fun e => hj e)
  have er := e y.r (by omega)
  have hb : ∀ j, (w.setCell ⟨y.g, i, none⟩ (.int .i64 z)).cell? ⟨y.r, j, none⟩ = w.cell? ⟨y.r, j, none⟩ := fun j => World.cell?_of_block (a := ⟨y.r, j, none⟩) er
  refine ⟨h.bel.setCell hg0 _, hr0, by simp; omega, (hb 0).trans h.c0, (hb 1).trans h.c1, by rw [List.length_set]; exact (hb 2).trans h.c2, (hb 3).trans h.c3, (hb 4).trans h.c4, (hb 5).trans h.c5, fun j => by rw [World.frozen?_setCell]; exact h.fz j,
    h.rcd.stored i z hz, hg, h.vr, h.und.same fun ad ha hl => e _ ?_, h.lef.same fun ad ha hl => e _ ?_, h.bits.same fun ad ha hl => e _ fun he => ?_⟩
  · have := (h.und.lt (k := ad.block) ⟨ad, ha, rfl⟩).1; omega
  · have := (h.lef.lt (k := ad.block) ⟨ad, ha, rfl⟩).1; omega
  · exact own_types h.rcd.1 h.bits.1 (by decide) (k := y.g) rfl (by rw [← he]; cases ha; rfl)
theorem Srch.cells {w0 w : World} {x : Fx} {y : Sx} {R : List Int} {ua : Option Addr} {uc : Nat} {U : List RcM} {la : Option Addr} {lc : Nat} {S : List PaM} {V : List Nat} (h : Srch w0 w x y R ua uc U la lc S V) {i : Nat} (hi : i < R.length) :
    w.cell? ⟨y.g, i, none⟩ = some (.int .i64 (gt R i)) := by
  obtain ⟨b, o, he, hc⟩ := h.rcd.sl.at hi
  cases he
  simpa using hc i hi
def RecordP (w0 : World) (x : Fx) (y : Sx) (R : List Int) (U : List RcM) (la : Option Addr) (lc : Nat) (S : List PaM) (V : List Nat) (e' : Ending) (w' : World) : Prop :=
  e' = .returned (.tuple #[]) ∧ ∃ ua uc, Srch w0 w' x y R ua uc U la lc S V
set_option maxRecDepth 20000 in
set_option maxHeartbeats 16000000 in
theorem record_c (w0 w : World) (x : Fx) (y : Sx) (R : List Int) (ua : Option Addr) (uc : Nat) (U : List RcM) (la : Option Addr) (lc : Nat) (S : List PaM) (V : List Nat) (h : Srch w0 w x y R ua uc U la lc S V)
    (s a : Nat) (hs : s < R.length) (_hR : R.length ≤ 100) (hU : U.length ≤ 1000000) (ha : a ≤ 1000) :
    Calls Tryz.prog 104 #[.pointer (some ⟨y.r, 0, none⟩), .int .i64 s, .int .i64 a] w (RecordP w0 x y (R.set s a) (U ++ [⟨s, gt R s⟩]) la lc S V) := by
  obtain ⟨r, hr⟩ : ∃ r, r = y.r := ⟨_, rfl⟩
  obtain ⟨g, hg⟩ : ∃ g, g = y.g := ⟨_, rfl⟩
  obtain ⟨old, ho⟩ : ∃ old, old = gt R s := ⟨_, rfl⟩
  have c2 := h.c2
  have c3 := h.c3
  have cg := h.cells hs
  have hrl := h.rl
  have hgr := h.gr
  have fz3 := h.fz 3
  have fzg : w.frozen? ⟨y.g, s, none⟩ = false := h.rcd.1.frozenAt s
  rw [← hr, ← hg] at c2
  rw [← hr] at c3 hrl fz3
  rw [← hg, ← ho] at cg
  rw [← hg] at fzg
  rw [← hr, ← hg] at hgr
  rw [← ho]
  have nbr : ¬ Blk ua r := fun hb => by have := (h.und.lt hb).1; omega
  have nbg : ¬ Blk ua g := fun hb => by have := (h.und.lt hb).1; omega
  have KN := hid (fun w' (k : Kpt (Blk ua) w w') => show w'.cell? ⟨r, 3, none⟩ = some (.slice ua U.length uc) ∧ w'.frozen? ⟨r, 3, none⟩ = false ∧ w'.cell? ⟨r, 2, none⟩ = some (.slice (some ⟨g, 0, none⟩) R.length y.c) ∧ w'.cell? ⟨g, s, none⟩ = some (.int .i64 old) from
    ⟨k.cell c3 nbr, by rw [k.frozen (by show r < _; omega) nbr]; exact fz3, k.cell c2 nbr, k.cell cg nbg⟩)
  have H := hid h
  have Hr := hid hr
  have Hg := hid hg
  have Ho := hid ho
  have hBw : r + 1 ≤ w.heap.size := by omega
  have z1 : (s : Int) < (R.length : Int) := by omega
  have z2 : (0 : Int) ≤ (s : Int) := by omega
  have HU := hid hU
  show Calls Tryz.prog 104 #[.pointer (some ⟨y.r, 0, none⟩), .int .i64 s, .int .i64 a] w _
  rw [← hr]
  clear h hr hg ho nbr nbg hU
  go_enter Tryz.func104, Tryz.ntmps104
  go_upto_region 0 with fail
  go_region_law
    (first | ((go_loud (refine step_rapp Tryz.tyRc rfl (.tmp 10) (.tmp 20) rfl (r + 1) ua (some ⟨w.heap.size, 0, none⟩) U.length 1 uc 1 U [⟨s, old⟩] rfl (by first | rfl | simp | omega) (by rw [Hr.out]; exact H.out.und.grow (by (repeat' (first | exact Below.refl _ _ | assumption | refine bdrewN ?_ _ | refine Below.drew ?_ | refine bal ?_ _ | refine bthen ?_ (by assumption))))) rfl (by first | rfl | simp | omega) (RSl.lit (E := encRc) w ⟨s, old⟩ 159 w.heap.size rfl #[.int .i64 s, .int .i64 old] rfl (by decide)).drew (by have := HU.out; show _ ≤ 2199023255552; simp; omega) (by simp; omega) ?_); intro a1 c1 w1 L1 Hl1 ho1 hb1 hk1 hA1; have HA1 := hid hA1; clear hA1; have Ho1 := hid ho1; clear ho1; have Hk1 := hid hk1; clear hk1; have hz1 := hb1.size); have kx : Kpt (Blk ua) w w1 := Kpt.tr (by (repeat' (first | exact Kpt.refl _ _ | assumption | refine Kpt.drew ?_ | refine Kpt.alloc ?_ _))) Hk1.out; have kk := KN.out _ kx; obtain ⟨e0, e1, e2, e3⟩ := kk) | fail)
  all_goals
    have P2 := Srch.undo H.out (a1 := a1) (c1 := c1) (U1 := L1) (by rw [← Hr.out]; exact Ho1.out) kx
    rw [← Hr.out] at P2
    obtain ⟨w2, hw2⟩ : ∃ w2, w2 = w1.setCell ⟨r, 3, none⟩ (.slice a1 L1.length c1) := ⟨_, rfl⟩
    rw [← hw2] at P2 ⊢
    have y2 := P2.c2
    have yg := P2.cells hs
    have yf : w2.frozen? ⟨y.g, s, none⟩ = false := P2.rcd.1.frozenAt s
    rw [← Hr.out, ← Hg.out] at y2
    rw [← Hg.out, ← Ho.out] at yg
    rw [← Hg.out] at yf
    have HP := hid P2
    have HL := hid Hl1.out
    clear hw2 P2 e0 e1 e2 e3 kx HA1 Hk1 Ho1 Hl1 KN c2 c3 cg fz3 fzg
    go_wp2_with fail
    go_end0
    refine ⟨rfl, a1, c1, ?_⟩
    rw [Hg.out, ← HL.out]
    exact (HP.out.same (by (repeat' (first | exact Below.refl _ _ | assumption | refine bdrewN ?_ _ | refine Below.drew ?_ | refine Below.setCell ?_ (Nat.le_refl _) _ | refine bal ?_ _ | refine bthen ?_ (by assumption))))).put s a (by omega)
end Go.Proofs.YtefgjicegbhcaaaGreat
namespace Go.Proofs.YtefgjicegbhcaaaGreat
open Go.RowKit ReM

namespace ReM
/-- what was recorded, the records undone, the last first -/
def unW (U : List RcM) (R : List Int) : List Int := U.foldr (fun x R => R.set x.slot x.before) R
theorem unW_len (U : List RcM) (R : List Int) : (unW U R).length = R.length := by
  induction U with
  | nil => rfl
  | cons x U ih => simp only [unW, List.foldr_cons, List.length_set] at ih ⊢; exact ih
theorem unW_app (U T : List RcM) (R : List Int) : unW (U ++ T) R = unW U (unW T R) := by simp [unW]
theorem unW_at {U : List RcM} {j : Nat} (h : j < U.length) (R : List Int) : unW (U.drop j) R = (unW (U.drop (j + 1)) R).set (rgt U j).slot (rgt U j).before := by
  rw [rgt_drop h]; rfl
theorem unW_snoc (U : List RcM) (R : List Int) {k s : Nat} {z : Int} (hs : s < R.length) (hk : k ≤ U.length) : unW ((U ++ [(⟨s, gt R s⟩ : RcM)]).drop k) (R.set s z) = unW (U.drop k) R := by
  rw [List.drop_append_of_le_length hk, unW_app]
  congr 1
  show (R.set s z).set s (gt R s) = R
  rw [List.set_set, gt_get hs, List.set_getElem_self]
theorem unW_take (U : List RcM) (R : List Int) {j k : Nat} (h : j ≤ k) (hk : k ≤ U.length) : unW ((U.take k).drop j) (unW (U.drop k) R) = unW (U.drop j) R := by
  rw [← unW_app]
  congr 1
  have e : U.drop j = (U.take k ++ U.drop k).drop j := by rw [List.take_append_drop]
  rw [e, List.drop_append_of_le_length (by simp; omega)]
end ReM
theorem ROwn.cut {α : Type} {E : Enc α} {e : TypeId} {w : World} {base : Nat} {a : Option Addr} {c : Nat} {l : List α} (h : ROwn E e w base a c l) (m : Nat) (hm : m ≤ l.length) : ROwn E e w base a c (l.take m) := by
  obtain ⟨⟨h1, h2⟩, h3⟩ := h
  have hl : (l.take m).length = m := by simp; omega
  refine ⟨⟨by rw [rflat_len], ?_⟩, by rw [hl]; omega⟩
  rw [hl]
  rcases h2 with ⟨h2, h4⟩ | ⟨g, cap, cur, hv, hg, hh, hn, hc, hs, ht⟩
  · simp only [Value.slice.injEq] at h2
    obtain ⟨rfl, h5, rfl⟩ := h2
    left
    exact ⟨by simp; omega, by omega⟩
  · simp only [Value.slice.injEq, true_and] at hv
    refine .inr ⟨g, cap, cur, by simp [hv], hg, hh, by omega, hc, hs, ?_⟩
    rw [rflat_take _ _ hm, ← ht, List.take_take, Nat.min_eq_left (Nat.mul_le_mul_right _ hm)]
theorem rslice_own {α : Type} {E : Enc α} {e : TypeId} {P : Program} {t : TypeId} (T : Ty P E t e) {w : World} {base : Nat} {a : Option Addr} {c : Nat} {l : List α} (h : ROwn E e w base a c l) (m : Nat) (hm : m ≤ l.length) :
    ∀ w', (Instr.slice t (.slice a l.length c) none (some (.int .i64 m)) none).run P w' = .ok (.slice a (l.take m).length c) w' := by
  intro w'
  have hc := h.cap
  rw [run_slice_h _ _ _ _ _ T.elem .i64 m (by omega) (by have := h.2; have := T.max; omega)]
  rcases h.shape with ⟨rfl, rfl, rfl⟩ | ⟨g, rfl, _, _, _⟩
  · obtain rfl : m = 0 := by simpa using hm
    simp [T.size, Result.andThen, sliced]
  · simp [T.size, Result.andThen, sliced, Nat.min_eq_left hm, Addr.add]
def UndoP (w0 w : World) (x : Fx) (y : Sx) (R : List Int) (ua : Option Addr) (uc : Nat) (U : List RcM) (la : Option Addr) (lc : Nat) (S : List PaM) (V : List Nat) (k : Nat) (e' : Ending) (w' : World) : Prop :=
  ∃ R' U', e' = .returned (.tuple #[]) ∧ Hid (R' = unW (U.drop k) R) ∧ Hid (U' = U.take k) ∧ Srch w0 w' x y R' ua uc U' la lc S V ∧ Kpt (fun j => j = y.r ∨ j = y.g) w w'
set_option maxRecDepth 20000 in
set_option maxHeartbeats 16000000 in
theorem undoto_c (w0 w : World) (x : Fx) (y : Sx) (R : List Int) (ua : Option Addr) (uc : Nat) (U : List RcM) (la : Option Addr) (lc : Nat) (S : List PaM) (V : List Nat) (h : Srch w0 w x y R ua uc U la lc S V)
    (k : Nat) (hk : k ≤ U.length) (_hR : R.length ≤ 100) (hU : U.length ≤ 1000000) (hs : ∀ q, q ∈ U → q.slot < R.length ∧ -1 ≤ q.before ∧ q.before ≤ 1000) :
    Calls Tryz.prog 76 #[.pointer (some ⟨y.r, 0, none⟩), .int .i64 k] w (UndoP w0 w x y R ua uc U la lc S V k) := by
  obtain ⟨r, hr⟩ : ∃ r, r = y.r := ⟨_, rfl⟩
  obtain ⟨g, hg⟩ : ∃ g, g = y.g := ⟨_, rfl⟩
  obtain ⟨n, hn⟩ : ∃ n, n = U.length := ⟨_, rfl⟩
  have c3 := h.c3
  rw [← hr, ← hn] at c3
  have Hr := hid hr
  have Hg := hid hg
  have Hn := hid hn
  have H := hid h
  have HS := hid hs
  rw [← hn] at hk hU
  have e0 : IntKind.i64.wrap ((n : Int) - 1) = (n : Int) - 1 := by rw [IntKind.wrap_i64]; omega
  show Calls Tryz.prog 76 #[.pointer (some ⟨y.r, 0, none⟩), .int .i64 k] w _
  rw [← hr]
  clear h hr hg hn hs
  go_enter Tryz.func76, Tryz.ntmps76
  go_wp2_with fail
  go_loopw [4, 5] (fun iv _ wr => ∃ (m : Nat) (z : Int) (R1 : List Int), iv = .int .i64 z ∧ Hid (z = (m : Int) - 1) ∧ k ≤ m ∧ m ≤ n ∧ Hid (R1 = unW (U.drop m) R) ∧ Hid (Srch w0 wr x y R1 ua uc U la lc S V) ∧ Kpt (fun j => j = r ∨ j = g) w wr) (fun iv _ _ => (intOf iv + 1).toNat)
  case atStart => exact ⟨n, _, R, rfl, hid rfl, hk, Nat.le_refl _, hid (by rw [Hn.out, List.drop_length]; rfl), H, Kpt.refl _ _⟩
  case round =>
    obtain ⟨m, z, R1, rfl, hz, hm1, hm2, HR1, H1, hkp⟩ := hrel
    have K3 := H1.out.c3
    rw [← Hr.out, ← Hn.out] at K3
    by_cases hmk : k < m
    · obtain ⟨j, rfl⟩ : ∃ j, m = j + 1 := ⟨m - 1, by omega⟩
      obtain rfl : z = (j : Int) := by have := hz.out; omega
      have hjU : j < U.length := by rw [← Hn.out]; omega
      obtain ⟨ug, hug⟩ : ∃ ug, ua = some ⟨ug, 0, none⟩ := by
        rcases H1.out.und.shape with ⟨_, _, h0⟩ | ⟨g, h0, _⟩
        · rw [h0] at hjU; simp at hjU
        · exact ⟨g, h0⟩
      subst hug
      obtain ⟨u0, u1⟩ := rec_rc (H1.out.und.at hjU)
      obtain ⟨sl, hsl⟩ : ∃ sl, sl = (rgt U j).slot := ⟨_, rfl⟩
      obtain ⟨be, hbe⟩ : ∃ be, be = (rgt U j).before := ⟨_, rfl⟩
      obtain ⟨hs1, hs2, hs3⟩ := HS.out _ (rgt_mem hjU)
      rw [← hsl] at u0 hs1
      rw [← hbe] at u1 hs2 hs3
      change World.cell? _ ⟨ug, j * 2, none⟩ = _ at u0
      change World.cell? _ ⟨ug, j * 2 + 1, none⟩ = _ at u1
      have hat := hid (unW_at hjU R)
      rw [← hsl, ← hbe] at hat
      have bz : decide ((k : Int) ≤ (j : Int)) = true := decide_eq_true (by omega)
      have z1 : (j : Int) < (n : Int) := by omega
      have z2 : (0 : Int) ≤ (j : Int) := by omega
      have hl1 : R1.length = R.length := by rw [HR1.out, unW_len]
      obtain ⟨V, hV⟩ : ∃ V, V = wr.alloc (.cells #[.int .i64 (sl : Int), .int .i64 be] 159) := ⟨_, rfl⟩
      have bV : Below wr.heap.size wr V := by subst hV; (repeat' (first | exact Below.refl _ _ | assumption | refine bdrewN ?_ _ | refine Below.drew ?_ | refine bal ?_ _ | refine bthen ?_ (by assumption)))
      have hc : ∀ j, V.cell? ⟨wr.heap.size, j, none⟩ = #[Value.int .i64 (sl : Int), .int .i64 be][j]? := fun j => by subst hV; rw [cell_alloc_new]
      have v0 := hc 0
      have v1 := hc 1
      simp at v0 v1
      have H2 := hid (H1.out.same bV)
      have K2 := H2.out.c2
      have hs1' : sl < R1.length := by omega
      have Kg := H2.out.cells hs1'
      have fg : V.frozen? ⟨y.g, sl, none⟩ = false := H2.out.rcd.1.frozenAt sl
      rw [← Hr.out, ← Hg.out] at K2
      rw [← Hg.out] at Kg fg
      have i1 : (sl : Int) < (R1.length : Int) := by omega
      have i2 : (0 : Int) ≤ (sl : Int) := by omega
      have HKP := hid (hkp.tr (Kpt.of bV))
      have HB := hid (show -1 ≤ be ∧ be ≤ 1000 from ⟨hs2, hs3⟩)
      clear hsl hbe hz hc bV hkp hs1 hs2 hs3 hl1 hs1'
      go_upto_region 4 with fail
      rw [← hV]; clear hV u0 u1 K3
      go_region
      all_goals
        go_wp2_with fail
        refine ⟨⟨j, _, R1.set sl be, rfl, hid rfl, by omega, by omega, hid (by rw [hat.out, ← HR1.out]), hid ?_, ?_⟩, by simp [intOf] <;> omega⟩
        · rw [Hg.out]
          exact (H2.out.put sl be (by have := HB.out; omega)).same (by (repeat' (first | exact Below.refl _ _ | assumption | refine bdrewN ?_ _ | refine Below.drew ?_ | refine Below.setCell ?_ (Nat.le_refl _) _ | refine bal ?_ _ | refine bthen ?_ (by assumption))))
        · exact (HKP.out.setCell (p := ⟨g, sl, none⟩) (.inr rfl) _).drew
    · obtain rfl : k = m := by omega
      obtain rfl : z = (k : Int) - 1 := by have := hz.out; omega
      have bz : decide ((k : Int) ≤ (k : Int) - 1) = false := decide_eq_false (by omega)
      have hkU : k ≤ U.length := by rw [← Hn.out]; omega
      have hrun := rslice_own Tryz.tyRc H1.out.und k hkU
      have hcut := hid (H1.out.und.cut k hkU)
      obtain ⟨U2, hU2⟩ : ∃ U2, U2 = U.take k := ⟨_, rfl⟩
      rw [← hU2, ← Hn.out] at hrun
      rw [← hU2] at hcut
      have HU2 := hid hU2
      have fz3 := H1.out.fz 3
      rw [← Hr.out] at fz3
      have HKP := hid hkp
      clear hU2 hz hkU hkp
      go_wp2_with fail
      go_end0
      refine ⟨R1, U2, rfl, HR1, HU2, ?_, ?_⟩
      · rw [Hr.out]; exact H1.out.undo hcut.out (Kpt.refl _ _)
      · rw [← Hr.out, ← Hg.out]; exact HKP.out.setCell (p := ⟨r, 3, none⟩) (.inl rfl) _
end Go.Proofs.YtefgjicegbhcaaaGreat
namespace Go.Proofs.YtefgjicegbhcaaaGreat
open Go.RowKit ReM
namespace ReM
/-! ## how many bits are not set -/
def unv : Nat → List Nat → Nat
  | 0, _ => 0
  | n + 1, V => unv n V + if bit V n = true then 0 else 1
theorem unv_le (n : Nat) (V : List Nat) : unv n V ≤ n := by
  induction n with
  | zero => exact Nat.le_refl _
  | succ n ih => unfold unv; split <;> omega
theorem unv_same {n : Nat} {V W : List Nat} (h : ∀ k, k < n → bit V k = bit W k) : unv n V = unv n W := by
  induction n with
  | zero => rfl
  | succ n ih => unfold unv; rw [ih fun k hk => h k (by omega), h n (by omega)]
theorem unv_setb {V : List Nat} {k : Nat} (hk : k / 64 < V.length) (hb : bit V k = false) : ∀ n, k < n → unv n (setb V k) + 1 = unv n V := by
  intro n
  induction n with
  | zero => intro h; omega
  | succ n ih =>
    intro h
    unfold unv
    by_cases hn : k = n
    · subst hn
      rw [bit_setb hk, decide_eq_true rfl, Bool.true_or, if_pos rfl, hb, if_neg (by simp)]
      rw [unv_same (W := V) fun j hj => by rw [bit_setb hk, decide_eq_false (by omega), Bool.false_or]]
    · have := ih (by omega)
      rw [bit_setb hk, decide_eq_false (by omega), Bool.false_or]
      omega
theorem num_inj {n i a j b : Nat} (ha : a ≤ n) (hb : b ≤ n) (h : numS n i a = numS n j b) : i = j ∧ a = b := by
  unfold numS at h
  have h1 : (i * (n + 1) + a) / (n + 1) = i := by rw [Nat.add_comm, Nat.add_mul_div_right _ _ (by omega), Nat.div_eq_of_lt (by omega), Nat.zero_add]
  have h2 : (j * (n + 1) + b) / (n + 1) = j := by rw [Nat.add_comm, Nat.add_mul_div_right _ _ (by omega), Nat.div_eq_of_lt (by omega), Nat.zero_add]
  rw [h, h2] at h1
  subst h1
  exact ⟨rfl, by omega⟩
theorem num_lt {n i a L : Nat} (hi : i < L) (ha : a ≤ n) : numS n i a < L * (n + 1) := by
  unfold numS
  have : (i + 1) * (n + 1) ≤ L * (n + 1) := Nat.mul_le_mul_right _ hi
  rw [Nat.succ_mul] at this
  omega
/-! ## the machine of a search -/
def mch (P : List Ins) (s : List Int) (fold : Bool) : Mc := ⟨P, s.length, fun i a => decide (a < s.length) && inW fold (igt P i) (gt s a)⟩
/-- a program that can be run -/
structure PgOk (P : List Ins) (G : Nat) : Prop where
  pos : 0 < P.length
  op : ∀ i, i < P.length → 0 ≤ (igt P i).op ∧ (igt P i).op ≤ 6
  next : ∀ i, i < P.length → (igt P i).op ≠ 6 → i + 1 < P.length
  split : ∀ i, i < P.length → (igt P i).op = 4 → 0 ≤ (igt P i).x ∧ (igt P i).x < P.length ∧ 0 ≤ (igt P i).y ∧ (igt P i).y < P.length
  jump : ∀ i, i < P.length → (igt P i).op = 5 → 0 ≤ (igt P i).x ∧ (igt P i).x < P.length
  save : ∀ i, i < P.length → (igt P i).op = 3 → 0 ≤ (igt P i).x ∧ (igt P i).x ≤ 2 * G + 1
  set : ∀ i, i < P.length → (igt P i).op = 0 → (igt P i).set.length % 2 = 0
def absS (U : List RcM) (R : List Int) (S : List PaM) : List Pa := S.reverse.map fun e => ⟨e.i, e.a, unW (U.drop e.k) R⟩
theorem absS_snoc (U : List RcM) (R : List Int) (S : List PaM) (e : PaM) : absS U R (S ++ [e]) = ⟨e.i, e.a, unW (U.drop e.k) R⟩ :: absS U R S := by simp [absS]
theorem absS_nil (U : List RcM) (R : List Int) : absS U R [] = [] := rfl
theorem absS_record {U : List RcM} {R : List Int} {S : List PaM} {s : Nat} (z : Int) (hs : s < R.length) (hS : ∀ e, e ∈ S → e.k ≤ U.length) : absS (U ++ [⟨s, gt R s⟩]) (R.set s z) S = absS U R S := by
  unfold absS
  refine List.map_congr_left fun e he => ?_
  rw [unW_snoc U R hs (hS e (by simpa using he))]
theorem absS_undo {U : List RcM} {R : List Int} {S : List PaM} {k : Nat} (hk : k ≤ U.length) (hS : ∀ e, e ∈ S → e.k ≤ k) : absS (U.take k) (unW (U.drop k) R) S = absS U R S := by
  unfold absS
  refine List.map_congr_left fun e he => ?_
  rw [unW_take U R (hS e (by simpa using he)) hk]
abbrev nN (x : Fx) : Nat := x.L.length * (x.t.length + 1)
/-- nothing recorded -/
def zz (x : Fx) : List Int := List.replicate (2 * x.G + 2) (-1)
/-- the lists of a search -/
structure Inv (x : Fx) (R : List Int) (U : List RcM) (S : List PaM) (V : List Nat) (vis : Vis) : Prop where
  Rl : R.length = 2 * x.G + 2
  Rz : ∀ z, z ∈ R → -1 ≤ z ∧ z ≤ 1000
  Us : ∀ q, q ∈ U → q.slot < R.length ∧ -1 ≤ q.before ∧ q.before ≤ 1000
  Ss : ∀ p, p ∈ S → p.i < x.L.length ∧ p.a ≤ x.t.length ∧ p.k ≤ U.length
  So : S.Pairwise fun p q => p.k ≤ q.k
  Vw : Wds V
  Vl : x.L.length * (x.t.length + 1) ≤ 64 * V.length
  Vv : ∀ i a, i < x.L.length → a ≤ x.t.length → bit V (numS x.t.length i a) = vis i a
  Zz : unW U R = zz x
  Uc : U.length + unv (x.L.length * (x.t.length + 1)) V ≤ x.L.length * (x.t.length + 1)
  Sc : S.length + unv (x.L.length * (x.t.length + 1)) V ≤ x.L.length * (x.t.length + 1) + 1
theorem Inv.word {x : Fx} {R : List Int} {U : List RcM} {S : List PaM} {V : List Nat} {vis : Vis} (h : Inv x R U S V vis) {i a : Nat} (hi : i < x.L.length) (ha : a ≤ x.t.length) : numS x.t.length i a / 64 < V.length := by
  have := num_lt hi ha
  have := h.Vl
  omega
theorem Inv.mark_old {x : Fx} {R : List Int} {U : List RcM} {S : List PaM} {V : List Nat} {vis : Vis} (h : Inv x R U S V vis) {i a : Nat} (hi : i < x.L.length) (ha : a ≤ x.t.length) (hv : vis i a = true) :
    Inv x R U S (setb V (numS x.t.length i a)) vis ∧ unv (nN x) (setb V (numS x.t.length i a)) = unv (nN x) V := by
  have hw := h.word hi ha
  have hb := h.Vv i a hi ha
  have hsame : ∀ k, bit (setb V (numS x.t.length i a)) k = bit V k := fun k => by
    rw [bit_setb hw]
    by_cases hk : k = numS x.t.length i a
    · rw [decide_eq_true hk, Bool.true_or, hk, hb, hv]
    · rw [decide_eq_false hk, Bool.false_or]
  have e := unv_same (n := nN x) fun k _ => hsame k
  refine ⟨⟨h.Rl, h.Rz, h.Us, h.Ss, h.So, setb_wds h.Vw hw, by rw [setb_len]; exact h.Vl, fun j b hj hb => by rw [hsame]; exact h.Vv j b hj hb, h.Zz, ?_, ?_⟩, e⟩
  · have := h.Uc; unfold nN at e; rw [e]; exact this
  · have := h.Sc; unfold nN at e; rw [e]; exact this
theorem Inv.mark {x : Fx} {R : List Int} {U : List RcM} {S : List PaM} {V : List Nat} {vis : Vis} (h : Inv x R U S V vis) {i a : Nat} (hi : i < x.L.length) (ha : a ≤ x.t.length) (hv : vis i a = false) :
    Inv x R U S (setb V (numS x.t.length i a)) (ReM.mark vis i a) ∧ unv (nN x) (setb V (numS x.t.length i a)) + 1 = unv (nN x) V := by
  have hw := h.word hi ha
  have hb := h.Vv i a hi ha
  have e := unv_setb hw (by rw [hb, hv]) (nN x) (num_lt hi ha)
  refine ⟨⟨h.Rl, h.Rz, h.Us, h.Ss, h.So, setb_wds h.Vw hw, by rw [setb_len]; exact h.Vl, fun j b hj hb2 => ?_, h.Zz, ?_, ?_⟩, e⟩
  · rw [bit_setb hw]
    by_cases hk : numS x.t.length j b = numS x.t.length i a
    · obtain ⟨rfl, rfl⟩ := num_inj hb2 ha hk
      rw [decide_eq_true rfl, Bool.true_or, mark_self]
    · rw [decide_eq_false hk, Bool.false_or, mark_ne (fun ⟨e1, e2⟩ => hk (by rw [e1, e2])), h.Vv j b hj hb2]
  · have := h.Uc; unfold nN at e; omega
  · have := h.Sc; unfold nN at e; omega
theorem Inv.record {x : Fx} {R : List Int} {U : List RcM} {S : List PaM} {V : List Nat} {vis : Vis} (h : Inv x R U S V vis) {s a : Nat} (hs : s < R.length) (ha : a ≤ 1000) (hc : U.length + 1 + unv (nN x) V ≤ nN x) :
    Inv x (R.set s a) (U ++ [⟨s, gt R s⟩]) S V vis := by
  refine ⟨by rw [List.length_set]; exact h.Rl, fun z hz => ?_, fun q hq => ?_, fun p hp => ?_, h.So, h.Vw, h.Vl, h.Vv, ?_, ?_, h.Sc⟩
  · rcases List.mem_or_eq_of_mem_set hz with hz | rfl
    · exact h.Rz z hz
    · omega
  · rw [List.length_set]
    rcases List.mem_append.1 hq with hq | hq
    · exact h.Us q hq
    · rw [List.mem_singleton.1 hq]
      exact ⟨hs, h.Rz _ (gt_mem hs)⟩
  · have := h.Ss p hp
    rw [List.length_append]
    exact ⟨this.1, this.2.1, by omega⟩
  · have := unW_snoc U R (k := 0) (z := (a : Int)) hs (Nat.zero_le _)
    rw [List.drop_zero, List.drop_zero] at this
    rw [this]; exact h.Zz
  · rw [List.length_append]; exact hc
theorem Inv.push {x : Fx} {R : List Int} {U : List RcM} {S : List PaM} {V : List Nat} {vis : Vis} (h : Inv x R U S V vis) {i a : Nat} (hi : i < x.L.length) (ha : a ≤ x.t.length) (hc : S.length + 1 + unv (nN x) V ≤ nN x + 1) :
    Inv x R U (S ++ [⟨i, a, U.length⟩]) V vis := by
  refine ⟨h.Rl, h.Rz, h.Us, fun p hp => ?_, ?_, h.Vw, h.Vl, h.Vv, h.Zz, h.Uc, by rw [List.length_append]; exact hc⟩
  · rcases List.mem_append.1 hp with hp | hp
    · exact h.Ss p hp
    · rw [List.mem_singleton.1 hp]; exact ⟨hi, ha, Nat.le_refl _⟩
  · rw [List.pairwise_append]
    exact ⟨h.So, by simp, fun p hp q hq => by rw [List.mem_singleton.1 hq]; exact (h.Ss p hp).2.2⟩
theorem absS_push (U : List RcM) (R : List Int) (S : List PaM) (i a : Nat) : absS U R (S ++ [⟨i, a, U.length⟩]) = ⟨i, a, R⟩ :: absS U R S := by
  rw [absS_snoc, List.drop_length]; rfl
theorem unW_rz {U : List RcM} {R : List Int} (h : ∀ z, z ∈ R → -1 ≤ z ∧ z ≤ 1000) (hU : ∀ q, q ∈ U → -1 ≤ q.before ∧ q.before ≤ 1000) : ∀ z, z ∈ unW U R → -1 ≤ z ∧ z ≤ 1000 := by
  induction U with
  | nil => exact h
  | cons q U ih =>
    intro z hz
    change z ∈ (unW U R).set q.slot q.before at hz
    rcases List.mem_or_eq_of_mem_set hz with hz | rfl
    · exact ih (fun q hq => hU q (List.mem_cons_of_mem _ hq)) z hz
    · exact hU q (by simp)
/-- the last path taken off, what was recorded undone -/
theorem Inv.pop {x : Fx} {R : List Int} {U : List RcM} {S : List PaM} {e : PaM} {V : List Nat} {vis : Vis} (h : Inv x R U (S ++ [e]) V vis) :
    Inv x (unW (U.drop e.k) R) (U.take e.k) S V vis ∧ absS (U.take e.k) (unW (U.drop e.k) R) S = absS U R S ∧ e.i < x.L.length ∧ e.a ≤ x.t.length ∧ e.k ≤ U.length := by
  obtain ⟨h1, h2, h3⟩ := h.Ss e (by simp)
  have hso := List.pairwise_append.1 h.So
  have hek : ∀ p, p ∈ S → p.k ≤ e.k := fun p hp => hso.2.2 p hp e (by simp)
  have hl : (U.take e.k).length = e.k := by simp; omega
  refine ⟨⟨by rw [unW_len]; exact h.Rl, unW_rz h.Rz fun q hq => (h.Us q (List.mem_of_mem_drop hq)).2, fun q hq => by rw [unW_len]; exact h.Us q (List.mem_of_mem_take hq), fun p hp => ?_, hso.1, h.Vw, h.Vl, h.Vv, ?_, ?_, ?_⟩, absS_undo h3 hek, h1, h2, h3⟩
  · have := h.Ss p (by simp [hp])
    rw [hl]
    exact ⟨this.1, this.2.1, hek p hp⟩
  · have := unW_take U R (Nat.zero_le e.k) h3
    rw [List.drop_zero, List.drop_zero] at this
    rw [this]; exact h.Zz
  · have := h.Uc; rw [hl]; omega
  · have := h.Sc; rw [List.length_append, List.length_singleton] at this; omega
end ReM
end Go.Proofs.YtefgjicegbhcaaaGreat
