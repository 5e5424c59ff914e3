/- Layer 7 as plain functions: marks by order, treaps, how deep a mark lies. -/
import Derived.Test.YtaondjklclpdkaaCore
namespace Go.Proofs.Ytaondjklclpdkaa
open Go.RowKit

structure Mk where
  id : Int
  fr : Int
  to : Int
  pr : Int
deriving DecidableEq
/-- by order -/
def ahd (a b : Mk) : Prop := a.fr < b.fr ∨ (a.fr = b.fr ∧ (b.to < a.to ∨ (a.to = b.to ∧ a.id < b.id)))
/-- above -/
def ovr (a b : Mk) : Prop := b.pr < a.pr ∨ (a.pr = b.pr ∧ a.id < b.id)
instance (a b : Mk) : Decidable (ahd a b) := by unfold ahd; infer_instance
instance (a b : Mk) : Decidable (ovr a b) := by unfold ovr; infer_instance
theorem ovr_asymm {a b : Mk} (h : ovr a b) : ¬ ovr b a := by unfold ovr at *; omega
theorem ovr_trans {a b c : Mk} (h : ovr a b) (k : ovr b c) : ovr a c := by unfold ovr at *; omega
theorem ovr_total {a b : Mk} (h : a.id ≠ b.id) : ovr a b ∨ ovr b a := by unfold ovr; omega
theorem ahd_asymm {a b : Mk} (h : ahd a b) : ¬ ahd b a := by unfold ahd at *; omega
theorem ahd_trans {a b c : Mk} (h : ahd a b) (k : ahd b c) : ahd a c := by unfold ahd at *; omega
theorem ahd_total {a b : Mk} (h : a.id ≠ b.id) : ahd a b ∨ ahd b a := by unfold ahd; omega

inductive Tr where
  | nil : Tr
  | node : Tr → Mk → Tr → Tr
def Tr.ord : Tr → List Mk
  | .nil => []
  | .node l m r => l.ord ++ m :: r.ord
def Tr.heap : Tr → Prop
  | .nil => True
  | .node l m r => (∀ x, x ∈ l.ord → ovr m x) ∧ (∀ x, x ∈ r.ord → ovr m x) ∧ l.heap ∧ r.heap
theorem app_cut {A A' B B' : List Mk} {m : Mk} (h : A ++ m :: B = A' ++ m :: B') (hA : m ∉ A) (hA' : m ∉ A') : A = A' ∧ B = B' := by
  induction A generalizing A' with
  | nil =>
    cases A' with
    | nil => simpa using h
    | cons x A' =>
      simp only [List.nil_append, List.cons_append, List.cons.injEq] at h
      exact absurd (by rw [← h.1]; simp) hA'
  | cons x A ih =>
    cases A' with
    | nil =>
      simp only [List.nil_append, List.cons_append, List.cons.injEq] at h
      exact absurd (by rw [h.1]; simp) hA
    | cons y A' =>
      simp only [List.cons_append, List.cons.injEq] at h
      obtain ⟨rfl, h⟩ := h
      have := ih h (fun hm => hA (by simp [hm])) (fun hm => hA' (by simp [hm]))
      exact ⟨by rw [this.1], this.2⟩
theorem top_out {l r : Tr} {m : Mk} (h : (Tr.node l m r).heap) : m ∉ l.ord ∧ m ∉ r.ord :=
  ⟨fun hm => ovr_asymm (h.1 _ hm) (h.1 _ hm), fun hm => ovr_asymm (h.2.1 _ hm) (h.2.1 _ hm)⟩
/-- one treap for each row of marks -/
theorem tr_one {t u : Tr} (ht : t.heap) (hu : u.heap) (he : t.ord = u.ord) : t = u := by
  induction t generalizing u with
  | nil =>
    cases u with
    | nil => rfl
    | node l m r => simp [Tr.ord] at he
  | node l m r ihl ihr =>
    cases u with
    | nil => simp [Tr.ord] at he
    | node l' m' r' =>
      have e : m = m' := by
        have h1 : m ∈ (Tr.node l' m' r').ord := by rw [← he]; simp [Tr.ord]
        have h2 : m' ∈ (Tr.node l m r).ord := by rw [he]; simp [Tr.ord]
        simp only [Tr.ord, List.mem_append, List.mem_cons] at h1 h2
        rcases h1 with h1 | h1 | h1
        · rcases h2 with h2 | h2 | h2
          · exact absurd (hu.1 _ h1) (ovr_asymm (ht.1 _ h2))
          · exact h2.symm
          · exact absurd (hu.1 _ h1) (ovr_asymm (ht.2.1 _ h2))
        · exact h1
        · rcases h2 with h2 | h2 | h2
          · exact absurd (hu.2.1 _ h1) (ovr_asymm (ht.1 _ h2))
          · exact h2.symm
          · exact absurd (hu.2.1 _ h1) (ovr_asymm (ht.2.1 _ h2))
      subst e
      obtain ⟨e1, e2⟩ := app_cut (by simpa [Tr.ord] using he) (top_out ht).1 (top_out hu).1
      rw [ihl ht.2.2.1 hu.2.2.1 e1, ihr ht.2.2.2 hu.2.2.2 e2]

/-! ## how deep -/
/-- the marks of a row that lie above all that came before -/
def recs : List Mk → Mk → Nat
  | [], _ => 0
  | x :: l, top => if ovr x top then recs l x + 1 else recs l top
def lrec : List Mk → Mk → Mk
  | [], top => top
  | x :: l, top => if ovr x top then lrec l x else lrec l top
theorem recs_app (X Y : List Mk) (top : Mk) : recs (X ++ Y) top = recs X top + recs Y (lrec X top) := by
  induction X generalizing top with
  | nil => simp [recs, lrec]
  | cons x X ih =>
    simp only [List.cons_append, recs, lrec]
    split
    · rw [ih]; omega
    · rw [ih]
theorem lrec_mem (X : List Mk) (top : Mk) : lrec X top = top ∨ lrec X top ∈ X := by
  induction X generalizing top with
  | nil => exact .inl rfl
  | cons x X ih =>
    simp only [lrec]
    split
    · rcases ih x with h | h
      · right; rw [h]; simp
      · right; simp [h]
    · rcases ih top with h | h
      · exact .inl h
      · right; simp [h]
theorem recs_none {X : List Mk} {top : Mk} (h : ∀ x, x ∈ X → ovr top x) : recs X top = 0 := by
  induction X with
  | nil => rfl
  | cons x X ih =>
    simp only [recs]
    rw [if_neg (ovr_asymm (h x (by simp)))]
    exact ih fun y hy => h y (by simp [hy])
def Tr.dep (i : Int) : Tr → Nat
  | .nil => 0
  | .node l m r => if m.id = i then 1 else if 0 < l.dep i then l.dep i + 1 else if 0 < r.dep i then r.dep i + 1 else 0
theorem dep_out {t : Tr} {i : Int} (h : ∀ x, x ∈ t.ord → x.id ≠ i) : t.dep i = 0 := by
  induction t with
  | nil => rfl
  | node l m r ihl ihr =>
    simp only [Tr.ord, List.mem_append, List.mem_cons] at h
    simp only [Tr.dep]
    rw [if_neg (h m (.inr (.inl rfl))), ihl fun x hx => h x (.inl hx), ihr fun x hx => h x (.inr (.inr hx))]
    simp
theorem split_at {A B L R : List Mk} {x m : Mk} (h : A ++ x :: B = L ++ m :: R) : (x = m ∧ A = L ∧ B = R) ∨ (∃ B', L = A ++ x :: B' ∧ B = B' ++ m :: R) ∨ (∃ A', R = A' ++ x :: B ∧ A = L ++ m :: A') := by
  induction A generalizing L with
  | nil =>
    cases L with
    | nil => simp only [List.nil_append, List.cons.injEq] at h; exact .inl ⟨h.1, rfl, h.2⟩
    | cons y L =>
      simp only [List.nil_append, List.cons_append, List.cons.injEq] at h
      obtain ⟨rfl, h⟩ := h
      exact .inr (.inl ⟨L, by simp, h⟩)
  | cons a A ih =>
    cases L with
    | nil =>
      simp only [List.nil_append, List.cons_append, List.cons.injEq] at h
      obtain ⟨rfl, h⟩ := h
      exact .inr (.inr ⟨A, h.symm, by simp⟩)
    | cons y L =>
      simp only [List.cons_append, List.cons.injEq] at h
      obtain ⟨rfl, h⟩ := h
      rcases ih h with ⟨h1, h2, h3⟩ | ⟨B', h1, h2⟩ | ⟨A', h1, h2⟩
      · exact .inl ⟨h1, by rw [h2], h3⟩
      · exact .inr (.inl ⟨B', by rw [h1]; simp, h2⟩)
      · exact .inr (.inr ⟨A', h1, by rw [h2]; simp⟩)
/-- a mark's depth is told by the row alone -/
theorem dep_recs {t : Tr} (ht : t.heap) (hn : t.ord.Pairwise fun a b => a.id ≠ b.id) {A B : List Mk} {x : Mk} (he : t.ord = A ++ x :: B) : t.dep x.id = 1 + recs A.reverse x + recs B x := by
  induction t generalizing A B with
  | nil => simp [Tr.ord] at he
  | node l m r ihl ihr =>
    obtain ⟨h1, h2, hl, hr⟩ := ht
    have hn' := hn
    rw [Tr.ord, List.pairwise_append, List.pairwise_cons] at hn'
    obtain ⟨nl, ⟨nm, nr⟩, nlr⟩ := hn'
    rcases split_at (A := A) (B := B) (L := l.ord) (R := r.ord) (x := x) (m := m) (by rw [← he]; rfl) with ⟨rfl, rfl, rfl⟩ | ⟨B', e1, rfl⟩ | ⟨A', e1, rfl⟩
    · simp only [Tr.dep, if_true]
      rw [recs_none (fun y hy => h1 y (by simpa using hy)), recs_none h2]
    · have hx : x ∈ l.ord := by rw [e1]; simp
      have hd := ihl hl nl e1
      have hne : m.id ≠ x.id := (nlr x hx m (by simp)).symm
      simp only [Tr.dep]
      rw [if_neg hne, if_pos (by omega), hd, recs_app]
      have hm : ovr m (lrec B' x) := by
        rcases lrec_mem B' x with h | h
        · rw [h]; exact h1 x hx
        · exact h1 _ (by rw [e1]; simp [h])
      simp only [recs]
      rw [if_pos hm, recs_none h2]
      omega
    · have hx : x ∈ r.ord := by rw [e1]; simp
      have hd := ihr hr nr e1
      have hne : m.id ≠ x.id := nm x hx
      have h0 : l.dep x.id = 0 := dep_out fun y hy => nlr y hy x (by simp [hx])
      simp only [Tr.dep]
      rw [if_neg hne, h0, if_neg (by omega), if_pos (by omega), hd, List.reverse_append, List.reverse_cons, List.append_assoc, recs_app]
      have hm : ovr m (lrec A'.reverse x) := by
        rcases lrec_mem A'.reverse x with h | h
        · rw [h]; exact h2 x hx
        · exact h2 _ (by rw [e1]; simp at h; simp [h])
      simp only [List.cons_append, List.nil_append, recs]
      rw [if_pos hm, recs_none (fun y hy => h1 y (by simpa using hy))]
      omega
end Go.Proofs.Ytaondjklclpdkaa
