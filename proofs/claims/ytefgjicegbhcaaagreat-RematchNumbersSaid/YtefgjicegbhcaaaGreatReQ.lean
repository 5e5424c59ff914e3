/- Layer 8: trees by their depths (NodAt), the nodes in a node (kidsN, NodAt.kids), steps (Steps), the groups in order (gs_at), the whole (parse_tree). -/
import Derived.Test.YtefgjicegbhcaaaGreatReP
namespace Go.Proofs.YtefgjicegbhcaaaGreat
namespace ReM
/-! ## trees by their depths -/
inductive NodAt : Int → List Rn → Prop where
  | mk (d : Int) (x : Rn) (cs : List (List Rn)) : x.deep = d → (∀ c, c ∈ cs → NodAt (d + 1) c) → Loc x cs.length → NodAt d (x :: cs.flatten)
theorem loc_low {x : Rn} {m : Nat} (h : Loc x m) : Loc (low1 x) m := h
theorem NodAt.lower {d : Int} {l : List Rn} (h : NodAt d l) : NodAt (d + 1) (lower l) := by
  induction h with
  | mk d x cs hx _ hl ih =>
    have e : ReM.lower (x :: cs.flatten) = low1 x :: (cs.map ReM.lower).flatten := by simp [ReM.lower, List.map_flatten]; rfl
    rw [e]
    refine .mk (d + 1) (low1 x) _ (by simp [low1, hx]) (fun c hc => ?_) (by simpa using loc_low hl)
    obtain ⟨c', h1, rfl⟩ := List.mem_map.1 hc
    exact ih c' h1
theorem Nod.at0 {l : List Rn} (h : Nod l) : NodAt 0 l := by
  induction h with
  | mk x cs hx _ hl ih =>
    refine .mk 0 x _ hx (fun c hc => ?_) (by simpa using hl)
    obtain ⟨c', h1, rfl⟩ := List.mem_map.1 hc
    exact (ih c' h1).lower
theorem NodAt.head {d : Int} {l : List Rn} (h : NodAt d l) : ∃ x t, l = x :: t ∧ x.deep = d ∧ ∀ y, y ∈ t → d < y.deep := by
  induction h with
  | mk d x cs hx _ hl ih =>
    refine ⟨x, _, rfl, hx, fun y hy => ?_⟩
    obtain ⟨c, hc, hy⟩ := List.mem_flatten.1 hy
    obtain ⟨z, t, rfl, h1, h2⟩ := ih c hc
    rcases List.mem_cons.1 hy with rfl | hy
    · omega
    · have := h2 y hy; omega
/-- how many nodes stand directly in a node of depth d that these follow -/
def kidsN (d : Int) (l : List Rn) : Nat := ((l.takeWhile fun x => decide (d < x.deep)).filter fun x => decide (x.deep = d + 1)).length
def Ends (d : Int) (l : List Rn) : Prop := ∀ y t, l = y :: t → y.deep ≤ d
theorem Ends.nil (d : Int) : Ends d [] := fun y t h => by cases h
theorem take_flat {d : Int} {cs : List (List Rn)} {rest : List Rn} (h : ∀ c, c ∈ cs → NodAt (d + 1) c) (hr : Ends d rest) :
    ((cs.flatten ++ rest).takeWhile fun x => decide (d < x.deep)) = cs.flatten := by
  have hall : ∀ y, y ∈ cs.flatten → decide (d < y.deep) = true := fun y hy => by
    obtain ⟨c, hc, hy⟩ := List.mem_flatten.1 hy
    obtain ⟨z, t, rfl, h1, h2⟩ := (h c hc).head
    rcases List.mem_cons.1 hy with rfl | hy
    · simp; omega
    · have := h2 y hy; simp; omega
  rw [List.takeWhile_append_of_pos hall]
  cases rest with
  | nil => simp
  | cons y t => have := hr y t rfl; rw [List.takeWhile_cons_of_neg (by simp; omega), List.append_nil]
theorem kids_flat {d : Int} {cs : List (List Rn)} (h : ∀ c, c ∈ cs → NodAt (d + 1) c) :
    (cs.flatten.filter fun x => decide (x.deep = d + 1)).length = cs.length := by
  induction cs with
  | nil => rfl
  | cons c cs ih =>
    obtain ⟨z, t, rfl, h1, h2⟩ := (h c (by simp)).head
    have e : (t.filter fun x => decide (x.deep = d + 1)) = [] := by
      rw [List.filter_eq_nil_iff]; intro y hy; have := h2 y hy; simp; omega
    rw [List.flatten_cons, List.filter_append, List.length_append, ih (fun c hc => h c (by simp [hc])), List.filter_cons_of_pos (by simp [h1]), e]
    simp; omega
theorem flat_split {cs : List (List Rn)} {a t : List Rn} {x : Rn} (h : cs.flatten = a ++ x :: t) :
    ∃ c ds a' t', (∃ bs, cs = bs ++ c :: ds) ∧ c = a' ++ x :: t' ∧ t = t' ++ ds.flatten := by
  induction cs generalizing a with
  | nil => simp at h
  | cons c cs ih =>
    rw [List.flatten_cons] at h
    rcases List.append_eq_append_iff.1 h with ⟨a', rfl, h2⟩ | ⟨c', rfl, h2⟩
    · obtain ⟨e, ds, a2, t2, ⟨bs, rfl⟩, h4, h5⟩ := ih h2
      exact ⟨e, ds, a2, t2, ⟨c :: bs, rfl⟩, h4, h5⟩
    · cases c' with
      | nil =>
        obtain ⟨e, ds, a2, t2, ⟨bs, rfl⟩, h4, h5⟩ := ih (a := []) (by simpa using h2.symm)
        exact ⟨e, ds, a2, t2, ⟨_ :: bs, rfl⟩, h4, h5⟩
      | cons y c' =>
        rw [List.cons_append] at h2
        injection h2 with h3 h4
        exact ⟨_, cs, a, c', ⟨[], rfl⟩, by rw [h3], h4⟩
theorem ends_flat {d : Int} {cs : List (List Rn)} {rest : List Rn} (h : ∀ c, c ∈ cs → NodAt d c) (hr : Ends d rest) : Ends d (cs.flatten ++ rest) := by
  cases cs with
  | nil => exact hr
  | cons c cs =>
    obtain ⟨z, t, rfl, h1, _⟩ := (h c (by simp)).head
    intro y u hy
    simp at hy
    obtain ⟨rfl, _⟩ := hy
    omega
/-- each node holds what its kind asks -/
theorem NodAt.kids {d : Int} {l : List Rn} (h : NodAt d l) : ∀ rest, Ends d rest → ∀ a x t, l = a ++ x :: t → Loc x (kidsN x.deep (t ++ rest)) := by
  induction h with
  | mk d x cs hx hc hl ih =>
    intro rest hr a y t e
    cases a with
    | nil =>
      rw [List.nil_append] at e
      injection e with e1 e2
      subst e1 e2
      rw [kidsN, hx, take_flat hc hr, kids_flat hc]; exact hl
    | cons z a =>
      rw [List.cons_append] at e
      injection e with _ e2
      obtain ⟨c, ds, a', t', ⟨bs, rfl⟩, h4, rfl⟩ := flat_split e2
      rw [List.append_assoc]
      have hds : ∀ e, e ∈ ds → NodAt (d + 1) e := fun e he => hc e (by simp [he])
      refine ih c (by simp) (ds.flatten ++ rest) (ends_flat hds (fun y u hy => ?_)) a' y t' h4
      have := hr y u hy; omega
/-- each node is at most one deeper than the one ahead -/
def Steps : Int → List Rn → Prop
  | _, [] => True
  | p, y :: t => y.deep ≤ p + 1 ∧ Steps y.deep t
theorem NodAt.steps {d : Int} {l : List Rn} (h : NodAt d l) : ∀ p rest, d ≤ p + 1 → (∀ q, d ≤ q → Steps q rest) → Steps p (l ++ rest) := by
  induction h with
  | mk d x cs hx hc hl ih =>
    intro p rest hp hr
    rw [List.cons_append]
    refine ⟨by omega, ?_⟩
    rw [hx]
    clear hl hp
    have : ∀ (cs : List (List Rn)) q, d ≤ q → (∀ c, c ∈ cs → ∀ p rest, d + 1 ≤ p + 1 → (∀ q, d + 1 ≤ q → Steps q rest) → Steps p (c ++ rest)) → Steps q (cs.flatten ++ rest) := by
      intro cs
      induction cs with
      | nil => intro q hq _; exact hr q hq
      | cons c cs jh =>
        intro q hq hk
        rw [List.flatten_cons, List.append_assoc]
        exact hk c (by simp) q _ (by omega) (fun q' hq' => jh q' (by omega) (fun c hc => hk c (by simp [hc])))
    exact this cs d (Int.le_refl _) ih
theorem Steps.at {p : Int} {l : List Rn} (h : Steps p l) {a t : List Rn} {x y : Rn} (e : l = a ++ x :: y :: t) : y.deep ≤ x.deep + 1 := by
  induction a generalizing p l with
  | nil => subst e; exact h.2.1
  | cons z a ih => subst e; exact ih h.2 rfl
/-! ## the groups' numbers -/
theorem upto_get {g : Nat} {a : List Int} {r : List Int} {v : Int} (h : a ++ v :: r = upto 0 g) : v = a.length + 1 ∧ a.length < g := by
  have hl : (upto 0 g).length = g := by simp [upto]
  have h1 : a.length < g := by rw [← hl, ← h]; simp
  have h2 : (upto 0 g)[a.length]? = some v := by rw [← h]; simp
  refine ⟨?_, h1⟩
  rw [upto] at h2
  simp only [List.getElem?_map] at h2
  rw [List.getElem?_range (by omega)] at h2
  simp at h2; omega
theorem gs_at {l a t : List Rn} {x : Rn} {g : Nat} (h : gsL l = upto 0 g) (e : l = a ++ x :: t) (hk : x.kind = 5) (hp : 0 < x.lo) : x.lo = (gsL a).length + 1 := by
  subst e
  rw [gsL_app, gsL_cons, if_pos ⟨hk, hp⟩] at h
  exact (upto_get h).1
theorem gs_len {l : List Rn} {g : Nat} (h : gsL l = upto 0 g) : (gsL l).length = g := by rw [h]; simp [upto]
/-- the whole -/
theorem parse_tree {C : Cls} {p : List Int} {l : List Rn} {c i : Int} (h : parse C p = (l, c, i)) (hc : c = 0) (hb : ∀ c i, altP C p.length (4 * p.length + 8) p 0 0 = .bad c i → c ≠ 0) :
    NodAt 0 l ∧ (∃ x t, l = x :: t ∧ (x = nRow ∨ x = nAlt)) ∧ ∃ g, gsL l = upto 0 g := by
  unfold parse at h
  split at h
  · rename_i c' i' e
    cases h
    exact absurd hc (hb _ _ e)
  · rename_i l' s g e
    split at h
    · cases h
      have h1 := (all_nod C p.length _).1 _ _ _ _ _ _ e
      exact ⟨h1.1.at0, h1.2, g, ((all_gs C p.length _).1 _ _ _ _ _ _ e).2⟩
    · cases h; omega
end ReM
end Go.Proofs.YtefgjicegbhcaaaGreat
