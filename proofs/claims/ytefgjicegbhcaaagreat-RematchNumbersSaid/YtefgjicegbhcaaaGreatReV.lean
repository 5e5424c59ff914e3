/- Layer 8: a pattern in (?: ) (parse_within), two with | between (parse_alt), the depth of the parentheses of what patterns are made of (Nst, parts_nst). -/
import Derived.Test.YtefgjicegbhcaaaGreatReU
namespace Go.Proofs.YtefgjicegbhcaaaGreat
namespace ReM
/-! ## in (?: ), and with | between -/
theorem parse_ok {C : Cls} {p : List Int} {l : List Rn} {c i : Int} (h : parse C p = (l, c, i)) (hc : c = 0) (hb : ∀ c i, altP C p.length (4 * p.length + 8) p 0 0 = .bad c i → c ≠ 0) :
    ∃ g, altP C p.length (4 * p.length + 8) p 0 0 = .ok l [] g := by
  unfold parse at h
  split at h
  · rename_i c' i' e
    cases h
    exact absurd hc (hb _ _ e)
  · rename_i l' s g e
    split at h
    · cases h; exact ⟨g, e⟩
    · cases h; omega
theorem parse_is {C : Cls} {p : List Int} {l : List Rn} {g : Nat} (h : altP C p.length (4 * p.length + 8) p 0 0 = .ok l [] g) : parse C p = (l, 0, 0) := by
  unfold parse; rw [h]
theorem parse_within {C : Cls} {p : List Int} {l : List Rn} {g : Nat} (h : altP C p.length (4 * p.length + 8) p 0 0 = .ok l [] g) (hg : g ≤ 9) (hb : Bal 0 1 p) :
    parse C (40 :: 63 :: 58 :: (p ++ [41])) = (nRow :: low1 (nGroup 0) :: lower (lower l), 0, 0) := by
  generalize hq : (40 :: 63 :: 58 :: (p ++ [41]) : List Int) = q
  have hl : q.length = p.length + 4 := by subst hq; simp
  have e1 := ((all_emb C p.length q.length 0 _).1 _ _ _ _ _ _ h (by omega) [41] (Tl.tw (.inr ⟨41, [], rfl, .inl rfl⟩)) (.inr (.inr ⟨[], rfl⟩)) 1 (4 * p.length + 8 + 12) (by omega) hb).1
  rw [sh_zero, List.nil_append] at e1
  refine parse_is (g := g) ?_
  rw [show 4 * q.length + 8 = (4 * p.length + 8 + 12) + 1 + 1 + 1 + 1 by omega]
  subst hq
  simp only [altP]
  rw [rowP]
  try dsimp only
  rw [if_neg (by omega), item_def]
  rw [if_neg (by omega), if_neg (by omega), if_neg (by omega), if_pos rfl, if_neg (by omega)]
  simp only [grpP]
  simp only [Nat.zero_add, Nat.add_zero] at e1 ⊢
  rw [e1]
  simp only [reps_def, rowP]
  rfl
theorem alt_def (C : Cls) (n k : Nat) (s : List Int) (g d : Nat) : altP C n (k + 1) s g d = (match rowP C n k [] s g d with
    | .bad c i => .bad c i
    | .ok r s1 g1 => match s1 with
      | 124 :: s2 => altsP C n k (nAlt :: lower (nRow :: r)) s2 g1 d
      | _ => .ok (nRow :: r) s1 g1) := by
  unfold altP; rfl
theorem alts_def (C : Cls) (n k : Nat) (acc : List Rn) (s : List Int) (g d : Nat) : altsP C n (k + 1) acc s g d = (match rowP C n k [] s g d with
    | .bad c i => .bad c i
    | .ok r s1 g1 => match s1 with
      | 124 :: s2 => altsP C n k (acc ++ lower (nRow :: r)) s2 g1 d
      | _ => .ok (acc ++ lower (nRow :: r)) s1 g1) := by
  rw [altsP] <;> rfl
theorem alts_head {C : Cls} {n k : Nat} {acc : List Rn} {s s' : List Int} {g d g' : Nat} {l : List Rn} (h : altsP C n k (nAlt :: acc) s g d = .ok l s' g') : ∃ t, l = nAlt :: t := by
  induction k generalizing acc s g with
  | zero => simp [altsP] at h
  | succ k ih =>
    unfold altsP at h
    split at h
    · cases h
    · split at h
      · exact ih h
      · cases h; exact ⟨_, rfl⟩
theorem alt_row {C : Cls} {n k : Nat} {s s' : List Int} {g d g' : Nat} {l : List Rn} {x : Rn} (h : altP C n (k + 1) s g d = .ok (x :: l) s' g') (hx : x.kind = 0) :
    x = nRow ∧ rowP C n k [] s g d = .ok l s' g' ∧ ∀ u, s' ≠ 124 :: u := by
  unfold altP at h
  split at h
  · cases h
  · rename_i r s1 g1 hr
    split at h
    · obtain ⟨t, e⟩ := alts_head h
      injection e with e _
      subst e; simp [nAlt] at hx
    · rename_i hne
      cases h
      exact ⟨rfl, hr, hne⟩
theorem parse_alt {C : Cls} {p q : List Int} {x y : Rn} {l m : List Rn} {g g2 : Nat} (h : altP C p.length (4 * p.length + 8) p 0 0 = .ok (x :: l) [] g)
    (h2 : altP C q.length (4 * q.length + 8) q 0 0 = .ok (y :: m) [] g2) (hx : x.kind = 0) (hy : y.kind = 0) (hg : g + g2 ≤ 9) (hb : Bal 0 0 p) (hb2 : Bal 0 0 q) :
    parse C (p ++ 124 :: q) = (nAlt :: (lower (x :: l) ++ lower (sh g (y :: m))), 0, 0) := by
  generalize hz : (p ++ 124 :: q : List Int) = z
  have hl : z.length = p.length + q.length + 1 := by subst hz; simp; omega
  obtain ⟨rfl, r1, _⟩ := alt_row h hx
  obtain ⟨rfl, r2, _⟩ := alt_row h2 hy
  have e1 := ((all_emb C p.length z.length 0 _).2.2.1 _ _ _ _ _ _ _ r1 (by omega) (124 :: q) (Tl.tw (.inr ⟨124, q, rfl, .inr rfl⟩)) (.inr (.inr ⟨124, q, rfl, .inr rfl⟩)) 0 (4 * z.length + 7) (by omega) hb).1
  have e2 := ((all_emb C q.length z.length g _).2.2.1 _ _ _ _ _ _ _ r2 (by omega) [] (Tl.tw (.inl rfl)) (.inr (.inl rfl)) 0 (4 * z.length + 6) (by omega) hb2).1
  simp only [sh_zero, List.nil_append, Nat.add_zero] at e1
  rw [sh_nil, List.append_nil, List.append_nil, Nat.zero_add] at e2
  refine parse_is (g := g2 + g) ?_
  rw [hl, show 4 * (p.length + q.length + 1) + 8 = 4 * (p.length + q.length + 1) + 6 + 1 + 1 by omega, alt_def]
  rw [hl] at e1 e2
  rw [← hz]
  rw [show 4 * (p.length + q.length + 1) + 6 + 1 = 4 * (p.length + q.length + 1) + 7 from rfl, e1]
  dsimp only
  refine Eq.trans (b := altsP C (p.length + q.length + 1) (4 * (p.length + q.length + 1) + 6 + 1) (nAlt :: lower (nRow :: l)) q g 0) rfl ?_
  rw [alts_def, e2, sh_row]
  rfl
theorem gs_sh (j : Nat) (l : List Rn) : (gsL (sh j l)).length = (gsL l).length := by
  induction l with
  | nil => rfl
  | cons x l ih =>
    rw [sh_cons, gsL_cons, gsL_cons, List.length_append, List.length_append, ih]
    congr 1
    by_cases h : x.kind = 5 ∧ 0 < x.lo
    · rw [if_pos h, if_pos (by simp only [shf]; rw [if_pos h]; omega)]; rfl
    · rw [if_neg h, if_neg (by simp only [shf]; rw [if_neg h]; exact h)]
/-! ## how deep a pattern's parentheses stand -/
/-- a part of a pattern with parentheses in at most e - 1 others -/
def Nst (e : Nat) (a : List Int) : Prop := ∀ c rest, c + e ≤ 12 → Bal 0 c rest → Bal 0 c (a ++ rest)
theorem Nst.nil (e : Nat) : Nst e [] := fun _ _ _ h => h
theorem Nst.app {e : Nat} {a b : List Int} (ha : Nst e a) (hb : Nst e b) : Nst e (a ++ b) := fun c rest h k => by
  rw [List.append_assoc]; exact ha c _ h (hb c _ h k)
theorem Nst.mono {e f : Nat} {a : List Int} (h : Nst e a) (k : e ≤ f) : Nst f a := fun c rest i => h c rest (by omega)
theorem Nst.one {e : Nat} {r : Int} (h : r ≠ 92 ∧ r ≠ 91 ∧ r ≠ 40 ∧ r ≠ 41) : Nst e [r] := fun c rest _ k => by
  simp [Bal, h.1, h.2.1, h.2.2.1, h.2.2.2, k]
theorem Nst.group {e : Nat} {a : List Int} (h : Nst e a) : Nst (e + 1) (40 :: (a ++ [41])) := fun c rest i k => by
  rw [List.cons_append, List.append_assoc]
  have : Bal 0 (c + 1) (a ++ ([41] ++ rest)) := h (c + 1) _ (by omega) (by simpa [Bal] using k)
  simpa [Bal] using ⟨by omega, this⟩
theorem Nst.free {e : Nat} {a : List Int} (h : Nst e a) : Nst (e + 1) (40 :: 63 :: 58 :: (a ++ [41])) := fun c rest i k => by
  simp only [List.cons_append, List.append_assoc]
  have : Bal 0 (c + 1) (a ++ ([41] ++ rest)) := h (c + 1) _ (by omega) (by simpa [Bal] using k)
  simpa [Bal] using ⟨by omega, this⟩
theorem Nst.bal {e c : Nat} {a : List Int} (h : Nst e a) (k : c + e ≤ 12) : Bal 0 c a := by
  have := h c [] k trivial
  rwa [List.append_nil] at this
/-- the parts that patterns are made of -/
def partsA : List (List Int) := [[97], [98], [99], [46], [95], [65], [32]]
def partsB : List (List Int) := [[92, 119], [92, 100], [92, 115], [91, 97, 98, 99, 93], [91, 94, 97, 45, 98, 93], [91, 92, 119, 45, 93], [92, 46], [92, 87], [91, 97, 45, 93]]
def partsC : List (List Int) := [[94], [36], [], []]
def partsD : List (List Int) := [[97], [98], [40, 99, 41], [40, 97, 41]]
def partsE : List (List Int) := [[], [], [42], [43], [63], [42, 63], [123, 49, 44, 50, 125], [123, 50, 125], [123, 48, 44, 125, 63]]
theorem parts_nst {a : List Int} (h : a ∈ partsA ++ partsB ++ partsC ++ partsD ++ partsE) : Nst 1 a := by
  intro c rest hc k
  simp [partsA, partsB, partsC, partsD, partsE] at h
  rcases h with rfl | rfl | rfl | rfl | rfl | rfl | rfl | rfl | rfl | rfl | rfl | rfl | rfl | rfl | rfl | rfl | rfl | rfl | rfl | rfl | rfl | rfl | rfl | rfl | rfl | rfl | rfl | rfl | rfl | rfl | rfl | rfl | rfl <;>
    simp [Bal, k] <;> omega
end ReM
end Go.Proofs.YtefgjicegbhcaaaGreat
