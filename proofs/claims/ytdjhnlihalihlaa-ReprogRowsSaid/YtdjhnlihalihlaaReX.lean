/- Layers 8, 9: two rows put together (row_acc, row_join, parse_join). -/
import Derived.Test.YtdjhnlihalihlaaReV
namespace Go.Proofs.Ytdjhnlihalihlaa
namespace ReM
/-! ## two rows put together -/
theorem row_acc {C : Cls} {n k : Nat} {acc l : List Rn} {s s' : List Int} {g d g' : Nat} (h : rowP C n k acc s g d = .ok l s' g') :
    ∃ m, l = acc ++ m ∧ ∀ acc2, rowP C n k acc2 s g d = .ok (acc2 ++ m) s' g' := by
  induction k generalizing acc s g with
  | zero => simp [rowP] at h
  | succ k ih =>
    unfold rowP at h
    split at h
    · cases h
      exact ⟨[], by simp, fun acc2 => by simp [rowP]⟩
    · split at h
      · rename_i hr
        cases h
        exact ⟨[], by simp, fun acc2 => by simp [rowP, hr]⟩
      · rename_i hr
        split at h
        · cases h
        · rename_i it s1 g1 hi
          obtain ⟨m, h1, h2⟩ := ih h
          refine ⟨lower it ++ m, by rw [h1, List.append_assoc], fun acc2 => ?_⟩
          rw [← List.append_assoc, ← h2]
          simp only [rowP]; rw [if_neg hr, hi]
theorem row_join {C : Cls} {n n2 k : Nat} {acc l : List Rn} {p : List Int} {g d g1 : Nat} (h : rowP C n k acc p g d = .ok l [] g1) (hg : g1 ≤ 9) {q : List Int} (hq : Tw q) {d2 : Nat} (hb : Bal 0 d2 p) :
    ∃ i, i ≤ p.length ∧ ∀ k2, k ≤ k2 → rowP C n2 k2 acc (p ++ q) g d2 = rowP C n2 (k2 - i) l q g1 d2 := by
  induction k generalizing acc p g with
  | zero => simp [rowP] at h
  | succ k ih =>
    unfold rowP at h
    split at h
    · cases h
      exact ⟨0, by omega, fun k2 _ => by rw [List.nil_append]; rfl⟩
    · split at h
      · cases h
      · rename_i hr
        split at h
        · cases h
        · rename_i r s0 _ it s1 gi hi
          have hm := ((all_gs C n k).2.2.1 _ _ _ _ _ _ _ h).1
          obtain ⟨e1, e2⟩ := (all_emb C n n2 0 k).2.2.2.1 _ _ _ _ _ _ hi (fun e => hr (.inr e)) (by omega) q hq d2 k (Nat.le_refl _) hb
          obtain ⟨i, hik, h2⟩ := ih h e2
          have hlen := (all_len C n k).2.2.2.1 _ _ _ _ _ _ hi
          refine ⟨i + 1, by omega, fun k2 hk2 => ?_⟩
          obtain ⟨k2, rfl⟩ : ∃ x, k2 = x + 1 := ⟨k2 - 1, by omega⟩
          rw [show k2 + 1 - (i + 1) = k2 - i by omega, ← h2 k2 (by omega)]
          obtain ⟨e1, _⟩ := (all_emb C n n2 0 k).2.2.2.1 _ _ _ _ _ _ hi (fun e => hr (.inr e)) (by omega) q hq d2 k2 (by omega) hb
          rw [sh_zero, Nat.add_zero, Nat.add_zero] at e1
          simp only [List.cons_append] at e1 ⊢
          rw [rowP]
          simp only [hr, if_false, e1]
theorem parse_join {C : Cls} {p q : List Int} {x y : Rn} {l m : List Rn} {g g2 : Nat} (h : altP C p.length (4 * p.length + 8) p 0 0 = .ok (x :: l) [] g)
    (h2 : altP C q.length (4 * q.length + 8) q 0 0 = .ok (y :: m) [] g2) (hx : x.kind = 0) (hy : y.kind = 0) (hg : g + g2 ≤ 9) (hb : Bal 0 0 p) (hb2 : Bal 0 0 q) (hq : Tw q) :
    altP C (p ++ q).length (4 * (p ++ q).length + 8) (p ++ q) 0 0 = .ok (nRow :: (l ++ sh g m)) [] (g + g2) := by
  obtain ⟨rfl, r1, _⟩ := alt_row h hx
  obtain ⟨rfl, r2, _⟩ := alt_row h2 hy
  by_cases hq0 : q = []
  · subst hq0
    have : m = [] ∧ g2 = 0 := by
      simp [rowP] at r2
      exact ⟨r2.1, r2.2.symm⟩
    obtain ⟨rfl, rfl⟩ := this
    rw [sh_nil, List.append_nil, List.append_nil, Nat.add_zero]; exact h
  by_cases hp0 : p = []
  · subst hp0
    have : l = [] ∧ g = 0 := by
      simp [rowP] at r1
      exact ⟨r1.1, r1.2.symm⟩
    obtain ⟨rfl, rfl⟩ := this
    rw [sh_zero, List.nil_append, List.nil_append, Nat.zero_add]; exact h2
  have hql : 0 < q.length := List.length_pos_iff.2 hq0
  have hpl : 0 < p.length := List.length_pos_iff.2 hp0
  obtain ⟨i, hik, hj⟩ := row_join (n2 := (p ++ q).length) r1 (by omega) hq hb
  have hl : (p ++ q).length = p.length + q.length := by simp
  rw [show 4 * (p ++ q).length + 8 = 4 * (p ++ q).length + 7 + 1 from rfl, alt_def, hj _ (by omega)]
  obtain ⟨m', e0, e2⟩ := row_acc r2
  rw [List.nil_append] at e0
  subst e0
  have e3 := ((all_emb C q.length (p ++ q).length g _).2.2.1 _ _ _ _ _ _ _ (e2 []) (by omega) [] (Tl.tw (.inl rfl)) (.inr (.inl rfl)) 0 (4 * (p ++ q).length + 7 - i) (by rw [hl]; omega) hb2).1
  rw [sh_nil, List.append_nil, List.append_nil, List.nil_append, Nat.zero_add] at e3
  obtain ⟨m2, e4, e5⟩ := row_acc e3
  rw [List.nil_append] at e4
  subst e4
  rw [e5, Nat.add_comm g2 g]
end ReM
end Go.Proofs.Ytdjhnlihalihlaa
