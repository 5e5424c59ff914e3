/- Layer 9: two patterns put together: their readings agree (all_two), the code of both is one's behind the other's (rows_code). The document's SameInst: lists of instructions that read alike are told to be the same. ReprogRows: the walk. -/
import Derived.Test.YtdjhnlihalihlaaNob
import Derived.Test.YtdjhnlihalihlaaPgC
import Derived.Test.YtdjhnlihalihlaaPlc
import Derived.Test.YtdjhnlihalihlaaRsm
import Derived.Deep.CutBlock
import Derived.Deep.DeepCutAuto
import Derived.Deep.RegionHeld3
namespace Go.Proofs.Ytdjhnlihalihlaa
open Go.RowKit ReM
namespace ReM
/-! ## what is read does not hang on the groups ahead -/
theorem fin_two {a a2 l l2 : List Rn} {g h g' h' : Nat} {lo hi : Int} {s s' s2 : List Int} (h1 : finR a g lo hi s = .ok l s' g') (h2 : finR a2 h lo hi s = .ok l2 s2 h') : s2 = s' ∧ g' = g ∧ h' = h := by
  unfold finR at h1 h2
  split at h1
  · cases h1; cases h2; exact ⟨rfl, rfl, rfl⟩
  · rename_i hne
    cases h1
    split at h2
    · exact absurd rfl (hne _)
    · cases h2; exact ⟨rfl, rfl, rfl⟩
theorem reps_two {n : Nat} {a a2 l l2 : List Rn} {g h g' h' : Nat} {s s' s2 : List Int} (h1 : reps n a s g = .ok l s' g') (h2 : reps n a2 s h = .ok l2 s2 h') : s2 = s' ∧ g' = g ∧ h' = h := by
  rw [reps_def] at h1 h2
  split at h1
  · exact fin_two h1 h2
  · exact fin_two h1 h2
  · exact fin_two h1 h2
  · split at h1
    · rename_i ht
      simp only [ht] at h2
      exact fin_two h1 h2
    · cases h1
  · rename_i e1 e2 e3 e4
    cases h1
    split at h2
    · exact absurd rfl (e1 _)
    · exact absurd rfl (e2 _)
    · exact absurd rfl (e3 _)
    · exact absurd rfl (e4 _)
    · cases h2; exact ⟨rfl, rfl, rfl⟩
theorem all_two (C : Cls) (n : Nat) (k : Nat) :
    (∀ s g h d l s' g' l2 s2 h', altP C n k s g d = .ok l s' g' → altP C n k s h d = .ok l2 s2 h' → s2 = s' ∧ g' + h = h' + g) ∧
    (∀ acc ac2 s g h d l s' g' l2 s2 h', altsP C n k acc s g d = .ok l s' g' → altsP C n k ac2 s h d = .ok l2 s2 h' → s2 = s' ∧ g' + h = h' + g) ∧
    (∀ acc ac2 s g h d l s' g' l2 s2 h', rowP C n k acc s g d = .ok l s' g' → rowP C n k ac2 s h d = .ok l2 s2 h' → s2 = s' ∧ g' + h = h' + g) ∧
    (∀ s g h d l s' g' l2 s2 h', itemP C n k s g d = .ok l s' g' → itemP C n k s h d = .ok l2 s2 h' → s2 = s' ∧ g' + h = h' + g) ∧
    (∀ no no2 s g h d l s' g' l2 s2 h', grpP C n k no s g d = .ok l s' g' → grpP C n k no2 s h d = .ok l2 s2 h' → s2 = s' ∧ g' + h = h' + g) := by
  induction k with
  | zero =>
    refine ⟨?_, ?_, ?_, ?_, ?_⟩ <;> (intros; rename_i h _; simp [altP, altsP, rowP, itemP, grpP] at h)
  | succ k ih =>
    obtain ⟨iA, iB, iR, iI, iG⟩ := ih
    refine ⟨?_, ?_, ?_, ?_, ?_⟩
    · intro s g h d l s' g' l2 s2 h' e1 e2
      unfold altP at e1 e2
      split at e1
      · cases e1
      · rename_i r s1 g1 hr
        split at e2
        · cases e2
        · rename_i r2 s12 g12 hr2
          obtain ⟨rfl, hg⟩ := iR _ _ _ _ _ _ _ _ _ _ _ _ hr hr2
          split at e1
          · obtain ⟨q1, q2⟩ := iB _ _ _ _ _ _ _ _ _ _ _ _ e1 e2
            exact ⟨q1, by omega⟩
          · rename_i hne
            cases e1
            split at e2
            · exact absurd rfl (hne _)
            · cases e2; exact ⟨rfl, hg⟩
    · intro acc ac2 s g h d l s' g' l2 s2 h' e1 e2
      unfold altsP at e1 e2
      split at e1
      · cases e1
      · rename_i r s1 g1 hr
        split at e2
        · cases e2
        · rename_i r2 s12 g12 hr2
          obtain ⟨rfl, hg⟩ := iR _ _ _ _ _ _ _ _ _ _ _ _ hr hr2
          split at e1
          · obtain ⟨q1, q2⟩ := iB _ _ _ _ _ _ _ _ _ _ _ _ e1 e2
            exact ⟨q1, by omega⟩
          · rename_i hne
            cases e1
            split at e2
            · exact absurd rfl (hne _)
            · cases e2; exact ⟨rfl, hg⟩
    · intro acc ac2 s g h d l s' g' l2 s2 h' e1 e2
      unfold rowP at e1 e2
      split at e1
      · cases e1; cases e2; exact ⟨rfl, by omega⟩
      · split at e1
        · rename_i hr
          dsimp only at e2
          rw [if_pos hr] at e2
          cases e1; cases e2; exact ⟨rfl, by omega⟩
        · rename_i hr
          dsimp only at e2
          rw [if_neg hr] at e2
          split at e1
          · cases e1
          · rename_i it s1 g1 hi
            split at e2
            · cases e2
            · rename_i it2 s12 g12 hi2
              obtain ⟨rfl, hg⟩ := iI _ _ _ _ _ _ _ _ _ _ hi hi2
              obtain ⟨q1, q2⟩ := iR _ _ _ _ _ _ _ _ _ _ _ _ e1 e2
              exact ⟨q1, by omega⟩
    · intro s g h d l s' g' l2 s2 h' e1 e2
      cases s with
      | nil => simp [itemP] at e1
      | cons r s1 =>
        rw [item_def] at e1 e2
        split at e1
        · rename_i hr
          rw [if_pos hr] at e2
          cases e1; cases e2; exact ⟨rfl, by omega⟩
        · rename_i h94
          rw [if_neg h94] at e2
          split at e1
          · rename_i hr
            rw [if_pos hr] at e2
            cases e1; cases e2; exact ⟨rfl, by omega⟩
          · rename_i h36
            rw [if_neg h36] at e2
            split at e1
            · rename_i hr
              rw [if_pos hr] at e2
              obtain ⟨q1, q2, q3⟩ := reps_two e1 e2
              exact ⟨q1, by omega⟩
            · rename_i h46
              rw [if_neg h46] at e2
              split at e1
              · rename_i hr
                rw [if_pos hr] at e2
                split at e1
                · cases e1
                · rename_i hd
                  rw [if_neg hd] at e2
                  split at e1
                  · split at e1
                    · exact iG _ _ _ _ _ _ _ _ _ _ _ _ e1 e2
                    · cases e1
                  · rename_i hne
                    split at e1
                    · cases e1
                    · split at e2
                      · exact absurd rfl (hne _)
                      · split at e2
                        · cases e2
                        · obtain ⟨q1, q2⟩ := iG _ _ _ _ _ _ _ _ _ _ _ _ e1 e2
                          exact ⟨q1, by omega⟩
              · rename_i h40
                rw [if_neg h40] at e2
                split at e1
                · rename_i hr
                  rw [if_pos hr] at e2
                  split at e1
                  rename_i neg t2 hneg
                  split at e1
                  · cases e1
                  · rename_i cl s3 hc
                    rw [hneg] at e2
                    simp only [hc] at e2
                    obtain ⟨q1, q2, q3⟩ := reps_two e1 e2
                    exact ⟨q1, by omega⟩
                · rename_i h91
                  rw [if_neg h91] at e2
                  split at e1
                  · rename_i hr
                    rw [if_pos hr] at e2
                    split at e1
                    · cases e1
                    · split at e1
                      · cases e1
                      · rename_i ql qn hm
                        simp only [hm] at e2
                        obtain ⟨q1, q2, q3⟩ := reps_two e1 e2
                        exact ⟨q1, by omega⟩
                  · rename_i h92
                    rw [if_neg h92] at e2
                    split at e1
                    · cases e1
                    · rename_i hm4
                      rw [if_neg hm4] at e2
                      obtain ⟨q1, q2, q3⟩ := reps_two e1 e2
                      exact ⟨q1, by omega⟩
    · intro no no2 s g h d l s' g' l2 s2 h' e1 e2
      unfold grpP at e1 e2
      split at e1
      · cases e1
      · rename_i l1 s1 g1 ha
        split at e2
        · cases e2
        · rename_i l12 s12 g12 ha2
          obtain ⟨rfl, hg⟩ := iA _ _ _ _ _ _ _ _ _ _ ha ha2
          split at e1
          · obtain ⟨q1, q2, q3⟩ := reps_two e1 e2
            exact ⟨q1, by omega⟩
          · cases e1
theorem join_nine {p q : List Int} {l m L : List Rn} {g g2 G : Nat} (h : altP CC p.length (4 * p.length + 8) p 0 0 = .ok (nRow :: l) [] g)
    (h2 : altP CC q.length (4 * q.length + 8) q 0 0 = .ok (nRow :: m) [] g2) (hJ : altP CC (p ++ q).length (4 * (p ++ q).length + 8) (p ++ q) 0 0 = .ok L [] G) (hb : Bal 0 0 p) (hb2 : Bal 0 0 q) (hq : Tw q) (h9 : g ≤ 9) (h92 : g2 ≤ 9) : g + g2 = G := by
  obtain ⟨-, r1, _⟩ := alt_row h rfl
  obtain ⟨-, r2, _⟩ := alt_row h2 rfl
  obtain ⟨i, hik, hj⟩ := row_join (n2 := (p ++ q).length) r1 h9 hq hb
  have hl : (p ++ q).length = p.length + q.length := by simp
  rw [show 4 * (p ++ q).length + 8 = 4 * (p ++ q).length + 7 + 1 from rfl, alt_def, hj _ (by omega)] at hJ
  have e2 := ((all_emb CC q.length (p ++ q).length 0 _).2.2.1 _ _ _ _ _ _ _ r2 (by omega) [] (fun r u e => by cases e) (.inr (.inl rfl)) 0 (4 * (p ++ q).length + 7 - i) (by omega) hb2).1
  rw [sh_nil, List.append_nil, Nat.add_zero, Nat.add_zero, List.append_nil] at e2
  split at hJ
  · cases hJ
  · rename_i r s1 G1 hr
    obtain ⟨q1, q2⟩ := (all_two CC _ _).2.2.1 _ _ _ _ _ _ _ _ _ _ _ _ hr e2
    subst q1
    split at hJ
    · rename_i e; cases e
    · cases hJ; omega
/-! ## the code of both -/
theorem blk_fuel (k : Nat) : ∀ (k' : Nat) (d : Int) (t : List Rn), NodAt d t → t.length ≤ k → t.length ≤ k' → blk k t = blk k' t := by
  induction k with
  | zero =>
    intro k' d t h hk _
    obtain ⟨x, t, rfl, -, -⟩ := h.head
    simp at hk
  | succ k ih =>
    intro k' d t h hk hk'
    obtain ⟨_, x, cs, hx, hc, hl⟩ := h
    rw [List.length_cons] at hk hk'
    obtain ⟨k', rfl⟩ : ∃ y, k' = y + 1 := ⟨k' - 1, by omega⟩
    have hp : partsL cs.flatten = cs := parts_flat cs hc
    have hm : cs.map (blk k) = cs.map (blk k') := List.map_congr_left fun c h => ih k' (d + 1) c (hc c h) (by have := len_flat h; omega) (by have := len_flat h; omega)
    have one : cs.length = 1 → blk k cs.flatten = blk k' cs.flatten := fun e => by
      match cs, e with
      | [c], _ => simpa using hm
    unfold blk
    dsimp only
    rw [hp, hm]
    by_cases h5 : x.kind = 5
    · simp only [h5, one (hl.1 h5)]
    by_cases h6 : x.kind = 6
    · simp only [h6, one (hl.2.1 h6).1]
    simp only [h5, h6, if_false]
theorem shf_kind (j : Nat) (x : Rn) : (shf j x).kind = x.kind ∧ (shf j x).deep = x.deep ∧ (shf j x).hi = x.hi ∧ (shf j x).lazy = x.lazy ∧ (shf j x).not = x.not ∧ (shf j x).set = x.set ∧ (x.kind ≠ 5 → (shf j x).lo = x.lo) ∧ ((shf j x).lo = 0 ↔ x.lo = 0) := by
  unfold shf
  refine ⟨rfl, rfl, rfl, rfl, rfl, rfl, fun h => ?_, ?_⟩
  · dsimp only; rw [if_neg (fun k => h k.1)]
  · dsimp only
    split <;> omega
theorem nod_sh (j : Nat) {d : Int} {l : List Rn} (h : NodAt d l) : NodAt d (sh j l) := by
  induction h with
  | mk d x cs hx _ hl ih =>
    have e : sh j (x :: cs.flatten) = shf j x :: (cs.map (sh j)).flatten := by simp [sh, List.map_flatten]; rfl
    rw [e]
    obtain ⟨s1, s2, s3, -, -, s6, s7, -⟩ := shf_kind j x
    refine .mk d (shf j x) _ (by rw [s2]; exact hx) (fun c hc => ?_) ?_
    · obtain ⟨c', h1, rfl⟩ := List.mem_map.1 hc
      exact ih c' h1
    · obtain ⟨l1, l2, l3, l4⟩ := hl
      rw [List.length_map]
      refine ⟨fun h => l1 (s1 ▸ h), fun h => ?_, fun h => l3 (s1 ▸ h), fun h => ?_⟩
      · obtain ⟨a, b⟩ := l2 (s1 ▸ h)
        refine ⟨a, fun h0 => ?_⟩
        rw [s3] at h0 ⊢
        rw [s7 (by rw [← s1, h]; decide)]
        exact b h0
      · rw [s6]; exact l4 (s1 ▸ h)
theorem catB_lens : ∀ (a b : List (List Ins)), a.map List.length = b.map List.length → (catB a).length = (catB b).length
  | [], [], _ => rfl
  | [], y :: b, h => by simp at h
  | x :: a, [], h => by simp at h
  | x :: a, y :: b, h => by
    simp only [List.map_cons, List.cons.injEq] at h
    simp only [catB, List.length_append, shI_len, h.1, catB_lens a b h.2]
theorem altLen_lens : ∀ (a b : List (List Ins)), a.map List.length = b.map List.length → altLen a = altLen b
  | [], [], _ => rfl
  | [], y :: b, h => by simp at h
  | x :: a, [], h => by simp at h
  | [x], [y], h => by simpa [altLen] using h
  | [x], y :: z :: b, h => by simp at h
  | x :: z :: a, [y], h => by simp at h
  | x :: z :: a, y :: v :: b, h => by
    have h2 := h
    simp only [List.map_cons, List.cons.injEq] at h
    simp only [altLen, h.1]
    rw [altLen_lens (z :: a) (v :: b) (by simpa using h.2)]
theorem blk_sh (j k : Nat) : ∀ (d : Int) (t : List Rn), NodAt d t → t.length ≤ k → (blk k (sh j t)).length = (blk k t).length := by
  induction k with
  | zero => intro d t _ _; rfl
  | succ k ih =>
    intro d t h hk
    have hS := nod_sh j h
    obtain ⟨_, x, cs, hx, hc, hl⟩ := h
    rw [List.length_cons] at hk
    have e : sh j (x :: cs.flatten) = shf j x :: (cs.map (sh j)).flatten := by simp [sh, List.map_flatten]; rfl
    have hp : partsL cs.flatten = cs := parts_flat cs hc
    have hp2 : partsL (cs.map (sh j)).flatten = cs.map (sh j) := parts_flat (d := d + 1) _ fun c hc' => by
      obtain ⟨c', h1, rfl⟩ := List.mem_map.1 hc'
      exact nod_sh j (hc c' h1)
    have hm : ((cs.map (sh j)).map (blk k)).map List.length = (cs.map (blk k)).map List.length := by
      simp only [List.map_map]
      exact List.map_congr_left fun c h => ih (d + 1) c (hc c h) (by have := len_flat h; omega)
    have one : cs.length = 1 → (blk k (cs.map (sh j)).flatten).length = (blk k cs.flatten).length := fun e => by
      match cs, e with
      | [c], _ => simpa using hm
    obtain ⟨s1, -, s3, s4, s5, s6, s7, s8⟩ := shf_kind j x
    rw [e]
    unfold blk
    dsimp only
    rw [hp, hp2, s1]
    by_cases h0 : x.kind = 0
    · rw [if_pos h0, if_pos h0]; exact catB_lens _ _ hm
    rw [if_neg h0, if_neg h0]
    by_cases h1 : x.kind = 1
    · rw [if_pos h1, if_pos h1, altC_len, altC_len]; exact altLen_lens _ _ hm
    rw [if_neg h1, if_neg h1]
    by_cases h2 : x.kind = 2
    · rw [if_pos h2, if_pos h2]; rfl
    rw [if_neg h2, if_neg h2]
    by_cases h3 : x.kind = 3
    · rw [if_pos h3, if_pos h3]
    rw [if_neg h3, if_neg h3]
    by_cases h4 : x.kind = 4
    · rw [if_pos h4, if_pos h4]
    rw [if_neg h4, if_neg h4]
    by_cases h5 : x.kind = 5
    · rw [if_pos h5, if_pos h5]
      have := one (hl.1 h5)
      unfold groupB
      by_cases hz : x.lo = 0
      · rw [if_pos hz, if_pos (s8.2 hz)]; exact this
      · rw [if_neg hz, if_neg (fun h => hz (s8.1 h))]
        simp [shI_len, this]
    rw [if_neg h5, if_neg h5]
    by_cases h6 : x.kind = 6
    · rw [if_pos h6, if_pos h6]
      have := one (hl.2.1 h6).1
      rw [s7 h5, s3, s4]
      refine catB_lens _ _ ?_
      rw [List.map_append, List.map_append, List.map_replicate, List.map_replicate, this]
      congr 1
      simp only [List.map_cons, List.map_nil, List.cons.injEq, and_true]
      split
      · simp [loopB, shI_len, this]
      · rw [optB_len, optB_len, this]
    rw [if_neg h6, if_neg h6]
theorem igt_left {a b : List Ins} {i : Nat} (h : i < a.length) : igt (a ++ b) i = igt a i := by
  unfold igt
  rw [List.getD_eq_getElem?_getD, List.getD_eq_getElem?_getD, List.getElem?_append_left h]
theorem rows_code {l m : List Rn} {g : Nat} (h1 : NodAt 0 (nRow :: l)) (h2 : NodAt 0 (nRow :: m)) :
    (codeW (nRow :: (l ++ sh g m))).length + 3 = (codeW (nRow :: l)).length + (codeW (nRow :: m)).length ∧ ∀ i, i + 2 < (codeW (nRow :: l)).length → igt (codeW (nRow :: (l ++ sh g m))) i = igt (codeW (nRow :: l)) i := by
  cases h1 with
  | mk _ _ cs1 _ hc1 _ =>
  cases h2 with
  | mk _ _ cs2 _ hc2 _ =>
  have hc3 : ∀ c, c ∈ cs1 ++ cs2.map (sh g) → NodAt (0 + 1) c := fun c hc => by
    rcases List.mem_append.1 hc with hc | hc
    · exact hc1 c hc
    · obtain ⟨c', h', rfl⟩ := List.mem_map.1 hc
      exact nod_sh g (hc2 c' h')
  have e : cs1.flatten ++ sh g cs2.flatten = (cs1 ++ cs2.map (sh g)).flatten := by simp [sh, List.map_flatten]; rfl
  rw [e]
  obtain ⟨N, hN⟩ : ∃ N, N = (cs1 ++ cs2.map (sh g)).flatten.length := ⟨_, rfl⟩
  have hNl : N = cs1.flatten.length + cs2.flatten.length := by
    rw [hN, ← e, List.length_append, show (sh g cs2.flatten).length = cs2.flatten.length from List.length_map _]
  have b : ∀ (cs : List (List Rn)), (∀ c, c ∈ cs → NodAt (0 + 1) c) → blk (nRow :: cs.flatten).length (nRow :: cs.flatten) = catB (cs.map (blk cs.flatten.length)) := fun cs hc => by
    rw [List.length_cons]
    unfold blk
    dsimp only
    rw [if_pos (show nRow.kind = 0 from rfl), parts_flat cs hc]
  have m1 : cs1.map (blk N) = cs1.map (blk cs1.flatten.length) := List.map_congr_left fun c h => blk_fuel N _ _ c (hc1 c h) (by have := len_flat h; omega) (by have := len_flat h; omega)
  have m2 : ((cs2.map (sh g)).map (blk N)).map List.length = (cs2.map (blk cs2.flatten.length)).map List.length := by
    simp only [List.map_map]
    refine List.map_congr_left fun c h => ?_
    have hl := len_flat h
    show (blk N (sh g c)).length = _
    rw [blk_sh g N _ c (hc2 c h) (by omega), blk_fuel N cs2.flatten.length _ c (hc2 c h) (by omega) (by omega)]
    rfl
  have l2 := catB_lens _ _ m2
  unfold codeW
  rw [b _ hc1, b _ hc2, b _ hc3, ← hN, List.map_append, m1, catB_app, shI_app]
  refine ⟨by simp only [List.length_cons, List.length_append, shI_len, l2, List.length_nil]; omega, fun i hi => ?_⟩
  have hA : i < (iSave 0 :: shI 1 (catB (cs1.map (blk cs1.flatten.length)))).length := by simp only [List.length_cons, List.length_append, shI_len, List.length_nil] at hi ⊢; omega
  rw [show ∀ x y z : List Ins, iSave 0 :: (x ++ y ++ z) = (iSave 0 :: x) ++ (y ++ z) from fun x y z => by simp, igt_left hA, ← List.cons_append, igt_left hA]
end ReM
end Go.Proofs.Ytdjhnlihalihlaa
namespace Go.Proofs.Ytdjhnlihalihlaa
open Go.RowKit ReM

structure IdC (w : World) (b : Nat) (o x y : Int) (n : Bool) (s : Value) : Prop where
  c0 : w.cell? ⟨b, 0, none⟩ = some (.int .i64 o)
  c1 : w.cell? ⟨b, 1, none⟩ = some (.int .i64 x)
  c2 : w.cell? ⟨b, 2, none⟩ = some (.int .i64 y)
  c3 : w.cell? ⟨b, 3, none⟩ = some (.bool n)
  c4 : w.cell? ⟨b, 4, none⟩ = some s
theorem IdC.new (w : World) (o x y : Int) (n : Bool) (s : Value) (T : TypeId) (b : Nat) (hb : b = w.heap.size) : IdC (w.alloc (.cells #[.int .i64 o, .int .i64 x, .int .i64 y, .bool n, s] T)) b o x y n s := by
  subst hb
  exact ⟨by rw [cell_alloc_new]; rfl, by rw [cell_alloc_new]; rfl, by rw [cell_alloc_new]; rfl, by rw [cell_alloc_new]; rfl, by rw [cell_alloc_new]; rfl⟩
theorem IdC.alloc {w : World} {b : Nat} {o x y : Int} {n : Bool} {s : Value} (h : IdC w b o x y n s) (ob : Obj) : IdC (w.alloc ob) b o x y n s := by
  have hl := World.block_lt_of_cell? w _ h.c0
  have e : (w.alloc ob).heap[b]? = w.heap[b]? := ((Below.refl w.heap.size w).alloc (Nat.le_refl _) ob).block b hl
  have c : ∀ i, (w.alloc ob).cell? ⟨b, i, none⟩ = w.cell? ⟨b, i, none⟩ := fun i => World.cell?_of_block (a := ⟨b, i, none⟩) e
  exact ⟨by rw [c]; exact h.c0, by rw [c]; exact h.c1, by rw [c]; exact h.c2, by rw [c]; exact h.c3, by rw [c]; exact h.c4⟩
def Ims (w : World) (l : List Im) : Prop := ∀ m, m ∈ l → Sl w m.sa m.set
theorem Ims.bel {w w' : World} {l : List Im} (h : Ims w l) (hb : Below w.heap.size w w') : Ims w' l := fun m hm => (h m hm).bel hb
set_option maxRecDepth 20000 in
set_option maxHeartbeats 16000000 in
theorem sameinst_c (a1 a2 : Option Addr) (c1 c2 : Nat) (M N : List Im) (w : World) (h1 : RSl encIn w a1 M) (h2 : RSl encIn w a2 N) (o1 : Ims w M) (o2 : Ims w N) (h : inss M = inss N) :
    Calls Try.prog 22 #[.slice a1 M.length c1, .slice a2 N.length c2] w fun e w' => e = .returned (.bool true) ∧ Below w.heap.size w w' := by
  have hl : M.length ≤ 2199023255552 := h1.len
  have e : M.length = N.length := by rw [← inss_len, h, inss_len]
  have HM := hid h1
  have HN := hid h2
  have Ht := hid (fun i (hi : i < M.length) => show (rgt M i).ins = (rgt N i).ins by rw [← igt_inss hi, ← igt_inss (show i < N.length by omega), h])
  clear h h1 h2
  have b0 : ((M.length : Int) != N.length) = false := by rw [e]; simp
  have he := hid e
  go_enter Try.func22, Try.ntmps22
  go_wp2_with fail
  go_loopw [5] (fun iv wr => ∃ k : Nat, k ≤ M.length ∧ iv = .int .i64 k ∧ Below w.heap.size w wr) (fun iv _ => M.length - (intOf iv).toNat)
  case atStart => exact ⟨0, by omega, rfl, by (repeat' (first | exact Below.refl _ _ | assumption | refine bdrewN ?_ _ | refine Below.drew ?_ | refine Below.setCell ?_ (Nat.le_refl _) _ | refine bal ?_ _ | refine bthen ?_ (by assumption)))⟩
  case round =>
    obtain ⟨k, hk, rfl, hb⟩ := hrel
    by_cases hlt : k < M.length
    · obtain ⟨p1, q1, rfl, r1⟩ := (HM.out.bel hb).at hlt
      obtain ⟨p2, q2, rfl, r2⟩ := (HN.out.bel hb).at (show k < N.length by omega)
      obtain ⟨x0, x1, x2, x3, x4⟩ := rec_in (r1 k hlt)
      obtain ⟨y0, y1, y2, y3, y4⟩ := rec_in (r2 k (by omega))
      change wr.cell? ⟨p1, q1 + k * 5, none⟩ = _ at x0
      change wr.cell? ⟨p1, q1 + k * 5 + 1, none⟩ = _ at x1
      change wr.cell? ⟨p1, q1 + k * 5 + 2, none⟩ = _ at x2
      change wr.cell? ⟨p1, q1 + k * 5 + 3, none⟩ = _ at x3
      change wr.cell? ⟨p1, q1 + k * 5 + 4, none⟩ = _ at x4
      change wr.cell? ⟨p2, q2 + k * 5, none⟩ = _ at y0
      change wr.cell? ⟨p2, q2 + k * 5 + 1, none⟩ = _ at y1
      change wr.cell? ⟨p2, q2 + k * 5 + 2, none⟩ = _ at y2
      change wr.cell? ⟨p2, q2 + k * 5 + 3, none⟩ = _ at y3
      change wr.cell? ⟨p2, q2 + k * 5 + 4, none⟩ = _ at y4
      have S1 := hid ((o1 _ (rgt_mem hlt)).bel hb)
      have S2 := hid ((o2 _ (rgt_mem (show k < N.length by omega))).bel hb)
      have et := Ht.out k hlt
      have hB1 : p1 < wr.heap.size := World.block_lt_of_cell? wr _ x0
      have hB2 : p2 < wr.heap.size := World.block_lt_of_cell? wr _ y0
      have z2 : (k : Int) < (N.length : Int) := by omega
      have z1 : (k : Int) < (M.length : Int) := by omega
      have w1' : IntKind.i64.wrap ((k : Int) + 1) = ((k + 1 : Nat) : Int) := by rw [IntKind.wrap_i64]; omega
      clear r1 r2
      generalize rgt M k = m at *
      generalize rgt N k = n at *
      obtain ⟨mo, mx, my, mn, ma, ms, mc⟩ := m
      obtain ⟨no, nx', ny, nn, na, ns, nc⟩ := n
      simp only [Im.ins, Ins.mk.injEq] at et
      obtain ⟨rfl, rfl, rfl, rfl, rfl⟩ := et
      dsimp only at *
      have KX := hid (fun w' (hw : Below wr.heap.size wr w') => show w'.cell? ⟨p1, q1 + k * 5, none⟩ = some (.int .i64 mo) ∧ w'.cell? ⟨p1, q1 + k * 5 + 1, none⟩ = some (.int .i64 mx) ∧ w'.cell? ⟨p1, q1 + k * 5 + 2, none⟩ = some (.int .i64 my) ∧ w'.cell? ⟨p1, q1 + k * 5 + 3, none⟩ = some (.bool mn) ∧ w'.cell? ⟨p1, q1 + k * 5 + 4, none⟩ = some (.slice ma ms.length mc) ∧ w'.cell? ⟨p2, q2 + k * 5, none⟩ = some (.int .i64 mo) ∧ w'.cell? ⟨p2, q2 + k * 5 + 1, none⟩ = some (.int .i64 mx) ∧ w'.cell? ⟨p2, q2 + k * 5 + 2, none⟩ = some (.int .i64 my) ∧ w'.cell? ⟨p2, q2 + k * 5 + 3, none⟩ = some (.bool mn) ∧ w'.cell? ⟨p2, q2 + k * 5 + 4, none⟩ = some (.slice na ms.length nc) from by
        refine ⟨?_, ?_, ?_, ?_, ?_, ?_, ?_, ?_, ?_, ?_⟩
        all_goals first | (rw [hw.cell (by exact hB1)]; assumption) | (rw [hw.cell (by exact hB2)]; assumption))
      clear e he
      go_wp2_with fail
      go_region_held3 (fun w' => w'.cell? ⟨p1, q1 + k * 5, none⟩ = some (.int .i64 mo) ∧ w'.cell? ⟨p1, q1 + k * 5 + 1, none⟩ = some (.int .i64 mx) ∧ w'.cell? ⟨p1, q1 + k * 5 + 2, none⟩ = some (.int .i64 my) ∧ w'.cell? ⟨p1, q1 + k * 5 + 3, none⟩ = some (.bool mn) ∧ w'.cell? ⟨p1, q1 + k * 5 + 4, none⟩ = some (.slice ma ms.length mc) ∧ w'.cell? ⟨p2, q2 + k * 5, none⟩ = some (.int .i64 mo) ∧ w'.cell? ⟨p2, q2 + k * 5 + 1, none⟩ = some (.int .i64 mx) ∧ w'.cell? ⟨p2, q2 + k * 5 + 2, none⟩ = some (.int .i64 my) ∧ w'.cell? ⟨p2, q2 + k * 5 + 3, none⟩ = some (.bool mn) ∧ w'.cell? ⟨p2, q2 + k * 5 + 4, none⟩ = some (.slice na ms.length nc)) (first | assumption | exact ⟨by assumption, by assumption, by assumption, by assumption, by assumption, by assumption, by assumption, by assumption, by assumption, by assumption⟩ | (exact KX.out _ (by (repeat' (first | exact Below.refl _ _ | assumption | refine bdrewN ?_ _ | refine Below.drew ?_ | refine Below.setCell ?_ (Nat.le_refl _) _ | refine bal ?_ _ | refine bthen ?_ (by assumption))))) | go_keep) (fail)
      all_goals clear x0 x1 x2 x3 x4 y0 y1 y2 y3 y4
      · obtain ⟨V, hV⟩ : ∃ V, V = (wr.alloc (.cells #[.int .i64 mo, .int .i64 mx, .int .i64 my, .bool mn, .slice ma ms.length mc] 52)).alloc (.cells #[.int .i64 mo, .int .i64 mx, .int .i64 my, .bool mn, .slice na ms.length nc] 52) := ⟨_, rfl⟩
        have hn1 : IdC V (wr.heap.size) mo mx my mn (.slice ma ms.length mc) := by subst hV; exact (IdC.new _ _ _ _ _ _ _ _ rfl).alloc _
        have hn2 : IdC V (wr.heap.size + 1) mo mx my mn (.slice na ms.length nc) := by subst hV; exact IdC.new _ _ _ _ _ _ _ _ (by simp)
        have bV : Below wr.heap.size wr V := by subst hV; (repeat' (first | exact Below.refl _ _ | assumption | refine bdrewN ?_ _ | refine Below.drew ?_ | refine bal ?_ _ | refine bthen ?_ (by assumption)))
        have T1 := hid (S1.out.bel bV)
        have T2 := hid (S2.out.bel bV)
        have hbV := hid (hb.trans (bV.mono hb.size))
        rw [← hV]
        obtain ⟨g0, g1, g2, g3, g4⟩ := hn1
        obtain ⟨h0, h1, h2, h3, h4⟩ := hn2
        clear hV S1 S2 bV
        as_aux_lemma =>
        go_wp2_with (go_at_call 34; refine (rsame_c _ _ _ _ _ _ _ T1.out.drew T2.out.drew).mono ?_; rintro _ w5 ⟨rfl, n5, rfl⟩; rw [eqM_refl])
        exact ⟨⟨k + 1, by omega, by go_num, bdrewN hbV.out _⟩, by simp [intOf]; omega⟩
      · obtain ⟨V, hV⟩ : ∃ V, V = (wr.alloc (.cells #[.int .i64 mo, .int .i64 mx, .int .i64 my, .bool mn, .slice na ms.length nc] 52)).alloc (.cells #[.int .i64 mo, .int .i64 mx, .int .i64 my, .bool mn, .slice ma ms.length mc] 52) := ⟨_, rfl⟩
        have hn1 : IdC V (wr.heap.size + 1) mo mx my mn (.slice ma ms.length mc) := by subst hV; exact IdC.new _ _ _ _ _ _ _ _ (by simp)
        have hn2 : IdC V (wr.heap.size) mo mx my mn (.slice na ms.length nc) := by subst hV; exact (IdC.new _ _ _ _ _ _ _ _ rfl).alloc _
        have bV : Below wr.heap.size wr V := by subst hV; (repeat' (first | exact Below.refl _ _ | assumption | refine bdrewN ?_ _ | refine Below.drew ?_ | refine bal ?_ _ | refine bthen ?_ (by assumption)))
        have T1 := hid (S1.out.bel bV)
        have T2 := hid (S2.out.bel bV)
        have hbV := hid (hb.trans (bV.mono hb.size))
        rw [← hV]
        obtain ⟨g0, g1, g2, g3, g4⟩ := hn1
        obtain ⟨h0, h1, h2, h3, h4⟩ := hn2
        clear hV S1 S2 bV
        as_aux_lemma =>
        go_wp2_with (go_at_call 34; refine (rsame_c _ _ _ _ _ _ _ T1.out.drew T2.out.drew).mono ?_; rintro _ w5 ⟨rfl, n5, rfl⟩; rw [eqM_refl])
        exact ⟨⟨k + 1, by omega, by go_num, bdrewN hbV.out _⟩, by simp [intOf]; omega⟩
    · obtain rfl : k = M.length := by omega
      go_wp2_with fail
      go_ret
      exact ⟨rfl, hb⟩
end Go.Proofs.Ytdjhnlihalihlaa
namespace Go.Proofs.Ytdjhnlihalihlaa
open Go.RowKit ReM

/-- what the law asks of the three programs -/
theorem rows_facts {p q : List Int} (hp : PP 1 p) (hq : PP 0 q) {la lb lc : List Ins} {fa fb fc : Int} (ha : compW p = (la, 0, fa)) (hb : compW q = (lb, 0, fb)) (hc : compW (p ++ q) = (lc, 0, fc)) :
    3 ≤ lc.length ∧ lc.length + 3 = la.length + lb.length ∧ (∀ i, i + 2 < la.length → igt lc i = igt la i) := by
  rcases compW_cases p with ⟨e, f, h, he⟩ | ⟨l1, g1, p1, n1, -, g19, -, -, A1, c1, -⟩
  · rw [ha] at h; simp only [Prod.mk.injEq] at h; exact absurd h.2.1.symm he
  rcases compW_cases q with ⟨e, f, h, he⟩ | ⟨l2, g2, p2, n2, -, g29, -, -, A2, c2, -⟩
  · rw [hb] at h; simp only [Prod.mk.injEq] at h; exact absurd h.2.1.symm he
  rcases compW_cases (p ++ q) with ⟨e, f, h, he⟩ | ⟨l3, g3, p3, n3, -, g39, -, -, A3, c3, -⟩
  · rw [hc] at h; simp only [Prod.mk.injEq] at h; exact absurd h.2.1.symm he
  rw [ha] at c1
  rw [hb] at c2
  rw [hc] at c3
  simp only [Prod.mk.injEq, true_and] at c1 c2 c3
  obtain ⟨rfl, rfl⟩ := c1
  obtain ⟨rfl, rfl⟩ := c2
  obtain ⟨rfl, rfl⟩ := c3
  obtain ⟨m1, rfl⟩ := alt_one A1 hp.fl.nb
  obtain ⟨m2, rfl⟩ := alt_one A2 hq.fl.nb
  have b1 : Bal 0 0 p := hp.nst.bal (by omega)
  have b2 : Bal 0 0 q := hq.nst.bal (by omega)
  have hg := join_nine A1 A2 A3 b1 b2 hq.tw g19 g29
  have J := parse_join A1 A2 rfl rfl (by omega) b1 b2 hq.tw
  rw [A3] at J
  simp only [Rg.ok.injEq] at J
  rw [J.1]
  obtain ⟨r1, r2⟩ := rows_code (g := g1) n1 n2
  exact ⟨by rw [codeW_len]; omega, r1, r2⟩
set_option maxRecDepth 20000 in
set_option maxHeartbeats 60000000 in
theorem rrows_w (a0 a1 : Option Addr) (c0 c1 : Nat) (l0 l1 : List Int) (W : World) (h0 : I.Sl W a0 l0) (h1 : I.Sl W a1 l1) :
    Calls Try.prog 8 #[.slice a0 l0.length c0, .slice a1 l1.length c1] W fun e w' => e = .returned (.bool true) ∧ Below W.heap.size W w' := by
  obtain ⟨V, hV⟩ : ∃ V, V = W.alloc (.cells #[.slice a0 l0.length c0, .int .i64 0] 26) := ⟨_, rfl⟩
  have tV : TapeAt V W.heap.size a0 l0 c0 0 := by
    subst hV
    exact ⟨by simp, by rw [cell_alloc_new]; rfl, by rw [cell_alloc_new]; rfl, by simp, by omega⟩
  have bV : Below W.heap.size W V := by subst hV; (repeat' (first | exact Below.refl _ _ | assumption | refine bdrewN ?_ _ | refine Below.drew ?_ | refine bal ?_ _ | refine bthen ?_ (by assumption)))
  have zV : V.heap.size = W.heap.size + 1 := by subst hV; simp
  have SV : ∀ w', Below W.heap.size V w' → I.Sl w' a0 l0 := fun w' hb => h0.bel (bV.trans hb)
  have C := hid (pattern2_all W.heap.size a0 l0 c0 1 (by omega) V ⟨_, tV⟩ SV)
  have H1 := hid h1
  clear tV SV h0 h1
  go_enter Try.func8, Try.ntmps8
  go_wp2_with fail
  rw [← hV]; clear hV
  refine C.out.mono ?_
  rintro _ w1 ⟨aP, cP, P, rfl, hoP, hnP, hlP, -, hk⟩
  have B1 := hid (bV.trans (hk.belowp (by omega)))
  have zw1 := hk.size
  have HoP := hid hoP
  have NP := hid hnP
  have lP := hlP
  clear hoP hk C hnP hlP
  obtain ⟨V2, hV2⟩ : ∃ V2, V2 = w1.alloc (.cells #[.slice a1 l1.length c1, .int .i64 0] 26) := ⟨_, rfl⟩
  have tV : TapeAt V2 w1.heap.size a1 l1 c1 0 := by
    subst hV2
    exact ⟨by simp, by rw [cell_alloc_new]; rfl, by rw [cell_alloc_new]; rfl, by simp, by omega⟩
  have bV2 : Below w1.heap.size w1 V2 := by subst hV2; (repeat' (first | exact Below.refl _ _ | assumption | refine bdrewN ?_ _ | refine Below.drew ?_ | refine bal ?_ _ | refine bthen ?_ (by assumption)))
  have zV2 : V2.heap.size = w1.heap.size + 1 := by subst hV2; simp
  have SV : ∀ w', Below w1.heap.size V2 w' → I.Sl w' a1 l1 := fun w' hb => H1.out.bel (B1.out.trans ((bV2.trans hb).mono B1.out.size))
  have C := hid (pattern2_all w1.heap.size a1 l1 c1 0 (by omega) V2 ⟨_, tV⟩ SV)
  clear tV SV H1
  go_wp2_with fail
  rw [← hV2]; clear hV2
  refine C.out.mono ?_
  rintro _ w2 ⟨aQ, cQ, Q, rfl, hoQ, hnQ, hlQ, -, hk⟩
  have b2 : Below w1.heap.size w1 w2 := bV2.trans (hk.belowp (by omega))
  have zw2 := hk.size
  have B2 := hid (B1.out.trans (b2.mono B1.out.size))
  have HP := hid (HoP.out.grow b2)
  have HQ := hid hoQ
  have NQ := hid hnQ
  simp only [rndP] at lP hlQ
  clear hoQ hk C hnQ bV bV2 B1 HoP b2
  have wl : IntKind.i64.wrap ((P.length : Int) + (Q.length : Int)) = (P.length : Int) + (Q.length : Int) := by rw [IntKind.wrap_i64]; omega
  by_cases h60 : (60 : Int) < (P.length : Int) + (Q.length : Int)
  · have b1 : decide ((60 : Int) < (P.length : Int) + (Q.length : Int)) = true := by simpa using h60
    clear h60
    as_aux_lemma =>
    go_wp2_with fail
    refine (known9_c _).mono ?_
    rintro _ w3 ⟨rfl, b3⟩
    have B3 := hid (B2.out.trans (b3.mono B2.out.size))
    clear b3
    go_wp2_with fail
    go_ret
    exact ⟨rfl, B3.out⟩
  · have b1 : decide ((60 : Int) < (P.length : Int) + (Q.length : Int)) = false := by simpa using h60
    obtain ⟨⟨la, e1, f1⟩, hX1⟩ : ∃ X, X = compW P := ⟨_, rfl⟩
    obtain ⟨⟨lb, e2, f2⟩, hX2⟩ : ∃ X, X = compW Q := ⟨_, rfl⟩
    obtain ⟨J, hJ⟩ : ∃ J, J = P ++ Q := ⟨_, rfl⟩
    obtain ⟨⟨lc, e3, f3⟩, hX3⟩ : ∃ X, X = compW J := ⟨_, rfl⟩
    have HJ := hid hJ
    clear hJ
    have kP : P.length ≤ cP := by rcases HP.out.shape with ⟨_, _, h⟩ | ⟨_, _, _, _, h⟩; simp [h]; exact h
    have kQ : Q.length ≤ cQ := by rcases HQ.out.shape with ⟨_, _, h⟩ | ⟨_, _, _, _, h⟩; simp [h]; exact h
    have PC := hid (compile_c aP cP P w2 HP.out.sl kP)
    rw [← hX1] at PC
    have X1 := hid hX1
    have X2 := hid hX2
    have X3 := hid hX3
    clear hX1 hX2 hX3 h60
    go_wp2_with fail
    refine PC.out.mono ?_
    rintro _ w3 ⟨a3, c3, L1, rfl, hr1, hl1, ho1, hs1, b3⟩
    dsimp only at hr1
    have R1 := hid hr1
    have O3 := hid ho1
    have S3 := hid hs1
    have B3 := hid (B2.out.trans (b3.mono B2.out.size))
    have zw3 := b3.size
    have HP3 := hid (HP.out.grow (b3.mono (by omega)))
    have HQ3 := hid (HQ.out.grow b3)
    clear hr1 ho1 hs1 b3 PC HP HQ B2
    go_upto_region 5 with fail
    obtain ⟨V4, hV4⟩ : ∃ V4, V4 = w3.alloc (.cells #[.int .i64 e1, .int .i64 f1] 36) := ⟨_, rfl⟩
    have F4 : Hid (FtC V4 w3.heap.size e1 f1) := by subst hV4; exact FtC.new _ _ _ _ _ rfl
    have bV4 : Below w3.heap.size w3 V4 := by subst hV4; (repeat' (first | exact Below.refl _ _ | assumption | refine bdrewN ?_ _ | refine Below.drew ?_ | refine bal ?_ _ | refine bthen ?_ (by assumption)))
    have zV4 : V4.heap.size = w3.heap.size + 1 := by subst hV4; simp
    have PC := hid (compile_c aQ cQ Q V4 (HQ3.out.grow bV4).sl kQ)
    rw [← X2.out] at PC
    have O4 := hid (O3.out.grow bV4)
    have S4 := hid (S3.out.bel bV4)
    have HP4 := hid (HP3.out.grow bV4)
    have HQ4 := hid (HQ3.out.grow bV4)
    have B4 := hid (B3.out.trans (bV4.mono B3.out.size))
    rw [← hV4]; clear hV4 O3 S3 HP3 HQ3 B3 bV4
    go_wp2_with fail
    refine PC.out.mono ?_
    rintro _ w5 ⟨a5, c5, L2, rfl, hr2, hl2, ho2, hs2, b5⟩
    dsimp only at hr2
    have R2 := hid hr2
    have zw5 := b5.size
    have F5 := hid (F4.out.bel b5)
    have O5 := hid (O4.out.grow b5)
    have S5 := hid (S4.out.bel b5)
    have HP5 := hid (HP4.out.grow b5)
    have HQ5 := hid (HQ4.out.grow b5)
    have B5 := hid (B4.out.trans (b5.mono B4.out.size))
    clear hr2 ho2 hs2 b5 PC F4 O4 S4 HP4 HQ4 B4
    go_upto_region 6 with fail
    obtain ⟨V6, hV6⟩ : ∃ V6, V6 = w5.alloc (.cells #[.int .i64 e2, .int .i64 f2] 36) := ⟨_, rfl⟩
    have G6 : Hid (FtC V6 w5.heap.size e2 f2) := by subst hV6; exact FtC.new _ _ _ _ _ rfl
    have bV6 : Below w5.heap.size w5 V6 := by subst hV6; (repeat' (first | exact Below.refl _ _ | assumption | refine bdrewN ?_ _ | refine Below.drew ?_ | refine bal ?_ _ | refine bthen ?_ (by assumption)))
    have zV6 : V6.heap.size = w5.heap.size + 1 := by subst hV6; simp
    have F6 := hid (F5.out.bel bV6)
    have O6 := hid (O5.out.grow bV6)
    have S6 := hid (S5.out.bel bV6)
    have B6 := hid (B5.out.trans (bV6.mono B5.out.size))
    have JC : Hid (Calls Try.prog 12 #[.slice aP P.length cP, .slice aQ Q.length cQ] V6 (Makes V6 J)) := by
      rw [HJ.out]; exact hid (join_c aP aQ cP cQ P Q V6 ((HP5.out.grow bV6).sl) ((HQ5.out.grow bV6).sl) (by omega))
    rw [← hV6]; clear hV6 F5 O5 S5 HP5 HQ5 B5 bV6
    go_wp2_with fail
    refine JC.out.mono ?_
    rintro _ w7 ⟨aJ, cJ, rfl, hoJ, b7⟩
    have kJ : J.length ≤ cJ := by rcases hoJ.shape with ⟨_, _, h⟩ | ⟨_, _, _, _, h⟩; simp [h]; exact h
    have PC := hid (compile_c aJ cJ J w7 hoJ.sl kJ)
    rw [← X3.out] at PC
    have zw7 := b7.size
    have F7 := hid (F6.out.bel b7)
    have G7 := hid (G6.out.bel b7)
    have O7 := hid (O6.out.grow b7)
    have S7 := hid (S6.out.bel b7)
    have B7 := hid (B6.out.trans (b7.mono B6.out.size))
    clear hoJ b7 JC F6 G6 O6 S6 B6 kJ
    go_wp2_with fail
    refine PC.out.mono ?_
    rintro _ w8 ⟨a8, c8, L3, rfl, hr3, hl3, ho3, hs3, b8⟩
    dsimp only at hr3
    have R3 := hid hr3
    have zw8 := b8.size
    have F8 := hid (F7.out.bel b8)
    have G8 := hid (G7.out.bel b8)
    have O8 := hid (O7.out.grow b8)
    have S8 := hid (S7.out.bel b8)
    have N8 := hid ho3
    have T8 := hid hs3
    have B8 := hid (B7.out.trans (b8.mono B7.out.size))
    clear hr3 ho3 hs3 b8 PC F7 G7 O7 S7 B7
    go_upto_region 7 with fail
    obtain ⟨V9, hV9⟩ : ∃ V9, V9 = w8.alloc (.cells #[.int .i64 e3, .int .i64 f3] 36) := ⟨_, rfl⟩
    have K9 : FtC V9 w8.heap.size e3 f3 := by subst hV9; exact FtC.new _ _ _ _ _ rfl
    have bV9 : Below w8.heap.size w8 V9 := by subst hV9; (repeat' (first | exact Below.refl _ _ | assumption | refine bdrewN ?_ _ | refine Below.drew ?_ | refine bal ?_ _ | refine bthen ?_ (by assumption)))
    have zV9 : V9.heap.size = w8.heap.size + 1 := by subst hV9; simp
    have F9 := F8.out.bel bV9
    have G9 := G8.out.bel bV9
    have O9 := hid (O8.out.grow bV9)
    have S9 := hid (S8.out.bel bV9)
    have N9 := hid (N8.out.grow bV9)
    have T9 := hid (T8.out.bel bV9)
    have B9 := hid (B8.out.trans (bV9.mono B8.out.size))
    rw [← hV9]
    have y1 := F9.c0
    have y2 := G9.c0
    have y3 := K9.c0
    clear hV9 F8 G8 O8 S8 N8 T8 B8 bV9 F9 G9 K9
    obtain ⟨g1, hg1⟩ : ∃ b, b = (e1 != 0) := ⟨_, rfl⟩
    obtain ⟨g2, hg2⟩ : ∃ b, b = (e2 != 0) := ⟨_, rfl⟩
    obtain ⟨g3, hg3⟩ : ∃ b, b = (e3 != 0) := ⟨_, rfl⟩
    obtain ⟨g4, hg4⟩ : ∃ b, b = decide ((L1.length : Int) < 3) := ⟨_, rfl⟩
    obtain ⟨g5, hg5⟩ : ∃ b, b = decide ((L2.length : Int) < 3) := ⟨_, rfl⟩
    obtain ⟨gg, hgg⟩ : ∃ b, b = (g1 || g2 || g3 || g4 || g5) := ⟨_, rfl⟩
    have hL3 : e3 = 0 → 3 ≤ L3.length := fun h => by
      rcases compW_cases J with ⟨e, f, h', he⟩ | ⟨l, g, -, -, -, -, -, -, -, h', -⟩
      · rw [← X3.out] at h'
        simp only [Prod.mk.injEq] at h'
        exact absurd (h'.2.1.symm.trans h) he
      · rw [← X3.out] at h'
        simp only [Prod.mk.injEq] at h'
        rw [← inss_len, R3.out, h'.1, codeW_len]; omega
    go_cut [68] (fun v wx => v = .bool gg ∧ Below V9.heap.size V9 wx)
    case first =>
      have hg1' := hg1.symm
      have hg2' := hg2.symm
      have hg3' := hg3.symm
      have hg4' := hg4.symm
      have hg5' := hg5.symm
      clear hg1 hg2 hg3 hg4 hg5 hL3
      as_aux_lemma =>
      subst hgg
      cases g1
      · cases g2
        · cases g3
          · cases g4
            · cases g5
              all_goals
                go_wp2_with fail
                go_meet
                exact ⟨rfl, by (repeat' (first | exact Below.refl _ _ | assumption | refine bdrewN ?_ _ | refine Below.drew ?_ | refine Below.setCell ?_ (Nat.le_refl _) _ | refine bal ?_ _ | refine bthen ?_ (by assumption)))⟩
            · go_wp2_with fail
              go_meet
              exact ⟨rfl, by (repeat' (first | exact Below.refl _ _ | assumption | refine bdrewN ?_ _ | refine Below.drew ?_ | refine Below.setCell ?_ (Nat.le_refl _) _ | refine bal ?_ _ | refine bthen ?_ (by assumption)))⟩
          · go_wp2_with fail
            go_meet
            exact ⟨rfl, by (repeat' (first | exact Below.refl _ _ | assumption | refine bdrewN ?_ _ | refine Below.drew ?_ | refine Below.setCell ?_ (Nat.le_refl _) _ | refine bal ?_ _ | refine bthen ?_ (by assumption)))⟩
        · go_wp2_with fail
          go_meet
          exact ⟨rfl, by (repeat' (first | exact Below.refl _ _ | assumption | refine bdrewN ?_ _ | refine Below.drew ?_ | refine Below.setCell ?_ (Nat.le_refl _) _ | refine bal ?_ _ | refine bthen ?_ (by assumption)))⟩
      · go_wp2_with fail
        go_meet
        exact ⟨rfl, by (repeat' (first | exact Below.refl _ _ | assumption | refine bdrewN ?_ _ | refine Below.drew ?_ | refine Below.setCell ?_ (Nat.le_refl _) _ | refine bal ?_ _ | refine bthen ?_ (by assumption)))⟩
    case rest =>
      rename World => w10
      obtain ⟨rfl, hb10⟩ := hcut
      have B10 := hid (B9.out.trans (hb10.mono B9.out.size))
      have zw10 := hb10.size
      have y3' := (hb10.cell (show w8.heap.size < V9.heap.size by omega)).trans y3
      cases gg
      case true =>
        clear y1 y2 y3 hgg hg1 hg2 hg4 hg5
        by_cases he3 : e3 = 0
        · have bq : (e3 != 0) = false := by simpa using he3
          have br : decide ((3 : Int) ≤ (L3.length : Int)) = true := decide_eq_true (by have := hL3 he3; omega)
          clear hL3 he3 hg3
          as_aux_lemma =>
          go_wp2_with fail
          refine (known9_c _).mono ?_
          rintro _ w11 ⟨rfl, b11⟩
          have B11 := hid (B10.out.trans (b11.mono B10.out.size))
          clear b11
          go_wp2_with fail
          go_ret
          exact ⟨rfl, B11.out⟩
        · have bq : (e3 != 0) = true := by simpa using he3
          clear hL3 he3 hg3
          as_aux_lemma =>
          go_wp2_with fail
          refine (known9_c _).mono ?_
          rintro _ w11 ⟨rfl, b11⟩
          have B11 := hid (B10.out.trans (b11.mono B10.out.size))
          clear b11
          go_wp2_with fail
          go_ret
          exact ⟨rfl, B11.out⟩
      case false =>
        have hf := hgg.symm
        simp only [Bool.or_eq_false_iff, hg1, hg2, hg3, hg4, hg5, bne_eq_false_iff_eq, decide_eq_false_iff_not] at hf
        obtain ⟨⟨⟨⟨k1, k2⟩, k3⟩, k4⟩, k5⟩ := hf
        subst k1 k2 k3
        have hX3 := X3.out
        rw [HJ.out] at hX3
        obtain ⟨q1, q2, q3⟩ := rows_facts NP.out NQ.out X1.out.symm X2.out.symm hX3.symm
        rw [← R1.out, ← R2.out, ← R3.out, inss_len, inss_len, inss_len] at q2
        have q4 : ∀ i, i + 2 < L1.length → (rgt L3 i).ins = (rgt L1 i).ins := fun i hi => by
          rw [← igt_inss (show i < L3.length by omega), ← igt_inss (show i < L1.length by omega), R1.out, R3.out]
          exact q3 i (by rw [← R1.out, inss_len]; exact hi)
        have Q4 := hid q4
        have Q2 := hid q2
        have wA : IntKind.i64.wrap ((L1.length : Int) + (L2.length : Int)) = (L1.length : Int) + (L2.length : Int) := by rw [IntKind.wrap_i64]; omega
        have wB : IntKind.i64.wrap ((L1.length : Int) + (L2.length : Int) - 3) = (L3.length : Int) := by rw [IntKind.wrap_i64]; omega
        have bA : ((L3.length : Int) != (L3.length : Int)) = false := by simp
        obtain ⟨m, hm⟩ : ∃ m, L1.length = m + 2 := ⟨L1.length - 2, by omega⟩
        have wC : IntKind.i64.wrap ((L1.length : Int) - 2) = (m : Int) := by rw [IntKind.wrap_i64]; omega
        have Hm := hid hm
        have K5 := hid k5
        have RA := hid (fun w' (h : Below w10.heap.size w10 w') => (O9.out.grow hb10).grow h)
        have RC := hid (fun w' (h : Below w10.heap.size w10 w') => (N9.out.grow hb10).grow h)
        have IA := hid (fun w' (h : Below w10.heap.size w10 w') (x : Im) (hx : x ∈ L1) => (((S9.out.bel hb10).bel h).own x.key (List.mem_map_of_mem hx)).sl)
        have IC := hid (fun w' (h : Below w10.heap.size w10 w') (x : Im) (hx : x ∈ L3) => (((T9.out.bel hb10).bel h).own x.key (List.mem_map_of_mem hx)).sl)
        clear y1 y2 y3 y3' hg4 hg5 hL3 hX3 q1 q2 q3 q4 O9 S9 N9 T9 B9 hb10 hm hgg hg1 hg2 hg3 k4 k5
        go_wp2_with fail
        go_loopw [13] (fun iv wr => ∃ i : Nat, i ≤ m ∧ iv = .int .i64 i ∧ Below w10.heap.size w10 wr) (fun iv _ => m - (intOf iv).toNat)
        case atStart => exact ⟨0, by omega, rfl, by (repeat' (first | exact Below.refl _ _ | assumption | refine bdrewN ?_ _ | refine Below.drew ?_ | refine Below.setCell ?_ (Nat.le_refl _) _ | refine bal ?_ _ | refine bthen ?_ (by assumption)))⟩
        case round =>
          obtain ⟨i, hi, rfl, hb⟩ := hrel
          have HB := hid hb
          by_cases hlt : i < m
          · have z1 : (i : Int) < (m : Int) := by omega
            have w1' : IntKind.i64.wrap ((i : Int) + 1) = ((i + 1 : Nat) : Int) := by rw [IntKind.wrap_i64]; have := Hm.out; omega
            have hiA : i < L1.length := by have := Hm.out; omega
            have hiC : i < L3.length := by have := Hm.out; have := Q2.out; have := K5.out; omega
            obtain ⟨aD, cD, D, HD, sD, hDc, hrunD⟩ := rslice_mid Try.tyIn (RA.out wr hb).sl i (i + 1) c3 (by omega) (by omega) (RA.out wr hb).cap
            obtain ⟨aE, cE, E, HE, sE, hEc, hrunE⟩ := rslice_mid Try.tyIn (RC.out wr hb).sl i (i + 1) c8 (by omega) (by omega) (RC.out wr hb).cap
            push_cast at hrunD hrunE
            have i1 : (0 : Int) ≤ (i : Int) := by omega
            have i2 : (i : Int) ≤ (i : Int) + 1 := by omega
            have i3 : (i : Int) + 1 ≤ (L1.length : Int) := by omega
            have i4 : (i : Int) + 1 ≤ (L3.length : Int) := by omega
            have hmD : D = [rgt L1 i] := by rw [HD.out, rgt_take hiA, List.drop_append_of_le_length (by simp; omega)]; simp
            have hmE : E = [rgt L3 i] := by rw [HE.out, rgt_take hiC, List.drop_append_of_le_length (by simp; omega)]; simp
            have SC : Hid (∀ w', Below wr.heap.size wr w' → Calls Try.prog 22 #[.slice aD D.length cD, .slice aE E.length cE] w' fun e w'' => e = .returned (.bool true) ∧ Below wr.heap.size wr w'') := hid (fun w' h => (sameinst_c aD aE cD cE D E w' (sD.bel h) (sE.bel h)
              (fun x hx => by rw [hmD] at hx; rw [List.mem_singleton.1 hx]; exact IA.out w' (HB.out.trans (h.mono HB.out.size)) _ (rgt_mem hiA))
              (fun x hx => by rw [hmE] at hx; rw [List.mem_singleton.1 hx]; exact IC.out w' (HB.out.trans (h.mono HB.out.size)) _ (rgt_mem hiC))
              (by rw [hmD, hmE]; show [(rgt L1 i).ins] = [(rgt L3 i).ins]; rw [Q4.out i (by have := Hm.out; omega)])).mono fun e w'' k => ⟨k.1, bthen h k.2⟩)
            clear HD HE sD sE hDc hEc hmD hmE hb
            go_upto_region 14 with fail
            go_region_held3 (fun _ => True) (first | trivial | assumption) (first | (with_reducible refine (SC.out _ (by (repeat' (first | exact Below.refl _ _ | assumption | refine bdrewN ?_ _ | refine Below.drew ?_ | refine Below.setCell ?_ (Nat.le_refl _) _ | refine bal ?_ _ | refine bthen ?_ (by assumption))))).mono ?_; rintro e w13 ⟨rfl, b13⟩) | fail)
            all_goals
              have B13 := hid (HB.out.trans (b13.mono HB.out.size))
              clear b13
              go_wp2_with fail
              exact ⟨⟨i + 1, by omega, by go_num, B13.out⟩, by simp [intOf]; omega⟩
          · obtain rfl : i = m := by omega
            clear hb
            go_wp2_with fail
            refine (known9_c _).mono ?_
            rintro _ w11 ⟨rfl, b11⟩
            have B11 := hid (HB.out.trans (b11.mono HB.out.size))
            clear b11
            go_wp2_with fail
            go_ret
            exact ⟨rfl, B10.out.trans (B11.out.mono B10.out.size)⟩
end Go.Proofs.Ytdjhnlihalihlaa
