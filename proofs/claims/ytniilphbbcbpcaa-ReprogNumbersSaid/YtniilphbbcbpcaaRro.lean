/- ResynRows: the walk. -/
import Derived.Test.YtniilphbbcbpcaaKno
import Derived.Test.YtniilphbbcbpcaaPlb
import Derived.Deep.CutBlock
import Derived.Deep.DeepCutAuto
namespace Go.Proofs.Ytniilphbbcbpcaa
open Go.RowKit ReM

theorem alt_nb (p : List Int) : ∀ c i, altP CC p.length (4 * p.length + 8) p 0 0 = .bad c i → c ≠ 0 :=
  fun c i h => (enough CC p.length (4 * p.length + 8)).1 p 0 0 (by omega) c i h
/-- what is told, in two kinds -/
theorem parseW_cases (p : List Int) : (∃ e f, parseW p = ([], e, f) ∧ e ≠ 0) ∨
    (∃ l g, parseW p = (l, 0, 0) ∧ altP CC p.length (4 * p.length + 8) p 0 0 = .ok l [] g ∧ parse CC p = (l, 0, 0) ∧ p.length ≤ 60 ∧ ¬ fbad p < p.length) := by
  unfold parseW
  by_cases h60 : 60 < p.length
  · rw [if_pos h60]; exact .inl ⟨3, 60, rfl, by decide⟩
  rw [if_neg h60]
  by_cases hf : fbad p < p.length
  · rw [if_pos hf]; exact .inl ⟨1, _, rfl, by decide⟩
  rw [if_neg hf]
  cases hA : altP CC p.length (4 * p.length + 8) p 0 0 with
  | bad e f =>
    have he := alt_nb p e f hA
    exact .inl ⟨e, f, by unfold parse; rw [hA], he⟩
  | ok l s g =>
    cases s with
    | nil =>
      have : parse CC p = (l, 0, 0) := parse_is hA
      exact .inr ⟨l, g, this, rfl, this, by omega, hf⟩
    | cons q t => exact .inl ⟨5, _, by unfold parse; rw [hA], by decide⟩
/-- the tree that a parser told, in memory -/
structure TreeM (L : List Rm) : Prop where
  node : NodAt 0 (rns L)
  head : ∃ x t, rns L = x :: t ∧ (x = nRow ∨ x = nAlt)
  groups : ∃ g, gsL (rns L) = upto 0 g
theorem TreeM.of {p : List Int} {L : List Rm} (h : parse CC p = (rns L, 0, 0)) : TreeM L := by
  obtain ⟨h1, h2, h3⟩ := parse_tree (c := 0) (i := 0) h rfl (alt_nb p)
  exact ⟨h1, h2, h3⟩
theorem TreeM.at {L : List Rm} (h : TreeM L) {k : Nat} (hk : k < L.length) : ReM.Loc (rgt L k).rn (kidsN (rgt L k).deep ((rns L).drop (k + 1))) ∧ (0 < k → 1 ≤ (rgt L k).deep) ∧ (k = 0 → (rgt L k).deep = 0) := by
  have := tree_at h.node (i := k) (by rw [rns_len]; exact hk)
  rwa [rns_get L hk] at this
theorem TreeM.step {L : List Rm} (h : TreeM L) {k : Nat} (hk : k + 1 < L.length) : (rgt L (k + 1)).deep ≤ (rgt L k).deep + 1 := by
  have := tree_step h.node (i := k) (by rw [rns_len]; exact hk)
  rwa [rns_get L hk, rns_get L (by omega)] at this
theorem TreeM.group {L : List Rm} (h : TreeM L) {k : Nat} (hk : k < L.length) (h5 : (rgt L k).kind = 5) (h0 : 0 < (rgt L k).lo) : (rgt L k).lo = grM L k + 1 := by
  obtain ⟨g, hg⟩ := h.groups
  have := group_at hg (i := k) (by rw [rns_len]; exact hk) (by rw [rns_get L hk]; exact h5) (by rw [rns_get L hk]; exact h0)
  rwa [rns_get L hk] at this
/-- the kids counted so far -/
def cN (L : List Rm) (k j : Nat) : Nat := cntN (rgt L k).deep (rns L) (k + 1) (j - (k + 1))
theorem cN_start (L : List Rm) (k : Nat) : cN L k (k + 1) = 0 := by unfold cN; rw [Nat.sub_self, cnt_zero]
theorem cN_le (L : List Rm) (k j : Nat) : cN L k j ≤ j := by
  have := cnt_le (rgt L k).deep (rns L) (k + 1) (j - (k + 1))
  unfold cN; omega
theorem cN_step (L : List Rm) {k j : Nat} (h : k + 1 ≤ j) (hj : j < L.length) : cN L k (j + 1) = cN L k j + if (rgt L j).deep = (rgt L k).deep + 1 then 1 else 0 := by
  obtain ⟨m, rfl⟩ : ∃ m, j = k + 1 + m := ⟨j - (k + 1), by omega⟩
  unfold cN
  rw [show k + 1 + m + 1 - (k + 1) = m + 1 by omega, show k + 1 + m - (k + 1) = m by omega, cnt_succ _ _ _ _ (by rw [rns_len]; exact hj), rns_get L hj]
  rfl
theorem cN_end (L : List Rm) {k j : Nat} (h : k + 1 ≤ j) (hj : j ≤ L.length) (ha : ∀ q, k + 1 ≤ q → q < j → (rgt L k).deep < (rgt L q).deep) (he : j < L.length → (rgt L j).deep ≤ (rgt L k).deep) :
    kidsN (rgt L k).deep ((rns L).drop (k + 1)) = cN L k j := by
  obtain ⟨m, rfl⟩ : ∃ m, j = k + 1 + m := ⟨j - (k + 1), by omega⟩
  unfold cN
  rw [show k + 1 + m - (k + 1) = m by omega]
  refine cnt_end (by rw [rns_len]; exact hj) (fun q hq => ?_) (fun hk => ?_)
  · rw [rns_get L (by omega)]
    exact ha _ (by omega) (by omega)
  · rw [rns_len] at hk
    rw [rns_get L hk]
    exact he hk
end Go.Proofs.Ytniilphbbcbpcaa
