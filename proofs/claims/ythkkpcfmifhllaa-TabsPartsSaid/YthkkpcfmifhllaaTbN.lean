/- The order of tab stops, on lists: how many stops, neighbours in the order, a field more that is no stop. -/
import Derived.Test.YthkkpcfmifhllaaTbM
namespace Go.Proofs.Ythkkpcfmifhllaa

/-- how many stops the first k fields hold -/
def cntF (l : List Fl) : Nat → Nat
  | 0 => 0
  | k + 1 => if stopF (rgt l k) then cntF l k + 1 else cntF l k
theorem insF_len (l : List Fl) (i : Nat) (L : List Nat) : (insF l i L).length = L.length + 1 := by
  unfold insF
  have e : L.takeWhile (fun j => decide ((rgt l j).num ≤ (rgt l i).num)) ++ L.dropWhile (fun j => decide ((rgt l j).num ≤ (rgt l i).num)) = L := List.takeWhile_append_dropWhile
  have h := congrArg List.length e
  simp only [List.length_append, List.length_cons] at h ⊢
  omega
theorem cnt_eq (l : List Fl) : ∀ k, (posF l k).length + (zerF l k).length = cntF l k
  | 0 => rfl
  | k + 1 => by
    have ih := cnt_eq l k
    rw [posF, zerF, cntF]
    cases hs : stopF (rgt l k) with
    | false => simpa using ih
    | true =>
      by_cases hz : (rgt l k).num = 0
      · simp [hz]; omega
      · simp only [Bool.true_and, hz, decide_false, Bool.not_false, if_true, Bool.false_eq_true, if_false]
        rw [insF_len]; omega
theorem ordF_count (l : List Fl) : (ordF l).length = cntF l l.length := by
  rw [ordF, List.length_append, cnt_eq]
theorem ordF_next {l : List Fl} {k : Nat} (h : k + 1 < (ordF l).length) : ahdF l ((ordF l)[k]'(by omega)) ((ordF l)[k + 1]'h) :=
  List.pairwise_iff_getElem.1 (ordF_ord l).sorted k (k + 1) (by omega) h (by omega)
theorem ordF_inj {l : List Fl} {i j : Nat} (hi : i < (ordF l).length) (hj : j < (ordF l).length) (h : (ordF l)[i] = (ordF l)[j]) : i = j := by
  rcases Nat.lt_trichotomy i j with h1 | h1 | h1
  · have := List.pairwise_iff_getElem.1 (ordF_ord l).sorted i j hi hj h1
    rw [h] at this; exact absurd this (ahdF_irrefl l _)
  · exact h1
  · have := List.pairwise_iff_getElem.1 (ordF_ord l).sorted j i hj hi h1
    rw [h] at this; exact absurd this (ahdF_irrefl l _)
theorem ordF_at {l : List Fl} {k : Nat} (h : k < (ordF l).length) : (ordF l)[k] < l.length ∧ stopF (rgt l (ordF l)[k]) = true := ((ordF_ord l).mem _).1 (List.getElem_mem h)
/-- beside: by places behind a field in the order, if there is one -/
def besF (L : List Nat) (at_ by_ : Int) : Option Nat := ((List.range L.length).find? fun (k : Nat) => decide ((L.getD k 0 : Int) = at_) && (decide (0 ≤ (k : Int) + by_) && decide ((k : Int) + by_ < L.length))).map fun (k : Nat) => L.getD ((k : Int) + by_).toNat 0
theorem besF_of {l : List Fl} {at_ by_ : Int} {k : Nat} (hk : k < (ordF l).length) (ha : ((ordF l)[k] : Int) = at_) (h0 : 0 ≤ (k : Int) + by_) (h1 : (k : Int) + by_ < (ordF l).length) : besF (ordF l) at_ by_ = some ((ordF l).getD ((k : Int) + by_).toNat 0) := by
  unfold besF
  have hg : ∀ j, (hj : j < (ordF l).length) → (ordF l).getD j 0 = (ordF l)[j] := fun j hj => by simp [List.getD, List.getElem?_eq_getElem hj]
  have hf : ((List.range (ordF l).length).find? fun k => decide (((ordF l).getD k 0 : Int) = at_) && (decide (0 ≤ (k : Int) + by_) && decide ((k : Int) + by_ < (ordF l).length))) = some k := by
    rw [List.find?_eq_some_iff_getElem]
    refine ⟨by rw [hg k hk, ha]; simp [h0, h1], k, by simpa using hk, by simp, fun j hj => ?_⟩
    rw [List.getElem_range]
    have hjl : j < (ordF l).length := by omega
    have hne : ¬ (((ordF l).getD j 0 : Nat) : Int) = at_ := by
      rw [hg j hjl, ← ha]
      intro e
      have := ordF_inj hjl hk (by exact_mod_cast e)
      omega
    rw [decide_eq_false hne]; rfl
  rw [hf]; rfl
theorem besF_none {L : List Nat} {at_ by_ : Int} (h : ∀ k, k < L.length → (L.getD k 0 : Int) = at_ → 0 ≤ (k : Int) + by_ → (k : Int) + by_ < L.length → False) : besF L at_ by_ = none := by
  unfold besF
  rw [Option.map_eq_none_iff, List.find?_eq_none]
  intro k hk
  simp only [Bool.and_eq_true, decide_eq_true_eq]
  exact fun ⟨h1, h2, h3⟩ => h k (List.mem_range.1 hk) h1 h2 h3
/-! ## a field more that is no stop -/
def upF (k i : Nat) : Nat := if k ≤ i then i + 1 else i
theorem rgt_more {l : List Fl} {k : Nat} (hk : k ≤ l.length) (m : Fl) {i : Nat} (_ : i < l.length) : rgt (l.take k ++ m :: l.drop k) (upF k i) = rgt l i := by
  unfold upF rgt
  simp only [List.getD]
  split
  · rw [List.getElem?_append_right (by rw [List.length_take]; omega), List.length_take, Nat.min_eq_left hk, show i + 1 - k = (i - k) + 1 by omega, List.getElem?_cons_succ, List.getElem?_drop, show k + (i - k) = i by omega]
  · rw [List.getElem?_append_left (by rw [List.length_take]; omega), List.getElem?_take, if_pos (by omega)]
theorem rgt_mid_more {l : List Fl} {k : Nat} (hk : k ≤ l.length) (m : Fl) : rgt (l.take k ++ m :: l.drop k) k = m := by
  unfold rgt
  simp only [List.getD]
  rw [List.getElem?_append_right (by rw [List.length_take]; omega), List.length_take, Nat.min_eq_left hk, Nat.sub_self]
  rfl
theorem ord_more {l : List Fl} {k : Nat} (hk : k ≤ l.length) {m : Fl} (hm : stopF m = false) : ordF (l.take k ++ m :: l.drop k) = (ordF l).map (upF k) := by
  refine (ordF_ord _).unique ⟨?_, fun i => ?_⟩
  · rw [List.pairwise_map]
    refine List.Pairwise.imp_of_mem ?_ (ordF_ord l).sorted
    intro a b ha hb h
    have h1 := (((ordF_ord l).mem a).1 ha).1
    have h2 := (((ordF_ord l).mem b).1 hb).1
    unfold ahdF at h ⊢
    rw [rgt_more hk m h1, rgt_more hk m h2]
    have : a < b → upF k a < upF k b := by unfold upF; split <;> split <;> omega
    omega
  · have hlen : (l.take k ++ m :: l.drop k).length = l.length + 1 := by simp; omega
    rw [List.mem_map, hlen]
    constructor
    · rintro ⟨j, hj, rfl⟩
      obtain ⟨h1, h2⟩ := ((ordF_ord l).mem j).1 hj
      rw [rgt_more hk m h1]
      exact ⟨by unfold upF; split <;> omega, h2⟩
    · rintro ⟨h1, h2⟩
      rcases Nat.lt_trichotomy i k with h | h | h
      · have e : upF k i = i := by unfold upF; rw [if_neg (by omega)]
        refine ⟨i, ((ordF_ord l).mem i).2 ⟨by omega, ?_⟩, e⟩
        have := rgt_more hk m (i := i) (by omega)
        rw [e] at this; rwa [← this]
      · subst h; rw [rgt_mid_more hk m, hm] at h2; cases h2
      · have e : upF k (i - 1) = i := by unfold upF; rw [if_pos (by omega)]; omega
        refine ⟨i - 1, ((ordF_ord l).mem _).2 ⟨by omega, ?_⟩, e⟩
        have := rgt_more hk m (i := i - 1) (by omega)
        rw [e] at this; rwa [← this]
end Go.Proofs.Ythkkpcfmifhllaa
