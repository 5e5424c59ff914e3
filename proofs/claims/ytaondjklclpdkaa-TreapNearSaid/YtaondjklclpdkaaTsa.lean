/- A set of marks as a list by order: where a mark stands, what Add, Remove, Move tell and leave, how deep a mark lies. -/
import Derived.Test.YtaondjklclpdkaaMks
import Derived.Test.YtaondjklclpdkaaTrpT
namespace Go.Proofs.Ytaondjklclpdkaa
open Go.RowKit

def spanOk (f t : Int) : Bool := decide (0 ≤ f ∧ f ≤ t ∧ t ≤ 1099511627776)
/-- where the mark with this number stands -/
def pos : List Mk → Int → Nat
  | [], _ => 0
  | x :: l, i => if x.id = i then 0 else pos l i + 1
theorem pos_le (l : List Mk) (i : Int) : pos l i ≤ l.length := by
  induction l with
  | nil => simp [pos]
  | cons x l ih => simp only [pos, List.length_cons]; split <;> omega
theorem pos_id {l : List Mk} {i : Int} (h : pos l i < l.length) : (mgt l (pos l i)).id = i := by
  induction l with
  | nil => simp at h
  | cons x l ih =>
    simp only [pos] at h ⊢
    split
    · rename_i he; simpa [mgt] using he
    · rename_i he
      rw [if_neg he] at h
      have := ih (by simpa using h)
      simpa [mgt] using this
theorem pos_none {l : List Mk} {i : Int} : pos l i = l.length ↔ ∀ x, x ∈ l → x.id ≠ i := by
  induction l with
  | nil => simp [pos]
  | cons x l ih =>
    simp only [pos, List.length_cons, List.mem_cons]
    split
    · rename_i he
      exact ⟨fun h => by omega, fun h => absurd he (h x (.inl rfl))⟩
    · rename_i he
      constructor
      · rintro h y (rfl | hy)
        · exact he
        · exact ih.1 (by omega) y hy
      · intro h
        have := ih.2 fun y hy => h y (.inr hy)
        omega
theorem pos_ahead {l : List Mk} {i : Int} {k : Nat} (h : k < pos l i) : (mgt l k).id ≠ i := by
  induction l generalizing k with
  | nil => simp [pos] at h
  | cons x l ih =>
    simp only [pos] at h
    split at h
    · omega
    · rename_i he
      cases k with
      | zero => simpa [mgt] using he
      | succ k =>
        have := ih (k := k) (by omega)
        simpa [mgt] using this
theorem pos_split {l : List Mk} {i : Int} (h : pos l i < l.length) : l = l.take (pos l i) ++ mgt l (pos l i) :: l.drop (pos l i + 1) := by
  rw [← mgt_drop h, List.take_append_drop]
theorem mgt_split {l : List Mk} {k : Nat} (h : k < l.length) : l = l.take k ++ mgt l k :: l.drop (k + 1) := by
  rw [← mgt_drop h, List.take_append_drop]
theorem pos_mem {l : List Mk} {m : Mk} (h : m ∈ l) : pos l m.id < l.length := by
  have := pos_le l m.id
  rcases Nat.lt_or_ge (pos l m.id) l.length with h1 | h1
  · exact h1
  · exact absurd rfl (pos_none.1 (by omega) m h)
theorem ids_one {l : List Mk} (hi : Ids l) {x y : Mk} (hx : x ∈ l) (hy : y ∈ l) (h : x.id = y.id) : x = y := by
  induction l with
  | nil => cases hx
  | cons z l ih =>
    unfold Ids at hi
    rw [List.pairwise_cons] at hi
    rcases List.mem_cons.1 hx with ex | hx'
    · rcases List.mem_cons.1 hy with ey | hy'
      · rw [ex, ey]
      · exact absurd h (by rw [ex]; exact hi.1 y hy')
    · rcases List.mem_cons.1 hy with ey | hy'
      · exact absurd h.symm (by rw [ey]; exact hi.1 x hx')
      · exact ih hi.2 hx' hy'
theorem pos_of {l : List Mk} (hi : Ids l) {m : Mk} (h : m ∈ l) : mgt l (pos l m.id) = m :=
  ids_one hi (mgt_mem (pos_mem h)) h (pos_id (pos_mem h))
theorem pos_at {l : List Mk} (hi : Ids l) {k : Nat} (h : k < l.length) : pos l (mgt l k).id = k := by
  induction l generalizing k with
  | nil => simp at h
  | cons x l ih =>
    unfold Ids at hi
    rw [List.pairwise_cons] at hi
    cases k with
    | zero => simp [pos, mgt]
    | succ k =>
      have hk : k < l.length := by simpa using h
      have e : mgt (x :: l) (k + 1) = mgt l k := by simp [mgt]
      rw [e]
      simp only [pos]
      rw [if_neg (hi.1 _ (mgt_mem hk)), ih hi.2 hk]
/-! ## what a set holds -/
structure Gd (l : List Mk) : Prop where
  ord : Ord l
  ids : Ids l
  len : l.length ≤ 600
  ok : ∀ x, x ∈ l → (0 ≤ x.fr ∧ x.fr ≤ x.to ∧ x.to ≤ 1099511627776) ∧ ir x.id ∧ ir x.pr
theorem Gd.nil : Gd [] := ⟨List.Pairwise.nil, List.Pairwise.nil, by simp, fun x hx => by cases hx⟩
theorem Gd.mks {w : World} {l : List Mk} (h : Gd l) : Mks w l := fun m hm => by
  obtain ⟨h1, h2, h3⟩ := h.ok m hm
  refine ⟨h2, ?_, ?_, h3⟩ <;> (unfold ir; omega)
def addE (l : List Mk) (m : Mk) : Int := if spanOk m.fr m.to = true then (if pos l m.id < l.length then 1 else if 600 ≤ l.length then 3 else 0) else 2
def addL (l : List Mk) (m : Mk) : List Mk := if addE l m = 0 then putM l m else l
def remE (l : List Mk) (i : Int) : Int := if pos l i < l.length then 0 else 4
def remL (l : List Mk) (i : Int) : List Mk := takM l (pos l i)
def movE (l : List Mk) (i f t : Int) : Int := if pos l i < l.length then (if spanOk f t = true then 0 else 2) else 4
def movL (l : List Mk) (i f t : Int) : List Mk := if movE l i f t = 0 then putM (takM l (pos l i)) ⟨i, f, t, (mgt l (pos l i)).pr⟩ else l
def depL (l : List Mk) (i : Int) : Int := if pos l i < l.length then depR (l.take (pos l i)) (mgt l (pos l i)) (l.drop (pos l i + 1)) else 0
theorem addE_zero {l : List Mk} {m : Mk} : addE l m = 0 ↔ spanOk m.fr m.to = true ∧ pos l m.id = l.length ∧ l.length < 600 := by
  have := pos_le l m.id
  unfold addE
  repeat' split
  all_goals (constructor <;> intro h <;> simp_all <;> omega)
theorem Gd.put {l : List Mk} (h : Gd l) {m : Mk} (hs : spanOk m.fr m.to = true) (hp : pos l m.id = l.length) (hl : l.length < 600) (hi : ir m.id ∧ ir m.pr) : Gd (putM l m) := by
  have hn := pos_none.1 hp
  refine ⟨putM_ord h.ord hn, putM_ids h.ids hn, by rw [putM_len]; omega, fun x hx => ?_⟩
  rcases putM_mem.1 hx with rfl | hx
  · simp only [spanOk, decide_eq_true_eq] at hs
    exact ⟨hs, hi⟩
  · exact h.ok x hx
theorem Gd.sub {l r : List Mk} (h : Gd l) (hs : r.Sublist l) : Gd r :=
  ⟨h.ord.sublist hs, h.ids.sublist hs, Nat.le_trans hs.length_le h.len, fun x hx => h.ok x (hs.subset hx)⟩
theorem Gd.tak {l : List Mk} (h : Gd l) (k : Nat) : Gd (takM l k) := h.sub (takM_sub l k)
theorem Gd.add {l : List Mk} (h : Gd l) {m : Mk} (hi : ir m.id ∧ ir m.pr) : Gd (addL l m) := by
  unfold addL
  split
  · rename_i he
    obtain ⟨h1, h2, h3⟩ := addE_zero.1 he
    exact h.put h1 h2 h3 hi
  · exact h
theorem Gd.rem {l : List Mk} (h : Gd l) (i : Int) : Gd (remL l i) := h.tak _
theorem takM_mem {l : List Mk} (hi : Ids l) {k : Nat} (hk : k < l.length) {x : Mk} : x ∈ takM l k ↔ x ∈ l ∧ x.id ≠ (mgt l k).id := by
  have e := mgt_split hk
  unfold takM
  constructor
  · intro hx
    have hi' := hi
    rw [e] at hi'
    unfold Ids at hi'
    rw [List.pairwise_append, List.pairwise_cons] at hi'
    rcases List.mem_append.1 hx with hx | hx
    · exact ⟨List.mem_of_mem_take hx, hi'.2.2 x hx _ (by simp)⟩
    · exact ⟨List.mem_of_mem_drop hx, (hi'.2.1.1 x hx).symm⟩
  · rintro ⟨hx, hn⟩
    rw [e] at hx
    rcases List.mem_append.1 hx with hx | hx
    · exact List.mem_append.2 (.inl hx)
    · rcases List.mem_cons.1 hx with rfl | hx
      · exact absurd rfl hn
      · exact List.mem_append.2 (.inr hx)
theorem takM_out {l : List Mk} (k : Nat) (hk : l.length ≤ k) : takM l k = l := by
  unfold takM
  rw [List.take_of_length_le hk, List.drop_eq_nil_of_le (by omega), List.append_nil]
theorem takM_len {l : List Mk} {k : Nat} (hk : k < l.length) : (takM l k).length + 1 = l.length := by
  unfold takM; simp; omega
theorem takM_pos {l : List Mk} (hi : Ids l) {i : Int} (h : pos l i < l.length) : pos (takM l (pos l i)) i = (takM l (pos l i)).length := by
  rw [pos_none]
  intro x hx
  have := (takM_mem hi h).1 hx
  rw [pos_id h] at this
  exact this.2
theorem Gd.mov {l : List Mk} (h : Gd l) (i f t : Int) : Gd (movL l i f t) := by
  unfold movL
  by_cases he : movE l i f t = 0
  · rw [if_pos he]
    unfold movE at he
    by_cases hp : pos l i < l.length
    · rw [if_pos hp] at he
      by_cases hs : spanOk f t = true
      · have hm := h.ok _ (mgt_mem hp)
        have h2 := takM_len hp
        have h3 := h.len
        refine (h.tak _).put hs (takM_pos h.ids hp) (by omega) ?_
        have := pos_id hp
        exact ⟨by rw [← this]; exact hm.2.1, hm.2.2⟩
      · rw [if_neg hs] at he; omega
    · rw [if_neg hp] at he; omega
  · rw [if_neg he]; exact h
end Go.Proofs.Ytaondjklclpdkaa
