/- The marks of a law put into a set one after another; what a set that lies alone tells. -/
import Derived.Test.YtaondjklclpdkaaTrv
namespace Go.Proofs.Ytaondjklclpdkaa
open Go.RowKit

def insL (ms : List Mk) : Nat → List Mk
  | 0 => []
  | k + 1 => putM (insL ms k) (mgt ms k)
theorem insL_mem (ms : List Mk) (k : Nat) (x : Mk) : x ∈ insL ms k ↔ ∃ i, i < k ∧ x = mgt ms i := by
  induction k with
  | zero => simp [insL]
  | succ k ih =>
    simp only [insL]
    rw [putM_mem, ih]
    constructor
    · rintro (rfl | ⟨i, hi, rfl⟩)
      · exact ⟨k, by omega, rfl⟩
      · exact ⟨i, by omega, rfl⟩
    · rintro ⟨i, hi, rfl⟩
      rcases Nat.lt_or_ge i k with h | h
      · exact .inr ⟨i, h, rfl⟩
      · obtain rfl : i = k := by omega
        exact .inl rfl
theorem insL_len (ms : List Mk) (k : Nat) : (insL ms k).length = k := by
  induction k with
  | zero => rfl
  | succ k ih => simp only [insL]; rw [putM_len, ih]
theorem MkL.span {ms : List Mk} (h : MkL ms) {k : Nat} (hk : k < ms.length) : spanOk (mgt ms k).fr (mgt ms k).to = true := by
  have := h.at_ k hk
  unfold spanOk; apply decide_eq_true; omega
theorem MkL.irs {ms : List Mk} (h : MkL ms) {k : Nat} (hk : k < ms.length) : ir (mgt ms k).id ∧ ir (mgt ms k).pr := by
  have := h.at_ k hk
  have h2 := h.len
  exact ⟨ir_small (by omega), ir_small (by omega)⟩
theorem insL_none {ms : List Mk} (h : MkL ms) {k : Nat} (hk : k < ms.length) : pos (insL ms k) (mgt ms k).id = (insL ms k).length := by
  rw [pos_none]
  intro y hy
  obtain ⟨i, hi, rfl⟩ := (insL_mem ms k y).1 hy
  have h1 := (h.at_ i (by omega)).1
  have h2 := (h.at_ k hk).1
  omega
theorem insL_gd {ms : List Mk} (h : MkL ms) : ∀ k, k ≤ ms.length → Gd (insL ms k) := by
  intro k
  induction k with
  | zero => intro _; exact Gd.nil
  | succ k ih =>
    intro hk
    have := h.len
    exact (ih (by omega)).put (h.span (by omega)) (insL_none h (by omega)) (by rw [insL_len]; omega) (h.irs (by omega))
theorem insL_add {ms : List Mk} (h : MkL ms) {k : Nat} (hk : k < ms.length) : addE (insL ms k) (mgt ms k) = 0 ∧ addL (insL ms k) (mgt ms k) = insL ms (k + 1) := by
  have := h.len
  have h1 : addE (insL ms k) (mgt ms k) = 0 := addE_zero.2 ⟨h.span hk, insL_none h hk, by rw [insL_len]; omega⟩
  exact ⟨h1, by unfold addL; rw [if_pos h1]; rfl⟩
theorem one_stab {B : Nat} {w : World} {s : Nat} {l : List Mk} (q : Int) (h : One B w s l) (g : Gd l) : Calls Try.prog 19 #[.pointer (some ⟨s, 0, none⟩), .int .i64 q] w (IMakes w (stL q l)) := by
  obtain ⟨F, h1, h2, h3⟩ := h
  exact sstab_c q s l w F h1 g
theorem one_within {B : Nat} {w : World} {s : Nat} {l : List Mk} (f q : Int) (h : One B w s l) (g : Gd l) : Calls Try.prog 20 #[.pointer (some ⟨s, 0, none⟩), .int .i64 f, .int .i64 q] w (IMakes w (wiL f q l)) := by
  obtain ⟨F, h1, h2, h3⟩ := h
  exact swithin_c f q s l w F h1 g
/-- a set whose blocks are none of P's -/
def OneP (B : Nat) (P : Nat → Prop) (w : World) (s : Nat) (l : List Mk) : Prop := ∃ F, SetL w F s l ∧ (∀ k, F k → B ≤ k ∧ ¬ P k) ∧ B ≤ w.heap.size
theorem One.fresh {B : Nat} {w w' : World} {s : Nat} {l : List Mk} (h : One B w s l) (hb : Below w.heap.size w w') : OneP B (fun k => w.heap.size ≤ k) w' s l := by
  obtain ⟨F, h1, h2, h3⟩ := h
  exact ⟨_, h1.lt.bel hb, fun k hk => ⟨h2 k hk.1, fun hp => by omega⟩, Nat.le_trans h3 hb.size⟩
theorem one_addP {B : Nat} {P : Nat → Prop} {w : World} {s : Nat} {l : List Mk} (m : Mk) (h : OneP B P w s l) (g : Gd l) (hi : ir m.id ∧ ir m.pr) {x : Int} {l' : List Mk} (hx : addE l m = x) (hl : addL l m = l') :
    Calls Try.prog 14 #[.pointer (some ⟨s, 0, none⟩), (.agg #[.int .i64 m.id, .int .i64 m.fr, .int .i64 m.to, .int .i64 m.pr])] w fun e w' => e = .returned (.int .i64 x) ∧ One B w' s l' ∧ Below B w w' ∧ ∀ k, (P k ∧ k < w.heap.size) → w'.heap[k]? = w.heap[k]? := by
  subst hx; subst hl
  obtain ⟨F, h1, h2, h3⟩ := h
  refine (add_c m s l w F h1 g hi).mono ?_
  rintro e w' ⟨rfl, k1, k2⟩
  refine ⟨rfl, ⟨_, k1, ?_, Nat.le_trans h3 k2.size⟩, k2.below (fun k hk => (h2 k hk).1) h3, fun k hk => k2.block k hk.2 fun hf => (h2 k hf).2 hk.1⟩
  rintro k (hk | hk)
  · exact (h2 k hk).1
  · omega
end Go.Proofs.Ytaondjklclpdkaa
