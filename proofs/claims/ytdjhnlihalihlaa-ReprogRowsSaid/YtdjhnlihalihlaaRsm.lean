/- A middle part of a slice of records. -/
import Derived.Test.YtdjhnlihalihlaaRow
namespace Go.Proofs.Ytdjhnlihalihlaa
open Go.RowKit Go.ChangeShapes Go.WideShapes Go.ChangeAt

theorem rslice_mid {α : Type} {E : Enc α} {e : TypeId} {P : Program} {t : TypeId} (T : Ty P E t e) {w : World} {a : Option Addr} {l : List α} (h : RSl E w a l) (n m c : Nat) (hnm : n ≤ m) (hm : m ≤ l.length) (hlc : l.length ≤ c) :
    ∃ a' c' D, Hid (D = (l.take m).drop n) ∧ RSl E w a' D ∧ D.length ≤ c' ∧ ∀ w', (Instr.slice t (.slice a l.length c) (some (.int .i64 n)) (some (.int .i64 m)) none).run P w' = .ok (.slice a' D.length c') w' := by
  have h1 := h.cut n m c hnm hm hlc
  refine ⟨_, c - n, _, rfl, h1, by simp; omega, fun w' => ?_⟩
  rw [run_slice_lh _ _ _ _ _ T.elem .i64 .i64 n m (by omega) (by omega) (by have := h.len; have := T.max; omega)]
  simp [T.size, Result.andThen, sliced, Nat.min_eq_left hm]
end Go.Proofs.Ytdjhnlihalihlaa
