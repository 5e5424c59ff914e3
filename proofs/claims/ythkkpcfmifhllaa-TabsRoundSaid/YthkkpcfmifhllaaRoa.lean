/- A slice of records as an argument (XRec) is a slice of records (XRow). -/
import Derived.Test.YthkkpcfmifhllaaRow
import Derived.Test.YthkkpcfmifhllaaRec
namespace Go.Proofs.Ythkkpcfmifhllaa
open Go.RowKit Go.ChangeShapes Go.WideShapes Go.ChangeAt

theorem RecAt.rsl {α : Type} [Inhabited α] {E : Enc α} {w : World} {a : Option Addr} {l : List α} (h : RecAt E.k E.v w a l) (hl : l.length ≤ E.cap) : RSl E w a l := by
  refine ⟨hl, ?_⟩
  rcases h with h | ⟨b, off, ha, hc⟩
  · exact .inl h
  · refine .inr ⟨b, off, ha, fun n u hu => ?_⟩
    have hn : n < l.length * E.k := by
      have := (List.getElem?_eq_some_iff.1 hu).1
      rwa [rflat_len] at this
    have hi : n / E.k < l.length := Nat.div_lt_of_lt_mul (by rw [Nat.mul_comm]; exact hn)
    have hj : n % E.k < E.k := Nat.mod_lt _ E.pos
    have hnn : n / E.k * E.k + n % E.k = n := by rw [Nat.mul_comm]; exact Nat.div_add_mod n E.k
    have e := rflat_at (E := E) l hi hj
    rw [hnn, hu, rgt_get hi] at e
    have := hc _ hi _ u e.symm
    rwa [Nat.add_assoc, hnn] at this
end Go.Proofs.Ythkkpcfmifhllaa
