/- Slices of fields (api.Field): eleven cells; what a law of layer 18 reads of them is the kind and the number. -/
import Derived.Test.YthkkpcfmifhllaaFlM
import Derived.Test.YthkkpcfmifhllaaRoa
import Derived.Test.YthkkpcfmifhllaaInts
namespace Go.Proofs.Ythkkpcfmifhllaa
open Go.RowKit Go.ChangeShapes Go.WideShapes Go.ChangeAt Go.Deep

theorem Try.tyFl : Ty Try.prog encFl 22 33 where
  und := Try.underlying22
  info := ⟨.agg #[.int .i64 0, .int .i64 0, .int .i64 0, .int .i64 0, .int .i64 0, .int .i64 0, .slice none 0 0, .slice none 0 0, .slice none 0 0, .bool false, .bool false], 128, by kernel_rfl, by rfl, by decide⟩
  elem := by kernel_rfl
  size := fun w => by kernel_rfl
  max := by decide
section
variable {H : Type} {enc : TypeId × Value → H}
theorem any_slice {W : World} {T e : TypeId} {fuel : Nat} {cs : List Value} {y : DataW H × List MemPlace} (hT : Try.prog.underlying T = some (.slice e)) (hf : DataW.trod enc Try.prog W 0 (fun _ => true) true fuel T cs = some y) : ∃ a n c, cs = [.slice a n c] := by
  rcases open_slice hT hf with ⟨hcs, _⟩ | ⟨a, n, c, _, _, _, _, hcs, _⟩
  · exact ⟨none, 0, 0, hcs⟩
  · exact ⟨some a, n, c, hcs⟩
/-- its kind and its number are ints -/
def FlOk (m : Fl) : Prop := (-9223372036854775808 ≤ m.kind ∧ m.kind ≤ 9223372036854775807) ∧ (-9223372036854775808 ≤ m.num ∧ m.num ≤ 9223372036854775807)
theorem fl_cells {W : World} (fuel : Nat) (cs : List Value) (x : DataW H × List MemPlace) (h : DataW.trod enc Try.prog W 0 (fun _ => true) true fuel 33 cs = some x) : ∃ m : Fl, cs = encFl.v m ∧ FlOk m := by
  obtain ⟨xs, n, _, hx, hcl, hlen, hg⟩ := DataW.trod_struct Try.underlying33 h
  rw [show Try.prog.cellsOf 33 = 11 by kernel_rfl] at hcl
  match xs, hlen with
  | [y0, y1, y2, y3, y4, y5, y6, y7, y8, y9, y10], _ =>
    obtain ⟨e0, e1, e2, e3, e4, e5, e6, e7, e8, e9, e10, rfl⟩ : ∃ e0 e1 e2 e3 e4 e5 e6 e7 e8 e9 e10, cs = [e0, e1, e2, e3, e4, e5, e6, e7, e8, e9, e10] := by
      match cs, hcl with
      | [e0, e1, e2, e3, e4, e5, e6, e7, e8, e9, e10], _ => exact ⟨e0, e1, e2, e3, e4, e5, e6, e7, e8, e9, e10, rfl⟩
    have g0 : DataW.trod enc Try.prog W 0 (fun _ => true) true n 3 (List.take (Try.prog.cellsOf 3) [e0, e1, e2, e3, e4, e5, e6, e7, e8, e9, e10]) = some y0 := hg 0 _ rfl
    rw [show Try.prog.cellsOf 3 = 1 by kernel_rfl] at g0
    simp only [List.take_succ_cons, List.take_zero] at g0
    have g1 : DataW.trod enc Try.prog W 0 (fun _ => true) true n 3 (List.take (Try.prog.cellsOf 3) [e1, e2, e3, e4, e5, e6, e7, e8, e9, e10]) = some y1 := hg 1 _ rfl
    rw [show Try.prog.cellsOf 3 = 1 by kernel_rfl] at g1
    simp only [List.take_succ_cons, List.take_zero] at g1
    have g2 : DataW.trod enc Try.prog W 0 (fun _ => true) true n 3 (List.take (Try.prog.cellsOf 3) [e2, e3, e4, e5, e6, e7, e8, e9, e10]) = some y2 := hg 2 _ rfl
    rw [show Try.prog.cellsOf 3 = 1 by kernel_rfl] at g2
    simp only [List.take_succ_cons, List.take_zero] at g2
    have g3 : DataW.trod enc Try.prog W 0 (fun _ => true) true n 3 (List.take (Try.prog.cellsOf 3) [e3, e4, e5, e6, e7, e8, e9, e10]) = some y3 := hg 3 _ rfl
    rw [show Try.prog.cellsOf 3 = 1 by kernel_rfl] at g3
    simp only [List.take_succ_cons, List.take_zero] at g3
    have g4 : DataW.trod enc Try.prog W 0 (fun _ => true) true n 3 (List.take (Try.prog.cellsOf 3) [e4, e5, e6, e7, e8, e9, e10]) = some y4 := hg 4 _ rfl
    rw [show Try.prog.cellsOf 3 = 1 by kernel_rfl] at g4
    simp only [List.take_succ_cons, List.take_zero] at g4
    have g5 : DataW.trod enc Try.prog W 0 (fun _ => true) true n 3 (List.take (Try.prog.cellsOf 3) [e5, e6, e7, e8, e9, e10]) = some y5 := hg 5 _ rfl
    rw [show Try.prog.cellsOf 3 = 1 by kernel_rfl] at g5
    simp only [List.take_succ_cons, List.take_zero] at g5
    have g6 : DataW.trod enc Try.prog W 0 (fun _ => true) true n 29 (List.take (Try.prog.cellsOf 29) [e6, e7, e8, e9, e10]) = some y6 := hg 6 _ rfl
    rw [show Try.prog.cellsOf 29 = 1 by kernel_rfl] at g6
    simp only [List.take_succ_cons, List.take_zero] at g6
    have g7 : DataW.trod enc Try.prog W 0 (fun _ => true) true n 30 (List.take (Try.prog.cellsOf 30) [e7, e8, e9, e10]) = some y7 := hg 7 _ rfl
    rw [show Try.prog.cellsOf 30 = 1 by kernel_rfl] at g7
    simp only [List.take_succ_cons, List.take_zero] at g7
    have g8 : DataW.trod enc Try.prog W 0 (fun _ => true) true n 31 (List.take (Try.prog.cellsOf 31) [e8, e9, e10]) = some y8 := hg 8 _ rfl
    rw [show Try.prog.cellsOf 31 = 1 by kernel_rfl] at g8
    simp only [List.take_succ_cons, List.take_zero] at g8
    have g9 : DataW.trod enc Try.prog W 0 (fun _ => true) true n 4 (List.take (Try.prog.cellsOf 4) [e9, e10]) = some y9 := hg 9 _ rfl
    rw [show Try.prog.cellsOf 4 = 1 by kernel_rfl] at g9
    simp only [List.take_succ_cons, List.take_zero] at g9
    have g10 : DataW.trod enc Try.prog W 0 (fun _ => true) true n 4 (List.take (Try.prog.cellsOf 4) [e10]) = some y10 := hg 10 _ rfl
    rw [show Try.prog.cellsOf 4 = 1 by kernel_rfl] at g10
    simp only [List.take_succ_cons, List.take_zero] at g10
    obtain ⟨z0, h0, _, x0⟩ := DataW.trod_int Try.underlying3 g0
    obtain ⟨z1, h1, _, x1⟩ := DataW.trod_int Try.underlying3 g1
    obtain ⟨z2, h2, _, _⟩ := DataW.trod_int Try.underlying3 g2
    obtain ⟨z3, h3, _, _⟩ := DataW.trod_int Try.underlying3 g3
    obtain ⟨z4, h4, _, _⟩ := DataW.trod_int Try.underlying3 g4
    obtain ⟨z5, h5, _, _⟩ := DataW.trod_int Try.underlying3 g5
    obtain ⟨a6, n6, c6, h6⟩ := any_slice Try.underlying29 g6
    obtain ⟨a7, n7, c7, h7⟩ := any_slice Try.underlying30 g7
    obtain ⟨a8, n8, c8, h8⟩ := any_slice Try.underlying31 g8
    obtain ⟨b9, h9, _⟩ := DataW.trod_bool Try.underlying4 g9
    obtain ⟨b10, h10, _⟩ := DataW.trod_bool Try.underlying4 g10
    simp only [List.cons.injEq, and_true] at h0 h1 h2 h3 h4 h5 h6 h7 h8 h9 h10
    subst h0 h1 h2 h3 h4 h5 h6 h7 h8 h9 h10
    exact ⟨⟨z0, z1, z2, z3, z4, z5, a6, n6, c6, a7, n7, c7, a8, n8, c8, b9, b10⟩, rfl, wf_i64 x0, wf_i64 x1⟩
/-- a list of fields as an argument -/
theorem open_flds {W : World} {base : Nat} {v : Value} {d : DataW H} {p : List MemPlace} (hv : Value.okWide Try.prog W .any base 22 v) (h : DataW.Trod enc Try.prog W 0 (fun _ => true) true 22 v d p) :
    ∃ (a : Option Addr) (l : List Fl) (c : Nat), v = .slice a l.length c ∧ l.length ≤ c ∧ (d = .nil ∧ c = 0 ∨ ∃ es sp, d = .slice es sp ∧ es.length + sp.length = c) ∧ (∀ m, m ∈ l → FlOk m) ∧ (l.length ≤ 1099511627776 → RSl encFl W a l) := by
  obtain ⟨a, l, c, h1, h2, h3, h4, h5⟩ := open_recs Try.underlying22 (show Try.prog.cellsOf 33 = 11 by kernel_rfl) (by decide) fl_cells hv h
  exact ⟨a, l, c, h1, h2, h3, h4, fun hl => RecAt.rsl (E := encFl) h5 hl⟩
theorem flds_sized {ts : List TypeId} {ds : List (DataW H)} {d : DataW H} {c : Nat} (h : (DataW.weightsEach Try.prog ts ds).all (· ≤ reachBytes) = true) (j : Nat)
    (ht : ts[j]? = some 22) (hd : ds[j]? = some d) (hc : d = .nil ∧ c = 0 ∨ ∃ es sp, d = .slice es sp ∧ es.length + sp.length = c) : c ≤ 1099511627776 := by
  rcases hc with ⟨_, rfl⟩ | ⟨es, sp, rfl, rfl⟩
  · omega
  · have := sized_slice h ht hd Try.underlying22
    rw [show Try.prog.bytesOf 33 = 128 by kernel_rfl] at this
    simp only [reachBytes] at this
    omega
end
end Go.Proofs.Ythkkpcfmifhllaa
