/- A change, and a list of changes, as arguments. -/
import Derived.Test.YthciodfkhgpegaaChs
import Derived.Deep.Slices
import Derived.Deep.Fields
import Derived.Lib.SmallJoins
namespace Go.Proofs.Ythciodfkhgpegaa
open Go.RowKit Go.ChangeShapes Go.WideShapes Go.ChangeAt Go.Deep Go.Joins

theorem Try.cellsCh : Try.prog.cellsOf 24 = 3 := by kernel_rfl
theorem Try.bytesCh : Try.prog.bytesOf 24 = 56 := by kernel_rfl
theorem Try.cellsInt : Try.prog.cellsOf 3 = 1 := by kernel_rfl
theorem Try.cellsRunes : Try.prog.cellsOf 22 = 1 := by kernel_rfl

section
variable {H : Type} {enc : TypeId × Value → H}
/-- a slice of runes that was read: what its capacity is -/
def Cp (Y : DataW H) (c : Nat) : Prop := Y = .nil ∧ c = 0 ∨ ∃ es sp, Y = .slice es sp ∧ es.length + sp.length = c
/-- what the cell of a []int32 reads as -/
theorem runes_cell {W : World} {fuel : Nat} {cs : List Value} {y : DataW H × List MemPlace} (hf : DataW.trod enc Try.prog W 0 (fun _ => true) true fuel 22 cs = some y) :
    ∃ a l c, cs = [.slice a (l : List Int).length c] ∧ l.length ≤ c ∧ Cp y.1 c ∧ (l.length ≤ 35184372088832 → Sl W a l) := by
  rcases open_ints Try.underlying22 Try.underlying21 Try.cellsI32 hf with ⟨hcs, hx⟩ | ⟨a, len', cap', zs, hcs, _, hl, hm, hz, hx, hcell, hwz⟩
  · exact ⟨none, [], 0, hcs, by simp, .inl ⟨by rw [hx], rfl⟩, fun _ => Sl.nil _ _⟩
  · simp only [if_true] at hz
    have hlen : (zs.take len').length = len' := by rw [List.length_take]; omega
    refine ⟨some a, zs.take len', cap', by rw [hlen]; exact hcs, by omega, .inr ⟨_, _, by rw [hx], by simp [lits]; omega⟩, fun hle => ?_⟩
    refine ⟨hle, fun x hx => wf_i32 (hwz x (List.mem_of_mem_take hx)), ?_⟩
    by_cases h0 : zs.take len' = []
    · exact .inl h0
    · have hpos : 0 < len' := by
        rcases Nat.eq_zero_or_pos len' with h | h
        · subst h; simp at h0
        · exact h
      have hsp : a.spot = none := by
        have := hcell 0 (by omega)
        obtain ⟨b, o, sp⟩ := a
        cases sp with
        | none => rfl
        | some s =>
          simp only [Addr.add, if_true, World.cell?] at this
          split at this <;> simp_all
      obtain ⟨b, o, sp⟩ := a
      simp only at hsp; subst hsp
      refine .inr ⟨b, o, rfl, fun i hi => ?_⟩
      have h1 := hcell i (by omega)
      rw [gt_get hi]
      have h2 : (⟨b, o, none⟩ : Addr).add i = ⟨b, o + i, none⟩ := by unfold Addr.add; split <;> simp_all
      rw [h2] at h1
      rw [h1]
      simp [List.getD, List.getElem?_eq_getElem (show i < zs.length by omega)]
/-- a change opened -/
theorem change_cells {W : World} {fuel : Nat} {cs : List Value} {x : DataW H × List MemPlace} (h : DataW.trod enc Try.prog W 0 (fun _ => true) true fuel 24 cs = some x) :
    ∃ (m : Cm) (Y Z : DataW H), cs = cmv m ∧ x.1 = .agg [.lit (.int .i64 m.at_), Y, Z] ∧ Cp Y m.cc ∧ Cp Z m.pc ∧ m.cut.length ≤ m.cc ∧ m.put.length ≤ m.pc ∧
      (m.cut.length ≤ 35184372088832 → m.put.length ≤ 35184372088832 → CmOk W m) := by
  obtain ⟨xs, n, _, hx, hcl, hlen, hg⟩ := DataW.trod_struct Try.underlying24 h
  rw [Try.cellsCh] at hcl
  match xs, hlen with
  | [y0, y1, y2], _ =>
    obtain ⟨e0, e1, e2, rfl⟩ : ∃ e0 e1 e2, cs = [e0, e1, e2] := by
      match cs, hcl with
      | [e0, e1, e2], _ => exact ⟨e0, e1, e2, rfl⟩
    have g0 : DataW.trod enc Try.prog W 0 (fun _ => true) true n 3 (List.take (Try.prog.cellsOf 3) [e0, e1, e2]) = some y0 := hg 0 _ rfl
    have g1 : DataW.trod enc Try.prog W 0 (fun _ => true) true n 22 (List.take (Try.prog.cellsOf 22) [e1, e2]) = some y1 := hg 1 _ rfl
    have g2 : DataW.trod enc Try.prog W 0 (fun _ => true) true n 22 (List.take (Try.prog.cellsOf 22) [e2]) = some y2 := hg 2 _ rfl
    rw [Try.cellsInt] at g0
    rw [Try.cellsRunes] at g1 g2
    simp only [List.take_succ_cons, List.take_zero] at g0 g1 g2
    obtain ⟨z0, h0, r0, w0⟩ := DataW.trod_int Try.underlying3 g0
    obtain ⟨a1, l1, c1, h1, hlc1, hY1, hS1⟩ := runes_cell g1
    obtain ⟨a2, l2, c2, h2, hlc2, hY2, hS2⟩ := runes_cell g2
    simp only [List.cons.injEq, and_true] at h0 h1 h2
    subst h0 h1 h2
    exact ⟨⟨z0, a1, l1, c1, a2, l2, c2⟩, y1.1, y2.1, rfl, by rw [hx]; simp [r0], hY1, hY2, hlc1, hlc2, fun p q => ⟨wf_i64 w0, hS1 p, hS2 q, hlc1, hlc2⟩⟩
/-- a change by value opened -/
theorem open_change {W : World} {base : Nat} {v : Value} {d : DataW H} {p : List MemPlace} (hv : Value.okWide Try.prog W .any base 24 v)
    (h : DataW.Trod enc Try.prog W 0 (fun _ => true) true 24 v d p) :
    ∃ (m : Cm) (Y Z : DataW H), v = .agg #[.int .i64 m.at_, .slice m.ca m.cut.length m.cc, .slice m.pa m.put.length m.pc] ∧ d = .agg [.lit (.int .i64 m.at_), Y, Z] ∧ Cp Y m.cc ∧ Cp Z m.pc ∧ m.cut.length ≤ m.cc ∧ m.put.length ≤ m.pc ∧
      (m.cut.length ≤ 35184372088832 → m.put.length ≤ 35184372088832 → CmOk W m) := by
  obtain ⟨v0, v1, v2, y0, y1, y2, n, rfl, rfl, rfl, g0, g1, g2⟩ := open_agg3 Try.underlying24 (by kernel_rfl) Try.cellsCh hv h
  obtain ⟨z0, h0, r0, w0⟩ := DataW.trod_int Try.underlying3 g0
  obtain ⟨a1, l1, c1, h1, hlc1, hY1, hS1⟩ := runes_cell g1
  obtain ⟨a2, l2, c2, h2, hlc2, hY2, hS2⟩ := runes_cell g2
  simp only [List.cons.injEq, and_true] at h0 h1 h2
  subst h0 h1 h2
  exact ⟨⟨z0, a1, l1, c1, a2, l2, c2⟩, y1.1, y2.1, rfl, by simp [r0], hY1, hY2, hlc1, hlc2, fun p q => ⟨wf_i64 w0, hS1 p, hS2 q, hlc1, hlc2⟩⟩
/-- a span by value opened -/
theorem open_span {W : World} {base : Nat} {v : Value} {d : DataW H} {p : List MemPlace} (hv : Value.okWide Try.prog W .any base 26 v)
    (h : DataW.Trod enc Try.prog W 0 (fun _ => true) true 26 v d p) :
    ∃ x y : Int, v = .agg #[.int .i64 x, .int .i64 y] ∧ d = .agg [.lit (.int .i64 x), .lit (.int .i64 y)] ∧ ir x ∧ ir y := by
  obtain ⟨v0, v1, y0, y1, n, rfl, rfl, rfl, g0, g1⟩ := open_agg2 Try.underlying26 (by kernel_rfl) (by kernel_rfl) hv h
  obtain ⟨z0, h0, r0, w0⟩ := DataW.trod_int Try.underlying3 g0
  obtain ⟨z1, h1, r1, w1⟩ := DataW.trod_int Try.underlying3 g1
  simp only [List.cons.injEq, and_true] at h0 h1
  subst h0 h1
  exact ⟨z0, z1, rfl, by simp [r0, r1], wf_i64 w0, wf_i64 w1⟩
theorem mem_weightsAll {e : TypeId} {D : DataW H} {x : Nat} : ∀ {es : List (DataW H)}, D ∈ es → x ∈ D.weights Try.prog e → x ∈ DataW.weightsAll Try.prog e es
  | E :: es, h, hx => by
    simp only [DataW.weightsAll, List.mem_append]
    rcases List.mem_cons.1 h with rfl | h
    · exact .inl hx
    · exact .inr (mem_weightsAll h hx)
theorem change_weight1 (z0 : Int) (es sp : List (DataW H)) (Z : DataW H) : (es.length + sp.length) * 4 ∈ (DataW.agg [.lit (.int .i64 z0), .slice es sp, Z] : DataW H).weights Try.prog 24 := by
  simp [DataW.weights, DataW.weightsEach, Try.underlying24, Try.underlying22, Try.bytesI32]
theorem change_weight2 (z0 : Int) (es sp : List (DataW H)) (Y : DataW H) : (es.length + sp.length) * 4 ∈ (DataW.agg [.lit (.int .i64 z0), Y, .slice es sp] : DataW H).weights Try.prog 24 := by
  simp [DataW.weights, DataW.weightsEach, Try.underlying24, Try.underlying22, Try.bytesI32]
/-- the reach pays a change -/
theorem change_sized {ts : List TypeId} {ds : List (DataW H)} {m : Cm} {Y Z : DataW H} (hsz : (DataW.weightsEach Try.prog ts ds).all (· ≤ reachBytes) = true) (j : Nat) (ht : ts[j]? = some 24) (hd : ds[j]? = some (.agg [.lit (.int .i64 m.at_), Y, Z]))
    (hY : Cp Y m.cc) (hZ : Cp Z m.pc) : m.cc ≤ 35184372087808 ∧ m.pc ≤ 35184372087808 := by
  refine ⟨?_, ?_⟩
  · rcases hY with ⟨_, h0⟩ | ⟨es, sp, rfl, hl⟩
    · omega
    · have := List.all_eq_true.1 hsz _ (DataW.weights_mem_each ht hd _ (change_weight1 _ es sp Z))
      have h9 : (es.length + sp.length) * 4 ≤ reachBytes := by simpa using this
      simp only [reachBytes] at h9
      omega
  · rcases hZ with ⟨_, h0⟩ | ⟨es, sp, rfl, hl⟩
    · omega
    · have := List.all_eq_true.1 hsz _ (DataW.weights_mem_each ht hd _ (change_weight2 _ es sp Y))
      have h9 : (es.length + sp.length) * 4 ≤ reachBytes := by simpa using this
      simp only [reachBytes] at h9
      omega
end
end Go.Proofs.Ythciodfkhgpegaa
