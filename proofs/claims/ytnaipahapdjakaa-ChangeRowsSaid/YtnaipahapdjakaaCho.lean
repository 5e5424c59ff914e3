/- A change, and a list of changes, as arguments. -/
import Derived.Test.YtnaipahapdjakaaChs
import Derived.Deep.Slices
import Derived.Deep.Fields
import Derived.Lib.SmallJoins
namespace Go.Proofs.Ytnaipahapdjakaa
open Go.RowKit Go.ChangeShapes Go.WideShapes Go.ChangeAt Go.Deep Go.Joins

theorem Try.cellsCh : Try.prog.cellsOf 24 = 3 := by kernel_rfl
theorem Try.bytesCh : Try.prog.bytesOf 24 = 56 := by kernel_rfl
theorem Try.cellsInt : Try.prog.cellsOf 3 = 1 := by kernel_rfl
theorem Try.cellsRunes : Try.prog.cellsOf 22 = 1 := by kernel_rfl

section
variable {H : Type} {enc : TypeId × Value → H}
/-- a slice of runes that was read: what its capacity is -/
def Cp (Y : DataW H) (c : Nat) : Prop := Y = .nil ∧ c = 0 ∨ ∃ es sp, Y = .slice es sp ∧ es.length + sp.length = c
/-- what the cell of a []int32 reads as -/
theorem runes_cell {W : World} {fuel : Nat} {cs : List Value} {y : DataW H × List MemPlace} (hf : DataW.trod enc Try.prog W 0 (fun _ => true) true fuel 22 cs = some y) :
    ∃ a l c, cs = [.slice a (l : List Int).length c] ∧ l.length ≤ c ∧ Cp y.1 c ∧ (l.length ≤ 35184372088832 → Sl W a l) := by
  rcases open_ints Try.underlying22 Try.underlying21 Try.cellsI32 hf with ⟨hcs, hx⟩ | ⟨a, len', cap', zs, hcs, _, hl, hm, hz, hx, hcell, hwz⟩
  · exact ⟨none, [], 0, hcs, by simp, .inl ⟨by rw [hx], rfl⟩, fun _ => Sl.nil _ _⟩
  · simp only [if_true] at hz
    have hlen : (zs.take len').length = len' := by rw [List.length_take]; omega
    refine ⟨some a, zs.take len', cap', by rw [hlen]; exact hcs, by omega, .inr ⟨_, _, by rw [hx], by simp [lits]; omega⟩, fun hle => ?_⟩
    refine ⟨hle, fun x hx => wf_i32 (hwz x (List.mem_of_mem_take hx)), ?_⟩
    by_cases h0 : zs.take len' = []
    · exact .inl h0
    · have hpos : 0 < len' := by
        rcases Nat.eq_zero_or_pos len' with h | h
        · subst h; simp at h0
        · exact h
      have hsp : a.spot = none := by
        have := hcell 0 (by omega)
        obtain ⟨b, o, sp⟩ := a
        cases sp with
        | none => rfl
        | some s =>
          simp only [Addr.add, if_true, World.cell?] at this
          split at this <;> simp_all
      obtain ⟨b, o, sp⟩ := a
      simp only at hsp; subst hsp
      refine .inr ⟨b, o, rfl, fun i hi => ?_⟩
      have h1 := hcell i (by omega)
      rw [gt_get hi]
      have h2 : (⟨b, o, none⟩ : Addr).add i = ⟨b, o + i, none⟩ := by unfold Addr.add; split <;> simp_all
      rw [h2] at h1
      rw [h1]
      simp [List.getD, List.getElem?_eq_getElem (show i < zs.length by omega)]
/-- a change opened -/
theorem change_cells {W : World} {fuel : Nat} {cs : List Value} {x : DataW H × List MemPlace} (h : DataW.trod enc Try.prog W 0 (fun _ => true) true fuel 24 cs = some x) :
    ∃ (m : Cm) (Y Z : DataW H), cs = cmv m ∧ x.1 = .agg [.lit (.int .i64 m.at_), Y, Z] ∧ Cp Y m.cc ∧ Cp Z m.pc ∧ m.cut.length ≤ m.cc ∧ m.put.length ≤ m.pc ∧
      (m.cut.length ≤ 35184372088832 → m.put.length ≤ 35184372088832 → CmOk W m) := by
  obtain ⟨xs, n, _, hx, hcl, hlen, hg⟩ := DataW.trod_struct Try.underlying24 h
  rw [Try.cellsCh] at hcl
  match xs, hlen with
  | [y0, y1, y2], _ =>
    obtain ⟨e0, e1, e2, rfl⟩ : ∃ e0 e1 e2, cs = [e0, e1, e2] := by
      match cs, hcl with
      | [e0, e1, e2], _ => exact ⟨e0, e1, e2, rfl⟩
    have g0 : DataW.trod enc Try.prog W 0 (fun _ => true) true n 3 (List.take (Try.prog.cellsOf 3) [e0, e1, e2]) = some y0 := hg 0 _ rfl
    have g1 : DataW.trod enc Try.prog W 0 (fun _ => true) true n 22 (List.take (Try.prog.cellsOf 22) [e1, e2]) = some y1 := hg 1 _ rfl
    have g2 : DataW.trod enc Try.prog W 0 (fun _ => true) true n 22 (List.take (Try.prog.cellsOf 22) [e2]) = some y2 := hg 2 _ rfl
    rw [Try.cellsInt] at g0
    rw [Try.cellsRunes] at g1 g2
    simp only [List.take_succ_cons, List.take_zero] at g0 g1 g2
    obtain ⟨z0, h0, r0, w0⟩ := DataW.trod_int Try.underlying3 g0
    obtain ⟨a1, l1, c1, h1, hlc1, hY1, hS1⟩ := runes_cell g1
    obtain ⟨a2, l2, c2, h2, hlc2, hY2, hS2⟩ := runes_cell g2
    simp only [List.cons.injEq, and_true] at h0 h1 h2
    subst h0 h1 h2
    exact ⟨⟨z0, a1, l1, c1, a2, l2, c2⟩, y1.1, y2.1, rfl, by rw [hx]; simp [r0], hY1, hY2, hlc1, hlc2, fun p q => ⟨wf_i64 w0, hS1 p, hS2 q, hlc1, hlc2⟩⟩
/-- a change by value opened -/
theorem open_change {W : World} {base : Nat} {v : Value} {d : DataW H} {p : List MemPlace} (hv : Value.okWide Try.prog W .any base 24 v)
    (h : DataW.Trod enc Try.prog W 0 (fun _ => true) true 24 v d p) :
    ∃ (m : Cm) (Y Z : DataW H), v = .agg #[.int .i64 m.at_, .slice m.ca m.cut.length m.cc, .slice m.pa m.put.length m.pc] ∧ d = .agg [.lit (.int .i64 m.at_), Y, Z] ∧ Cp Y m.cc ∧ Cp Z m.pc ∧ m.cut.length ≤ m.cc ∧ m.put.length ≤ m.pc ∧
      (m.cut.length ≤ 35184372088832 → m.put.length ≤ 35184372088832 → CmOk W m) := by
  obtain ⟨v0, v1, v2, y0, y1, y2, n, rfl, rfl, rfl, g0, g1, g2⟩ := open_agg3 Try.underlying24 (by kernel_rfl) Try.cellsCh hv h
  obtain ⟨z0, h0, r0, w0⟩ := DataW.trod_int Try.underlying3 g0
  obtain ⟨a1, l1, c1, h1, hlc1, hY1, hS1⟩ := runes_cell g1
  obtain ⟨a2, l2, c2, h2, hlc2, hY2, hS2⟩ := runes_cell g2
  simp only [List.cons.injEq, and_true] at h0 h1 h2
  subst h0 h1 h2
  exact ⟨⟨z0, a1, l1, c1, a2, l2, c2⟩, y1.1, y2.1, rfl, by simp [r0], hY1, hY2, hlc1, hlc2, fun p q => ⟨wf_i64 w0, hS1 p, hS2 q, hlc1, hlc2⟩⟩
/-- the list opened -/
theorem open_changes {W : World} {base : Nat} {v : Value} {d : DataW H} {p : List MemPlace} (hv : Value.okWide Try.prog W .any base 34 v)
    (h : DataW.Trod enc Try.prog W 0 (fun _ => true) true 34 v d p) :
    ∃ (a : Option Addr) (l : List Cm) (c : Nat), v = .slice a l.length c ∧ l.length ≤ c ∧ ((l = [] ∧ c = 0) ∨ ∃ es sp, d = .slice es sp ∧ es.length + sp.length = c ∧ ∀ m, m ∈ l → ∃ D Y Z, D ∈ es ∧ D = .agg [.lit (.int .i64 m.at_), Y, Z] ∧ Cp Y m.cc ∧ Cp Z m.pc) ∧
      (∀ m, m ∈ l → m.cut.length ≤ m.cc ∧ m.put.length ≤ m.pc) ∧ (l.length ≤ 2513169434916 → (∀ m, m ∈ l → m.cut.length ≤ 35184372088832 ∧ m.put.length ≤ 35184372088832) → CSl W a l ∧ Cms W l) := by
  obtain ⟨a0, len, cap, rfl⟩ := okWide_slice Try.underlying34 hv
  obtain ⟨fuel, hf⟩ := h
  rcases open_slice Try.underlying34 hf with ⟨hcs, hx⟩ | ⟨a, len', cap', m, n, D, Pl, hcs, hb, hl, hm, hmm, hx, hi⟩
  · simp only [Value.cells, List.cons.injEq, and_true, Value.slice.injEq] at hcs
    obtain ⟨rfl, rfl, rfl⟩ := hcs
    exact ⟨none, [], 0, rfl, by simp, .inl ⟨rfl, rfl⟩, (fun m hm => by cases hm), fun _ _ => ⟨CSl.nil _ _, Cms.nil _⟩⟩
  · simp only [Value.cells, List.cons.injEq, and_true, Value.slice.injEq] at hcs
    obtain ⟨rfl, rfl, rfl⟩ := hcs
    simp only [if_true] at hmm
    subst hmm
    simp only [Prod.mk.injEq] at hx
    have hall : ∀ i, i < len → ∃ e : Cm × DataW H × DataW H, D i = .agg [.lit (.int .i64 e.1.at_), e.2.1, e.2.2] ∧ Cp e.2.1 e.1.cc ∧ Cp e.2.2 e.1.pc ∧ e.1.cut.length ≤ e.1.cc ∧ e.1.put.length ≤ e.1.pc ∧
        (∃ b off, a = ⟨b, off, none⟩ ∧ C3 W b (off + i * 3) e.1) ∧ (e.1.cut.length ≤ 35184372088832 → e.1.put.length ≤ 35184372088832 → CmOk W e.1) := by
      intro i hil
      obtain ⟨cs', hc, ht⟩ := hi i (by omega)
      obtain ⟨M, Y, Z, rfl, hD, hY, hZ, hlc, hlp, hS⟩ := change_cells ht
      rw [Try.cellsCh] at hc
      obtain ⟨_, hcl, hat⟩ := World.cells?_some hc
      refine ⟨⟨M, Y, Z⟩, hD, hY, hZ, hlc, hlp, ?_, hS⟩
      have q0 := hat 0 (by omega)
      have q1 := hat 1 (by omega)
      have q2 := hat 2 (by omega)
      simp only [cmv, List.getElem?_cons_zero, List.getElem?_cons_succ] at q0 q1 q2
      have hsp : a.spot = none := by
        obtain ⟨cs0, hc0, _⟩ := hi 0 (by omega)
        rw [Try.cellsCh] at hc0
        obtain ⟨_, hcl0, hat0⟩ := World.cells?_some hc0
        have := hat0 0 (by omega)
        rw [List.getElem?_eq_getElem (by omega)] at this
        obtain ⟨b, o, sp⟩ := a
        cases sp with
        | none => rfl
        | some s =>
          simp only [Nat.zero_mul, Addr.add, if_true, World.cell?] at this
          split at this <;> simp_all
      obtain ⟨b, o, sp⟩ := a
      simp only at hsp; subst hsp
      have hadd : ∀ o n, (⟨b, o, none⟩ : Addr).add n = ⟨b, o + n, none⟩ := fun o n => by unfold Addr.add; split <;> simp_all
      rw [hadd, hadd] at q0 q1 q2
      exact ⟨b, o, rfl, by simpa using q0, by simpa [Nat.add_assoc] using q1, by simpa [Nat.add_assoc] using q2⟩
    obtain ⟨f, hfc⟩ := choose_lt hall
    have hmem : ∀ m, m ∈ (List.range len).map (fun i => (f i).1) → ∃ i, i < len ∧ m = (f i).1 := by
      intro m hm
      obtain ⟨i, hi, rfl⟩ := List.mem_map.1 hm
      exact ⟨i, List.mem_range.1 hi, rfl⟩
    refine ⟨some a, (List.range len).map fun i => (f i).1, m, by simp, by simpa using hl, .inr ⟨_, _, hx.1, by simp; omega, ?_⟩, ?_, ?_⟩
    · intro m hm
      obtain ⟨i, hil, rfl⟩ := hmem m hm
      exact ⟨D i, (f i).2.1, (f i).2.2, List.mem_map.2 ⟨i, List.mem_range.2 hil, rfl⟩, (hfc i hil).1, (hfc i hil).2.1, (hfc i hil).2.2.1⟩
    · intro m hm
      obtain ⟨i, hil, rfl⟩ := hmem m hm
      exact ⟨(hfc i hil).2.2.2.1, (hfc i hil).2.2.2.2.1⟩
    · intro hlen hle
      refine ⟨⟨hlen, ?_⟩, ?_⟩
      · by_cases h0 : len = 0
        · left; subst h0; rfl
        · obtain ⟨b, off, rfl, _⟩ := (hfc 0 (by omega)).2.2.2.2.2.1
          refine .inr ⟨b, off, rfl, fun i hi => ?_⟩
          have hil : i < len := by simpa using hi
          obtain ⟨b', off', he, h3⟩ := (hfc i hil).2.2.2.2.2.1
          simp only [Addr.mk.injEq, and_true] at he
          obtain ⟨rfl, rfl⟩ := he
          rw [show cgt ((List.range len).map fun i => (f i).1) i = (f i).1 by rw [cgt_get hi]; simp]
          exact h3
      · intro m hm
        have h1 := hle m hm
        obtain ⟨i, hil, rfl⟩ := hmem m hm
        exact (hfc i hil).2.2.2.2.2.2 h1.1 h1.2
theorem mem_weightsAll {e : TypeId} {D : DataW H} {x : Nat} : ∀ {es : List (DataW H)}, D ∈ es → x ∈ D.weights Try.prog e → x ∈ DataW.weightsAll Try.prog e es
  | E :: es, h, hx => by
    simp only [DataW.weightsAll, List.mem_append]
    rcases List.mem_cons.1 h with rfl | h
    · exact .inl hx
    · exact .inr (mem_weightsAll h hx)
theorem change_weight1 (z0 : Int) (es sp : List (DataW H)) (Z : DataW H) : (es.length + sp.length) * 4 ∈ (DataW.agg [.lit (.int .i64 z0), .slice es sp, Z] : DataW H).weights Try.prog 24 := by
  simp [DataW.weights, DataW.weightsEach, Try.underlying24, Try.underlying22, Try.bytesI32]
theorem change_weight2 (z0 : Int) (es sp : List (DataW H)) (Y : DataW H) : (es.length + sp.length) * 4 ∈ (DataW.agg [.lit (.int .i64 z0), Y, .slice es sp] : DataW H).weights Try.prog 24 := by
  simp [DataW.weights, DataW.weightsEach, Try.underlying24, Try.underlying22, Try.bytesI32]
/-- the reach pays a change -/
theorem change_sized {ts : List TypeId} {ds : List (DataW H)} {m : Cm} {Y Z : DataW H} (hsz : (DataW.weightsEach Try.prog ts ds).all (· ≤ reachBytes) = true) (j : Nat) (ht : ts[j]? = some 24) (hd : ds[j]? = some (.agg [.lit (.int .i64 m.at_), Y, Z]))
    (hY : Cp Y m.cc) (hZ : Cp Z m.pc) : m.cc ≤ 35184372087808 ∧ m.pc ≤ 35184372087808 := by
  refine ⟨?_, ?_⟩
  · rcases hY with ⟨_, h0⟩ | ⟨es, sp, rfl, hl⟩
    · omega
    · have := List.all_eq_true.1 hsz _ (DataW.weights_mem_each ht hd _ (change_weight1 _ es sp Z))
      have h9 : (es.length + sp.length) * 4 ≤ reachBytes := by simpa using this
      simp only [reachBytes] at h9
      omega
  · rcases hZ with ⟨_, h0⟩ | ⟨es, sp, rfl, hl⟩
    · omega
    · have := List.all_eq_true.1 hsz _ (DataW.weights_mem_each ht hd _ (change_weight2 _ es sp Y))
      have h9 : (es.length + sp.length) * 4 ≤ reachBytes := by simpa using this
      simp only [reachBytes] at h9
      omega
/-- the reach pays a list of changes and all that is in it -/
theorem changes_sized {ts : List TypeId} {ds : List (DataW H)} {d : DataW H} {l : List Cm} {c : Nat} (hsz : (DataW.weightsEach Try.prog ts ds).all (· ≤ reachBytes) = true) (j : Nat) (ht : ts[j]? = some 34) (hd : ds[j]? = some d)
    (h : (l = [] ∧ c = 0) ∨ ∃ es sp, d = .slice es sp ∧ es.length + sp.length = c ∧ ∀ m, m ∈ l → ∃ D Y Z, D ∈ es ∧ D = .agg [.lit (.int .i64 m.at_), Y, Z] ∧ Cp Y m.cc ∧ Cp Z m.pc) :
    c ≤ 2513169434843 ∧ ∀ m, m ∈ l → m.cc ≤ 35184372087808 ∧ m.pc ≤ 35184372087808 := by
  rcases h with ⟨rfl, rfl⟩ | ⟨es, sp, rfl, hc, h⟩
  · exact ⟨by omega, (fun m hm => by cases hm)⟩
  · refine ⟨?_, fun m hm => ?_⟩
    · have := sized_slice hsz ht hd Try.underlying34
      rw [Try.bytesCh] at this
      simp only [reachBytes] at this
      omega
    · obtain ⟨D, Y, Z, hD, rfl, hY, hZ⟩ := h m hm
      have key : ∀ x, x ∈ (DataW.agg [.lit (.int .i64 m.at_), Y, Z] : DataW H).weights Try.prog 24 → x ≤ reachBytes := by
        intro x hx
        have := List.all_eq_true.1 hsz _ (DataW.weights_mem_each ht hd x (by
          simp only [DataW.weights, Try.underlying34]
          exact List.mem_cons_of_mem _ (List.mem_append_left _ (mem_weightsAll hD hx))))
        simpa using this
      refine ⟨?_, ?_⟩
      · rcases hY with ⟨_, h0⟩ | ⟨es', sp', rfl, hl⟩
        · omega
        · have h9 := key _ (change_weight1 _ es' sp' Z)
          simp only [reachBytes] at h9
          omega
      · rcases hZ with ⟨_, h0⟩ | ⟨es', sp', rfl, hl⟩
        · omega
        · have h9 := key _ (change_weight2 _ es' sp' Y)
          simp only [reachBytes] at h9
          omega
end
end Go.Proofs.Ytnaipahapdjakaa
