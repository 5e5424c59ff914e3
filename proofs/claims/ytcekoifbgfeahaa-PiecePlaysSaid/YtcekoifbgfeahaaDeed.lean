/- A list of deeds as an argument. -/
import Derived.Test.YtcekoifbgfeahaaBase
import Derived.Deep.Slices
import Derived.Deep.Fields
namespace Go.Proofs.Ytcekoifbgfeahaa
open Go.RowKit Go.ChangeShapes Go.WideShapes Go.ChangeAt Go.Deep

structure Dd where
  how : Int
  at_ : Int
  cut : Int
  pa : Option Addr
  put : List Int
  pc : Nat
instance : Inhabited Dd := ⟨⟨0, 0, 0, none, [], 0⟩⟩
def ir (x : Int) : Prop := -9223372036854775808 ≤ x ∧ x ≤ 9223372036854775807
/-- one deed at place i -/
structure DAt (W : World) (a : Option Addr) (i : Nat) (d : Dd) : Prop where
  cells : ∃ b off, a = some ⟨b, off, none⟩ ∧ W.cell? ⟨b, off + i * 4, none⟩ = some (.int .i64 d.how) ∧ W.cell? ⟨b, off + i * 4 + 1, none⟩ = some (.int .i64 d.at_) ∧ W.cell? ⟨b, off + i * 4 + 2, none⟩ = some (.int .i64 d.cut) ∧ W.cell? ⟨b, off + i * 4 + 3, none⟩ = some (.slice d.pa d.put.length d.pc)
  how : ir d.how
  at_ : ir d.at_
  cut : ir d.cut
  cap : d.put.length ≤ d.pc
  sl : Sl W d.pa d.put
def Dds (W : World) (a : Option Addr) (n : Nat) (f : Nat → Dd) : Prop := ∀ i, i < n → DAt W a i (f i)
theorem DAt.bel {W w : World} {a : Option Addr} {i : Nat} {d : Dd} (h : DAt W a i d) (hb : Below W.heap.size W w) : DAt w a i d := by
  obtain ⟨b, off, ha, c0, c1, c2, c3⟩ := h.cells
  have hl := World.block_lt_of_cell? W _ c0
  refine ⟨⟨b, off, ha, ?_, ?_, ?_, ?_⟩, h.how, h.at_, h.cut, h.cap, h.sl.bel hb⟩
  · rw [hb.cell (p := ⟨b, off + i * 4, none⟩) hl]; exact c0
  · rw [hb.cell (p := ⟨b, off + i * 4 + 1, none⟩) hl]; exact c1
  · rw [hb.cell (p := ⟨b, off + i * 4 + 2, none⟩) hl]; exact c2
  · rw [hb.cell (p := ⟨b, off + i * 4 + 3, none⟩) hl]; exact c3
theorem Try.cellsDeed : Try.prog.cellsOf 73 = 4 := by kernel_rfl
theorem Try.bytesDeed : Try.prog.bytesOf 73 = 48 := by kernel_rfl
theorem Try.cellsInt : Try.prog.cellsOf 3 = 1 := by kernel_rfl
theorem Try.cellsRunes : Try.prog.cellsOf 22 = 1 := by kernel_rfl

section
variable {H : Type} {enc : TypeId × Value → H}
/-- what the cell of a []int32 reads as -/
theorem runes_cell {W : World} {fuel : Nat} {cs : List Value} {y : DataW H × List MemPlace} (hf : DataW.trod enc Try.prog W 0 (fun _ => true) true fuel 22 cs = some y) :
    ∃ a l c, cs = [.slice a (l : List Int).length c] ∧ l.length ≤ c ∧ (y.1 = .nil ∧ c = 0 ∨ ∃ es sp, y.1 = .slice es sp ∧ es.length + sp.length = c) ∧ (l.length ≤ 35184372088832 → Sl W a l) := by
  rcases open_ints Try.underlying22 Try.underlying21 Try.cellsI32 hf with ⟨hcs, hx⟩ | ⟨a, len', cap', zs, hcs, _, hl, hm, hz, hx, hcell, hwz⟩
  · exact ⟨none, [], 0, hcs, by simp, .inl ⟨by rw [hx], rfl⟩, fun _ => Sl.nil _ _⟩
  · simp only [if_true] at hz
    have hlen : (zs.take len').length = len' := by rw [List.length_take]; omega
    refine ⟨some a, zs.take len', cap', by rw [hlen]; exact hcs, by omega, .inr ⟨_, _, by rw [hx], by simp [lits]; omega⟩, fun hle => ?_⟩
    refine ⟨hle, fun x hx => wf_i32 (hwz x (List.mem_of_mem_take hx)), ?_⟩
    by_cases h0 : zs.take len' = []
    · exact .inl h0
    · have hpos : 0 < len' := by
        rcases Nat.eq_zero_or_pos len' with h | h
        · subst h; simp at h0
        · exact h
      have hsp : a.spot = none := by
        have := hcell 0 (by omega)
        obtain ⟨b, o, sp⟩ := a
        cases sp with
        | none => rfl
        | some s =>
          simp only [Addr.add, if_true, World.cell?] at this
          split at this <;> simp_all
      obtain ⟨b, o, sp⟩ := a
      simp only at hsp; subst hsp
      refine .inr ⟨b, o, rfl, fun i hi => ?_⟩
      have h1 := hcell i (by omega)
      rw [gt_get hi]
      have h2 : (⟨b, o, none⟩ : Addr).add i = ⟨b, o + i, none⟩ := by unfold Addr.add; split <;> simp_all
      rw [h2] at h1
      rw [h1]
      simp [List.getD, List.getElem?_eq_getElem (show i < zs.length by omega)]
/-- a deed opened -/
theorem deed_cells {W : World} {fuel : Nat} {cs : List Value} {x : DataW H × List MemPlace} (h : DataW.trod enc Try.prog W 0 (fun _ => true) true fuel 73 cs = some x) :
    ∃ (z0 z1 z2 : Int) (a : Option Addr) (l : List Int) (c : Nat) (Y : DataW H), cs = [.int .i64 z0, .int .i64 z1, .int .i64 z2, .slice a l.length c] ∧ x.1 = .agg [.lit (.int .i64 z0), .lit (.int .i64 z1), .lit (.int .i64 z2), Y] ∧
      ir z0 ∧ ir z1 ∧ ir z2 ∧ l.length ≤ c ∧ (Y = .nil ∧ c = 0 ∨ ∃ es sp, Y = .slice es sp ∧ es.length + sp.length = c) ∧ (l.length ≤ 35184372088832 → Sl W a l) := by
  obtain ⟨xs, n, _, hx, hcl, hlen, hg⟩ := DataW.trod_struct Try.underlying73 h
  rw [Try.cellsDeed] at hcl
  match xs, hlen with
  | [y0, y1, y2, y3], _ =>
    obtain ⟨e0, e1, e2, e3, rfl⟩ : ∃ e0 e1 e2 e3, cs = [e0, e1, e2, e3] := by
      match cs, hcl with
      | [e0, e1, e2, e3], _ => exact ⟨e0, e1, e2, e3, rfl⟩
    have g0 : DataW.trod enc Try.prog W 0 (fun _ => true) true n 3 (List.take (Try.prog.cellsOf 3) [e0, e1, e2, e3]) = some y0 := hg 0 _ rfl
    have g1 : DataW.trod enc Try.prog W 0 (fun _ => true) true n 3 (List.take (Try.prog.cellsOf 3) [e1, e2, e3]) = some y1 := hg 1 _ rfl
    have g2 : DataW.trod enc Try.prog W 0 (fun _ => true) true n 3 (List.take (Try.prog.cellsOf 3) [e2, e3]) = some y2 := hg 2 _ rfl
    have g3 : DataW.trod enc Try.prog W 0 (fun _ => true) true n 22 (List.take (Try.prog.cellsOf 22) [e3]) = some y3 := hg 3 _ rfl
    rw [Try.cellsInt] at g0 g1 g2
    rw [Try.cellsRunes] at g3
    simp only [List.take_succ_cons, List.take_zero] at g0 g1 g2 g3
    obtain ⟨z0, h0, r0, w0⟩ := DataW.trod_int Try.underlying3 g0
    obtain ⟨z1, h1, r1, w1⟩ := DataW.trod_int Try.underlying3 g1
    obtain ⟨z2, h2, r2, w2⟩ := DataW.trod_int Try.underlying3 g2
    obtain ⟨a, l, c, h3, hlc, hY, hS⟩ := runes_cell g3
    simp only [List.cons.injEq, and_true] at h0 h1 h2 h3
    subst h0 h1 h2 h3
    refine ⟨z0, z1, z2, a, l, c, y3.1, rfl, by rw [hx]; simp [r0, r1, r2], wf_i64 w0, wf_i64 w1, wf_i64 w2, hlc, hY, hS⟩
/-- the list opened: each deed, and what its Put reads as -/
theorem open_deeds {W : World} {base : Nat} {v : Value} {d : DataW H} {p : List MemPlace} (hv : Value.okWide Try.prog W .any base 23 v)
    (h : DataW.Trod enc Try.prog W 0 (fun _ => true) true 23 v d p) :
    ∃ (a : Option Addr) (n c : Nat) (f : Nat → Dd), v = .slice a n c ∧ n ≤ c ∧ ((n = 0 ∧ c = 0) ∨ ∃ es sp, d = .slice es sp ∧ es.length + sp.length = c ∧ ∀ i, i < n → ∃ D Y, D ∈ es ∧ D = .agg [.lit (.int .i64 (f i).how), .lit (.int .i64 (f i).at_), .lit (.int .i64 (f i).cut), Y] ∧
      (Y = .nil ∧ (f i).pc = 0 ∨ ∃ es sp, Y = .slice es sp ∧ es.length + sp.length = (f i).pc)) ∧
      ∀ i, i < n → (f i).put.length ≤ (f i).pc ∧ ((f i).put.length ≤ 35184372088832 → DAt W a i (f i)) := by
  obtain ⟨a0, len, cap, rfl⟩ := okWide_slice Try.underlying23 hv
  obtain ⟨fuel, hf⟩ := h
  rcases open_slice Try.underlying23 hf with ⟨hcs, hx⟩ | ⟨a, len', cap', m, n, D, Pl, hcs, hb, hl, hm, hmm, hx, hi⟩
  · simp only [Value.cells, List.cons.injEq, and_true, Value.slice.injEq] at hcs
    obtain ⟨rfl, rfl, rfl⟩ := hcs
    exact ⟨none, 0, 0, fun _ => default, rfl, Nat.le_refl _, .inl ⟨rfl, rfl⟩, fun i hi => by omega⟩
  · simp only [Value.cells, List.cons.injEq, and_true, Value.slice.injEq] at hcs
    obtain ⟨rfl, rfl, rfl⟩ := hcs
    simp only [if_true] at hmm
    subst hmm
    simp only [Prod.mk.injEq] at hx
    have hall : ∀ i, i < len → ∃ e : Dd × DataW H, D i = .agg [.lit (.int .i64 e.1.how), .lit (.int .i64 e.1.at_), .lit (.int .i64 e.1.cut), e.2] ∧ (e.2 = .nil ∧ e.1.pc = 0 ∨ ∃ es sp, e.2 = .slice es sp ∧ es.length + sp.length = e.1.pc) ∧ e.1.put.length ≤ e.1.pc ∧ (e.1.put.length ≤ 35184372088832 → DAt W (some a) i e.1) := by
      intro i hil
      obtain ⟨cs', hc, ht⟩ := hi i (by omega)
      obtain ⟨z0, z1, z2, pa, l, c, Y, rfl, hD, i0, i1, i2, hlc, hY, hS⟩ := deed_cells ht
      rw [Try.cellsDeed] at hc
      obtain ⟨_, hcl, hat⟩ := World.cells?_some hc
      refine ⟨⟨⟨z0, z1, z2, pa, l, c⟩, Y⟩, hD, hY, hlc, fun hle => ⟨?_, i0, i1, i2, hlc, hS hle⟩⟩
      have q0 := hat 0 (by omega)
      have q1 := hat 1 (by omega)
      have q2 := hat 2 (by omega)
      have q3 := hat 3 (by omega)
      simp only [List.getElem?_cons_zero, List.getElem?_cons_succ] at q0 q1 q2 q3
      have hsp : a.spot = none := by
        obtain ⟨cs0, hc0, _⟩ := hi 0 (by omega)
        rw [Try.cellsDeed] at hc0
        obtain ⟨_, hcl0, hat0⟩ := World.cells?_some hc0
        have := hat0 0 (by omega)
        rw [List.getElem?_eq_getElem (by omega)] at this
        obtain ⟨b, o, sp⟩ := a
        cases sp with
        | none => rfl
        | some s =>
          simp only [Nat.zero_mul, Addr.add, if_true, World.cell?] at this
          split at this <;> simp_all
      obtain ⟨b, o, sp⟩ := a
      simp only at hsp; subst hsp
      have hadd : ∀ o n, (⟨b, o, none⟩ : Addr).add n = ⟨b, o + n, none⟩ := fun o n => by unfold Addr.add; split <;> simp_all
      rw [hadd, hadd] at q0 q1 q2 q3
      exact ⟨b, o, rfl, by simpa using q0, by simpa [Nat.add_assoc] using q1, by simpa [Nat.add_assoc] using q2, by simpa [Nat.add_assoc] using q3⟩
    obtain ⟨f, hfc⟩ := choose_lt hall
    refine ⟨some a, len, _, fun i => (f i).1, rfl, hl, .inr ⟨_, _, hx.1, by simp; omega, fun i hil => ⟨D i, (f i).2, List.mem_map.2 ⟨i, List.mem_range.2 hil, rfl⟩, (hfc i hil).1, (hfc i hil).2.1⟩⟩, fun i hil => (hfc i hil).2.2⟩
theorem mem_weightsAll {e : TypeId} {D : DataW H} {x : Nat} : ∀ {es : List (DataW H)}, D ∈ es → x ∈ D.weights Try.prog e → x ∈ DataW.weightsAll Try.prog e es
  | E :: es, h, hx => by
    simp only [DataW.weightsAll, List.mem_append]
    rcases List.mem_cons.1 h with rfl | h
    · exact .inl hx
    · exact .inr (mem_weightsAll h hx)
theorem deed_weight (z0 z1 z2 : Int) (es sp : List (DataW H)) : (es.length + sp.length) * 4 ∈ (DataW.agg [.lit (.int .i64 z0), .lit (.int .i64 z1), .lit (.int .i64 z2), .slice es sp] : DataW H).weights Try.prog 73 := by
  simp [DataW.weights, DataW.weightsEach, Try.underlying73, Try.underlying22, Try.bytesI32]
/-- the reach pays each Put and the list -/
theorem deeds_sized {ts : List TypeId} {ds : List (DataW H)} {d : DataW H} {n c : Nat} {f : Nat → Dd} (hsz : (DataW.weightsEach Try.prog ts ds).all (· ≤ reachBytes) = true) (j : Nat) (ht : ts[j]? = some 23) (hd : ds[j]? = some d)
    (h : (n = 0 ∧ c = 0) ∨ ∃ es sp, d = .slice es sp ∧ es.length + sp.length = c ∧ ∀ i, i < n → ∃ D Y, D ∈ es ∧ D = .agg [.lit (.int .i64 (f i).how), .lit (.int .i64 (f i).at_), .lit (.int .i64 (f i).cut), Y] ∧
      (Y = .nil ∧ (f i).pc = 0 ∨ ∃ es sp, Y = .slice es sp ∧ es.length + sp.length = (f i).pc)) : c ≤ 35184372087808 ∧ ∀ i, i < n → (f i).pc ≤ 35184372087808 := by
  rcases h with ⟨rfl, rfl⟩ | ⟨es, sp, rfl, hc, h⟩
  · exact ⟨by omega, fun i hi => by omega⟩
  · refine ⟨?_, fun i hi => ?_⟩
    · have := sized_slice hsz ht hd Try.underlying23
      rw [Try.bytesDeed] at this
      simp only [reachBytes] at this
      omega
    · obtain ⟨D, Y, hD, rfl, hY⟩ := h i hi
      rcases hY with ⟨_, h0⟩ | ⟨es', sp', rfl, hl⟩
      · omega
      · have hm := mem_weightsAll (x := (es'.length + sp'.length) * 4) hD (deed_weight _ _ _ es' sp')
        have := List.all_eq_true.1 hsz _ (DataW.weights_mem_each ht hd ((es'.length + sp'.length) * 4) (by
          simp only [DataW.weights, Try.underlying23]
          exact List.mem_cons_of_mem _ (List.mem_append_left _ hm)))
        have h9 : (es'.length + sp'.length) * 4 ≤ reachBytes := by simpa using this
        simp only [reachBytes] at h9
        omega
theorem bulk_mem {D : DataW H} : ∀ {es : List (DataW H)}, D ∈ es → Rows.uptoBulk D ≤ Rows.uptoBulkAll es
  | E :: es, h => by
    simp only [Rows.uptoBulkAll]
    rcases List.mem_cons.1 h with rfl | h
    · omega
    · have := bulk_mem h; omega
/-- the bulk pays each Put and the list -/
theorem deeds_bulk {d : DataW H} {n c : Nat} {f : Nat → Dd}
    (h : (n = 0 ∧ c = 0) ∨ ∃ es sp, d = .slice es sp ∧ es.length + sp.length = c ∧ ∀ i, i < n → ∃ D Y, D ∈ es ∧ D = .agg [.lit (.int .i64 (f i).how), .lit (.int .i64 (f i).at_), .lit (.int .i64 (f i).cut), Y] ∧
      (Y = .nil ∧ (f i).pc = 0 ∨ ∃ es sp, Y = .slice es sp ∧ es.length + sp.length = (f i).pc)) : c ≤ Rows.uptoBulk d ∧ ∀ i, i < n → (f i).pc ≤ Rows.uptoBulk d := by
  rcases h with ⟨rfl, rfl⟩ | ⟨es, sp, rfl, hc, h⟩
  · exact ⟨by omega, fun i hi => by omega⟩
  · have h1 := bulk_length es
    have h2 := bulk_length sp
    refine ⟨by simp only [Rows.uptoBulk]; omega, fun i hi => ?_⟩
    obtain ⟨D, Y, hD, rfl, hY⟩ := h i hi
    have h3 := bulk_mem hD
    rcases hY with ⟨_, h0⟩ | ⟨es', sp', rfl, hl⟩
    · omega
    · have h4 := bulk_length es'
      have h5 := bulk_length sp'
      simp only [Rows.uptoBulk, Rows.uptoBulkAll] at h3 ⊢
      omega
end
end Go.Proofs.Ytcekoifbgfeahaa
