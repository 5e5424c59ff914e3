/- Parts of a format, and texts, as a law's arguments. -/
import Derived.Test.YtkgkbgofphkmdaaFoX
import Derived.Deep.Slices
import Derived.Deep.Fields
import Derived.Lib.SmallJoins
namespace Go.Proofs.Ytkgkbgofphkmdaa
open Go.RowKit Go.ChangeShapes Go.WideShapes Go.ChangeAt Go.Deep Go.Joins

theorem Try.cellsInt : Try.prog.cellsOf 3 = 1 := by kernel_rfl
theorem Try.cellsRunes : Try.prog.cellsOf 24 = 1 := by kernel_rfl
/-- the records' cells in memory -/
def RecAt {α : Type} (k : Nat) (cv : α → List Value) (W : World) (a : Option Addr) (l : List α) : Prop :=
  l = [] ∨ ∃ b off, a = some ⟨b, off, none⟩ ∧ ∀ (i : Nat) (hi : i < l.length) (j : Nat) (u : Value), (cv l[i])[j]? = some u → W.cell? ⟨b, off + i * k + j, none⟩ = some u
theorem RecAt.rsl {α : Type} [Inhabited α] {E : Enc α} {w : World} {a : Option Addr} {l : List α} (h : RecAt E.k E.v w a l) (hl : l.length ≤ E.cap) : RSl E w a l := by
  refine ⟨hl, ?_⟩
  rcases h with h | ⟨b, off, ha, hc⟩
  · exact .inl h
  · refine .inr ⟨b, off, ha, fun n u hu => ?_⟩
    have hn : n < l.length * E.k := by
      have := (List.getElem?_eq_some_iff.1 hu).1
      rwa [rflat_len] at this
    have hi : n / E.k < l.length := Nat.div_lt_of_lt_mul (by rw [Nat.mul_comm]; exact hn)
    have hj : n % E.k < E.k := Nat.mod_lt _ E.pos
    have hnn : n / E.k * E.k + n % E.k = n := by rw [Nat.mul_comm]; exact Nat.div_add_mod n E.k
    have e := rflat_at (E := E) l hi hj
    rw [hnn, hu, rgt_get hi] at e
    have := hc _ hi _ u e.symm
    rwa [Nat.add_assoc, hnn] at this
section
variable {H : Type} {enc : TypeId × Value → H}
set_option maxRecDepth 20000 in
/-- a slice of records opened, each with what was read of it -/
theorem open_recsD {α : Type} [Inhabited α] {T E : TypeId} {k : Nat} {cv : α → List Value} {R : α → DataW H → Prop} {W : World} {base : Nat} {v : Value} {d : DataW H} {p : List MemPlace}
    (hT : Try.prog.underlying T = some (.slice E)) (hk : Try.prog.cellsOf E = k) (hkp : 0 < k)
    (hone : ∀ (fuel : Nat) (cs : List Value) (x : DataW H × List MemPlace), DataW.trod enc Try.prog W 0 (fun _ => true) true fuel E cs = some x → ∃ m : α, cs = cv m ∧ R m x.1)
    (hv : Value.okWide Try.prog W .any base T v) (h : DataW.Trod enc Try.prog W 0 (fun _ => true) true T v d p) :
    ∃ (a : Option Addr) (l : List α) (c : Nat), v = .slice a l.length c ∧ l.length ≤ c ∧ ((d = .nil ∧ c = 0 ∧ l = []) ∨ ∃ es sp, d = .slice es sp ∧ es.length + sp.length = c ∧ ∀ m, m ∈ l → ∃ D, D ∈ es ∧ R m D) ∧ RecAt k cv W a l := by
  obtain ⟨a0, len, cap, rfl⟩ := okWide_slice hT hv
  obtain ⟨fuel, hf⟩ := h
  rcases open_slice hT hf with ⟨hcs, hx⟩ | ⟨a, len', cap', m, n, D, Pl, hcs, hb, hl, hm, hmm, hx, hi⟩
  · simp only [Value.cells, List.cons.injEq, and_true, Value.slice.injEq] at hcs
    obtain ⟨rfl, rfl, rfl⟩ := hcs
    simp only [Prod.mk.injEq] at hx
    exact ⟨none, [], 0, rfl, by simp, .inl ⟨hx.1, rfl, rfl⟩, .inl rfl⟩
  · simp only [Value.cells, List.cons.injEq, and_true, Value.slice.injEq] at hcs
    obtain ⟨rfl, rfl, rfl⟩ := hcs
    simp only [if_true] at hmm
    subst hmm
    simp only [Prod.mk.injEq] at hx
    have hall : ∀ i, i < len → ∃ e : α, R e (D i) ∧ ∃ b off, a = ⟨b, off, none⟩ ∧ ∀ (j : Nat) (u : Value), (cv e)[j]? = some u → W.cell? ⟨b, off + i * k + j, none⟩ = some u := by
      intro i hil
      obtain ⟨cs', hc, ht⟩ := hi i (by omega)
      obtain ⟨M, rfl, hS⟩ := hone _ _ _ ht
      rw [hk] at hc
      obtain ⟨_, hcl, hat⟩ := World.cells?_some hc
      refine ⟨M, hS, ?_⟩
      have hsp : a.spot = none := by
        obtain ⟨cs0, hc0, _⟩ := hi 0 (by omega)
        rw [hk] at hc0
        obtain ⟨_, hcl0, hat0⟩ := World.cells?_some hc0
        have := hat0 0 (by omega)
        rw [List.getElem?_eq_getElem (by omega)] at this
        obtain ⟨b, o, sp⟩ := a
        cases sp with
        | none => rfl
        | some s =>
          simp only [Nat.zero_mul, Addr.add, if_true, World.cell?] at this
          split at this <;> simp_all
      obtain ⟨b, o, sp⟩ := a
      simp only at hsp; subst hsp
      have hadd : ∀ o n, (⟨b, o, none⟩ : Addr).add n = ⟨b, o + n, none⟩ := fun o n => by unfold Addr.add; split <;> simp_all
      refine ⟨b, o, rfl, fun j u hu => ?_⟩
      have hj : j < k := by
        have := (List.getElem?_eq_some_iff.1 hu).1
        omega
      have q := hat j hj
      rw [hadd, hadd, hu] at q
      exact q
    obtain ⟨f, hfc⟩ := choose_lt hall
    refine ⟨some a, (List.range len).map f, m, by simp, by simpa using hl, .inr ⟨_, _, hx.1, by simp; omega, ?_⟩, ?_⟩
    · intro x hxm
      obtain ⟨i, hi, rfl⟩ := List.mem_map.1 hxm
      exact ⟨D i, List.mem_map.2 ⟨i, hi, rfl⟩, (hfc i (List.mem_range.1 hi)).1⟩
    · by_cases h0 : len = 0
      · left; subst h0; rfl
      · obtain ⟨_, b, off, rfl, _⟩ := hfc 0 (by omega)
        refine .inr ⟨b, off, rfl, fun i hi j u hu => ?_⟩
        have hil : i < len := by simpa using hi
        obtain ⟨_, b', off', he, h3⟩ := hfc i hil
        simp only [Addr.mk.injEq, and_true] at he
        obtain ⟨rfl, rfl⟩ := he
        exact h3 j u (by simpa using hu)
/-- a slice of runes that was read: what its capacity is -/
def Cp (Y : DataW H) (c : Nat) : Prop := Y = .nil ∧ c = 0 ∨ ∃ es sp, Y = .slice es sp ∧ es.length + sp.length = c
/-- what the cell of a []int32 reads as -/
theorem runes_cell {W : World} {fuel : Nat} {cs : List Value} {y : DataW H × List MemPlace} (hf : DataW.trod enc Try.prog W 0 (fun _ => true) true fuel 24 cs = some y) :
    ∃ a l c, cs = [.slice a (l : List Int).length c] ∧ l.length ≤ c ∧ Cp y.1 c ∧ (l.length ≤ 35184372088832 → Sl W a l) := by
  rcases open_ints Try.underlying24 Try.underlying21 Try.cellsI32 hf with ⟨hcs, hx⟩ | ⟨a, len', cap', zs, hcs, _, hl, hm, hz, hx, hcell, hwz⟩
  · exact ⟨none, [], 0, hcs, by simp, .inl ⟨by rw [hx], rfl⟩, fun _ => Sl.nil _ _⟩
  · simp only [if_true] at hz
    have hlen : (zs.take len').length = len' := by rw [List.length_take]; omega
    refine ⟨some a, zs.take len', cap', by rw [hlen]; exact hcs, by omega, .inr ⟨_, _, by rw [hx], by simp [lits]; omega⟩, fun hle => ?_⟩
    refine ⟨by omega, fun x hx => wf_i32 (hwz x (List.mem_of_mem_take hx)), ?_⟩
    by_cases h0 : zs.take len' = []
    · exact .inl h0
    · have hpos : 0 < len' := by
        rcases Nat.eq_zero_or_pos len' with h | h
        · subst h; simp at h0
        · exact h
      have hsp : a.spot = none := by
        have := hcell 0 (by omega)
        obtain ⟨b, o, sp⟩ := a
        cases sp with
        | none => rfl
        | some s =>
          simp only [Addr.add, if_true, World.cell?] at this
          split at this <;> simp_all
      obtain ⟨b, o, sp⟩ := a
      simp only at hsp; subst hsp
      refine .inr ⟨b, o, rfl, fun i hi => ?_⟩
      have h1 := hcell i (by omega)
      rw [gt_get hi]
      have h2 : (⟨b, o, none⟩ : Addr).add i = ⟨b, o + i, none⟩ := by unfold Addr.add; split <;> simp_all
      rw [h2] at h1
      rw [h1]
      simp [List.getD, List.getElem?_eq_getElem (show i < zs.length by omega)]
theorem bulk_mem {D : DataW H} : ∀ {es : List (DataW H)}, D ∈ es → Rows.uptoBulk D ≤ Rows.uptoBulkAll es
  | E :: es, h => by
    simp only [Rows.uptoBulkAll]
    rcases List.mem_cons.1 h with rfl | h
    · omega
    · have := bulk_mem h; omega
theorem cp_bulk {Y : DataW H} {c : Nat} (h : Cp Y c) : c ≤ Rows.uptoBulk Y := bulk_cap h
/-- a text that was read among others -/
def TxR (W : World) (m : Tx) (D : DataW H) : Prop := Cp D m.c ∧ m.l.length ≤ m.c ∧ (m.l.length ≤ 35184372088832 → Sl W m.a m.l)
set_option maxRecDepth 20000 in
theorem open_txs {W : World} {base : Nat} {v : Value} {d : DataW H} {p : List MemPlace} (hv : Value.okWide Try.prog W .any base 37 v)
    (h : DataW.Trod enc Try.prog W 0 (fun _ => true) true 37 v d p) :
    ∃ (a : Option Addr) (l : List Tx) (c : Nat), v = .slice a l.length c ∧ l.length ≤ c ∧ ((d = .nil ∧ c = 0 ∧ l = []) ∨ ∃ es sp, d = .slice es sp ∧ es.length + sp.length = c ∧ ∀ m, m ∈ l → ∃ D, D ∈ es ∧ TxR W m D) ∧ RecAt encTx.k encTx.v W a l :=
  open_recsD (k := 1) (cv := encTx.v) (R := TxR W) Try.underlying37 Try.cellsRunes (by decide) (fun fuel cs x hx => by
    obtain ⟨a, l, c, rfl, h1, h2, h3⟩ := runes_cell hx
    exact ⟨⟨a, l, c⟩, rfl, h2, h1, h3⟩) hv h
set_option maxRecDepth 20000 in
/-- texts within a bulk -/
theorem txs_bulk {W : World} {d : DataW H} {l : List Tx} {c : Nat} (h : (d = .nil ∧ c = 0 ∧ l = []) ∨ ∃ es sp, d = .slice es sp ∧ es.length + sp.length = c ∧ ∀ m, m ∈ l → ∃ D, D ∈ es ∧ TxR W m D) {n : Nat} (hn : n ≤ 35184372088832) (hd : Rows.uptoBulk d ≤ n) : c ≤ n ∧ Txs W l ∧ ∀ m, m ∈ l → m.l.length ≤ n := by
  rcases h with ⟨rfl, rfl, rfl⟩ | ⟨es, sp, rfl, rfl, h⟩
  · exact ⟨Nat.zero_le _, Txs.nil _, fun m hm => by cases hm⟩
  · simp only [Rows.uptoBulk] at hd
    have h1 := bulk_length es
    have h2 := bulk_length sp
    have hl : ∀ m, m ∈ l → m.l.length ≤ m.c ∧ m.c ≤ n ∧ (m.l.length ≤ 35184372088832 → Sl W m.a m.l) := fun m hm => by
      obtain ⟨D, hD, k1, k2, k3⟩ := h m hm
      have := bulk_mem hD
      have := cp_bulk k1
      exact ⟨k2, by omega, k3⟩
    exact ⟨by omega, fun m hm => by have := hl m hm; exact ⟨this.2.2 (by omega), this.1⟩, fun m hm => by have := hl m hm; omega⟩
theorem Try.cellsFo : Try.prog.cellsOf 26 = 5 := by kernel_rfl
/-- a part that was read among others -/
def FoR (W : World) (m : Fo) (D : DataW H) : Prop := ∃ Y Z, D = .agg [.lit (.int .i64 m.kind), .lit (.int .i64 m.grp), .lit (.int .i64 m.how), Y, Z] ∧ Cp Y m.tc ∧ Cp Z m.ec ∧ m.text.length ≤ m.tc ∧ m.els.length ≤ m.ec ∧
  (m.text.length ≤ 35184372088832 → m.els.length ≤ 35184372088832 → FoOk W (fun _ => False) m)
set_option maxRecDepth 20000 in
theorem form_cells {W : World} {fuel : Nat} {cs : List Value} {x : DataW H × List MemPlace} (h : DataW.trod enc Try.prog W 0 (fun _ => true) true fuel 26 cs = some x) :
    ∃ m : Fo, cs = encFo.v m ∧ FoR W m x.1 := by
  obtain ⟨xs, n, _, hx, hcl, hlen, hg⟩ := DataW.trod_struct Try.underlying26 h
  rw [Try.cellsFo] at hcl
  match xs, hlen with
  | [y0, y1, y2, y3, y4], _ =>
    obtain ⟨e0, e1, e2, e3, e4, rfl⟩ : ∃ e0 e1 e2 e3 e4, cs = [e0, e1, e2, e3, e4] := by
      match cs, hcl with
      | [e0, e1, e2, e3, e4], _ => exact ⟨e0, e1, e2, e3, e4, rfl⟩
    have g0 : DataW.trod enc Try.prog W 0 (fun _ => true) true n 3 (List.take (Try.prog.cellsOf 3) [e0, e1, e2, e3, e4]) = some y0 := hg 0 _ rfl
    have g1 : DataW.trod enc Try.prog W 0 (fun _ => true) true n 3 (List.take (Try.prog.cellsOf 3) [e1, e2, e3, e4]) = some y1 := hg 1 _ rfl
    have g2 : DataW.trod enc Try.prog W 0 (fun _ => true) true n 3 (List.take (Try.prog.cellsOf 3) [e2, e3, e4]) = some y2 := hg 2 _ rfl
    have g3 : DataW.trod enc Try.prog W 0 (fun _ => true) true n 24 (List.take (Try.prog.cellsOf 24) [e3, e4]) = some y3 := hg 3 _ rfl
    have g4 : DataW.trod enc Try.prog W 0 (fun _ => true) true n 24 (List.take (Try.prog.cellsOf 24) [e4]) = some y4 := hg 4 _ rfl
    rw [Try.cellsInt] at g0 g1 g2
    rw [Try.cellsRunes] at g3 g4
    simp only [List.take_succ_cons, List.take_zero] at g0 g1 g2 g3 g4
    obtain ⟨z0, h0, r0, w0⟩ := DataW.trod_int Try.underlying3 g0
    obtain ⟨z1, h1, r1, w1⟩ := DataW.trod_int Try.underlying3 g1
    obtain ⟨z2, h2, r2, w2⟩ := DataW.trod_int Try.underlying3 g2
    obtain ⟨a1, l1, c1, h3, hlc1, hY1, hS1⟩ := runes_cell g3
    obtain ⟨a2, l2, c2, h4, hlc2, hY2, hS2⟩ := runes_cell g4
    simp only [List.cons.injEq, and_true] at h0 h1 h2 h3 h4
    subst h0 h1 h2 h3 h4
    refine ⟨⟨z0, z1, z2, a1, l1, c1, a2, l2, c2⟩, rfl, y3.1, y4.1, by rw [hx]; simp [r0, r1, r2], hY1, hY2, hlc1, hlc2, fun p q => ⟨fun w' k => (hS1 p).kp k fun _ _ h => h, hlc1, fun w' k => (hS2 q).kp k fun _ _ h => h, hlc2, wf_i64 w0, wf_i64 w1, wf_i64 w2⟩⟩
set_option maxRecDepth 20000 in
theorem open_fos {W : World} {base : Nat} {v : Value} {d : DataW H} {p : List MemPlace} (hv : Value.okWide Try.prog W .any base 27 v)
    (h : DataW.Trod enc Try.prog W 0 (fun _ => true) true 27 v d p) :
    ∃ (a : Option Addr) (l : List Fo) (c : Nat), v = .slice a l.length c ∧ l.length ≤ c ∧ ((d = .nil ∧ c = 0 ∧ l = []) ∨ ∃ es sp, d = .slice es sp ∧ es.length + sp.length = c ∧ ∀ m, m ∈ l → ∃ D, D ∈ es ∧ FoR W m D) ∧ RecAt encFo.k encFo.v W a l :=
  open_recsD (k := 5) (cv := encFo.v) (R := FoR W) Try.underlying27 Try.cellsFo (by decide) (fun fuel cs x hx => form_cells hx) hv h
set_option maxRecDepth 20000 in
theorem fos_bulk {W : World} {d : DataW H} {l : List Fo} {c : Nat} (h : (d = .nil ∧ c = 0 ∧ l = []) ∨ ∃ es sp, d = .slice es sp ∧ es.length + sp.length = c ∧ ∀ m, m ∈ l → ∃ D, D ∈ es ∧ FoR W m D) {n : Nat} (hn : n ≤ 35184372088832) (hd : Rows.uptoBulk d ≤ n) : c ≤ n ∧ Fos W (fun _ => False) l ∧ ∀ m, m ∈ l → m.text.length ≤ n ∧ m.els.length ≤ n := by
  rcases h with ⟨rfl, rfl, rfl⟩ | ⟨es, sp, rfl, rfl, h⟩
  · exact ⟨Nat.zero_le _, Fos.nil _ _, fun m hm => by cases hm⟩
  · simp only [Rows.uptoBulk] at hd
    have h1 := bulk_length es
    have h2 := bulk_length sp
    have hl : ∀ m, m ∈ l → m.text.length ≤ n ∧ m.els.length ≤ n ∧ (m.text.length ≤ 35184372088832 → m.els.length ≤ 35184372088832 → FoOk W (fun _ => False) m) := fun m hm => by
      obtain ⟨D, hD, Y, Z, rfl, k1, k2, k3, k4, k5⟩ := h m hm
      have b1 := bulk_mem hD
      have b2 := cp_bulk k1
      have b3 := cp_bulk k2
      simp only [Rows.uptoBulk, Rows.uptoBulkAll] at b1
      exact ⟨by omega, by omega, k5⟩
    exact ⟨by omega, fun m hm => by have := hl m hm; exact this.2.2 (by omega) (by omega), fun m hm => by have := hl m hm; omega⟩
end
end Go.Proofs.Ytkgkbgofphkmdaa
