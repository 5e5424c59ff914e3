/- Ints: readable and owned slices of int as lists, and what append does to them. -/
import Derived.Test.YthkkpcfmifhllaaCore
namespace Go.Proofs.Ythkkpcfmifhllaa.I
open Go.RowKit Go.ChangeShapes Go.WideShapes Go.ChangeAt

def rng (l : List Int) : Prop := ∀ x ∈ l, -9223372036854775808 ≤ x ∧ x ≤ 9223372036854775807
theorem rng_nil : rng [] := by intro x h; cases h
theorem rng_app {a b : List Int} (ha : rng a) (hb : rng b) : rng (a ++ b) := by
  intro x h; rcases List.mem_append.1 h with h | h
  · exact ha x h
  · exact hb x h
theorem rng_gt {l : List Int} (h : rng l) {i : Nat} (hi : i < l.length) : -9223372036854775808 ≤ gt l i ∧ gt l i ≤ 9223372036854775807 := h _ (gt_mem hi)
theorem rng_one {x : Int} (h : -9223372036854775808 ≤ x ∧ x ≤ 9223372036854775807) : rng [x] := by intro y hy; simp at hy; subst hy; exact h
theorem rng_cons {x : Int} {l : List Int} (h : -9223372036854775808 ≤ x ∧ x ≤ 9223372036854775807) (hl : rng l) : rng (x :: l) := by
  intro y hy; rcases List.mem_cons.1 hy with rfl | hy
  · exact h
  · exact hl y hy

/-! ## a slice of int that reads as a list -/
structure Sl (w : World) (a : Option Addr) (l : List Int) : Prop where
  len : l.length ≤ 17592186044416
  rng : rng l
  cells : l = [] ∨ ∃ b off, a = some ⟨b, off, none⟩ ∧ ∀ i, i < l.length → w.cell? ⟨b, off + i, none⟩ = some (.int .i64 (gt l i))

theorem Sl.at {w : World} {a : Option Addr} {l : List Int} (h : Sl w a l) {i : Nat} (hi : i < l.length) :
    ∃ b off, a = some ⟨b, off, none⟩ ∧ ∀ i, i < l.length → w.cell? ⟨b, off + i, none⟩ = some (.int .i64 (gt l i)) := by
  rcases h.cells with rfl | h
  · simp at hi
  · exact h
theorem Sl.nil (w : World) (a : Option Addr) : Sl w a [] := ⟨by simp, rng_nil, .inl rfl⟩
theorem Sl.below {w w' : World} {a : Option Addr} {l : List Int} {B : Nat} (h : Sl w a l) (hb : Below B w w') (hB : w.heap.size ≤ B) : Sl w' a l := by
  refine ⟨h.len, h.rng, ?_⟩
  rcases h.cells with h0 | ⟨b, off, ha, hc⟩
  · exact .inl h0
  · refine .inr ⟨b, off, ha, fun i hi => ?_⟩
    have := World.block_lt_of_cell? w _ (hc i hi)
    rw [hb.cell (p := ⟨b, off + i, none⟩) (by simp at this ⊢; omega)]
    exact hc i hi
theorem Sl.bel {w w' : World} {a : Option Addr} {l : List Int} (h : Sl w a l) (hb : Below w.heap.size w w') : Sl w' a l := h.below hb (Nat.le_refl _)
theorem Sl.drewN {w : World} {a : Option Addr} {l : List Int} (h : Sl w a l) (n : Nat) : Sl (w.drewN n) a l := ⟨h.len, h.rng, h.cells⟩
theorem Sl.drew {w : World} {a : Option Addr} {l : List Int} (h : Sl w a l) : Sl w.drew a l := ⟨h.len, h.rng, h.cells⟩
theorem Sl.take {w : World} {a : Option Addr} {l : List Int} (h : Sl w a l) (n : Nat) : Sl w a (l.take n) := by
  refine ⟨by have := h.len; rw [List.length_take]; omega, fun x hx => h.rng x (List.mem_of_mem_take hx), ?_⟩
  rcases h.cells with h0 | ⟨b, off, ha, hc⟩
  · exact .inl (by simp [h0])
  · refine .inr ⟨b, off, ha, fun i hi => ?_⟩
    rw [List.length_take] at hi
    rw [hc i (by omega)]
    congr 2
    rw [gt_get (by omega), gt_get (by rw [List.length_take]; omega)]; simp
theorem Sl.drop {w : World} {b off : Nat} {l : List Int} (h : Sl w (some ⟨b, off, none⟩) l) (n : Nat) : Sl w (some ⟨b, off + n, none⟩) (l.drop n) := by
  refine ⟨by have := h.len; rw [List.length_drop]; omega, fun x hx => h.rng x (List.mem_of_mem_drop hx), ?_⟩
  rcases h.cells with h0 | ⟨b', off', ha, hc⟩
  · exact .inl (by simp [h0])
  · simp only [Option.some.injEq, Addr.mk.injEq, and_true] at ha
    obtain ⟨rfl, rfl⟩ := ha
    refine .inr ⟨_, _, rfl, fun i hi => ?_⟩
    rw [List.length_drop] at hi
    rw [show off + n + i = off + (n + i) from by omega, hc (n + i) (by omega)]
    congr 2
    rw [gt_get (by omega), gt_get (by rw [List.length_drop]; omega)]; simp

/-- a literal slice in a new block -/
theorem Sl.lit (w : World) (l : List Int) (e : TypeId) (hl : l.length ≤ 17592186044416) (hr : Go.Proofs.Ythkkpcfmifhllaa.I.rng l) (cs : Array Value) (hcs : cs = (l.map (Value.int .i64)).toArray) :
    Sl (w.alloc (.cells cs e)) (some ⟨w.heap.size, 0, none⟩) l := by
  refine ⟨hl, hr, .inr ⟨_, _, rfl, fun i hi => ?_⟩⟩
  rw [Nat.zero_add, cell_alloc_new, hcs]
  simp [List.getElem?_eq_getElem hi, gt_get hi]

theorem Sl.alloc {w : World} {a : Option Addr} {l : List Int} (h : Sl w a l) (o : Obj) : Sl (w.alloc o) a l := h.bel ((Below.refl _ _).alloc (Nat.le_refl _) o)
theorem Sl.lit' (w : World) (l : List Int) (e : TypeId) (b : Nat) (hb : b = w.heap.size) (hl : l.length ≤ 17592186044416) (hr : Go.Proofs.Ythkkpcfmifhllaa.I.rng l) (cs : Array Value) (hcs : cs = (l.map (Value.int .i64)).toArray) :
    Sl (w.alloc (.cells cs e)) (some ⟨b, 0, none⟩) l := by subst hb; exact Sl.lit w l e hl hr cs hcs
/-! ## a slice of int that the call owns -/
def Own (w : World) (base : Nat) (a : Option Addr) (c : Nat) (l : List Int) : Prop :=
  w.ownsRow base 3 1 (.slice a l.length c) l.length (l.map (Value.int .i64)) ∧ rng l ∧ l.length ≤ 17592186044416

theorem Own.nil (w : World) (base : Nat) : Own w base none 0 [] := ⟨World.ownsRow_nil _ _ _ _, rng_nil, by simp⟩
theorem Own.shape {w : World} {base : Nat} {a : Option Addr} {c : Nat} {l : List Int} (h : Own w base a c l) :
    (a = none ∧ c = 0 ∧ l = []) ∨ ∃ g, a = some ⟨g, 0, none⟩ ∧ base ≤ g ∧ g < w.heap.size ∧ l.length ≤ c := by
  obtain ⟨⟨_, h | ⟨g, cap, cur, hv, hg, hh, hn, _⟩⟩, _⟩ := h
  · simp at h; exact .inl ⟨h.1.1, h.1.2.2, h.2⟩
  · simp only [Value.slice.injEq, true_and] at hv
    refine .inr ⟨g, hv.1, hg, (Array.getElem?_eq_some_iff.1 hh).1, by omega⟩
theorem Own.sl {w : World} {base : Nat} {a : Option Addr} {c : Nat} {l : List Int} (h : Own w base a c l) : Sl w a l := by
  refine ⟨h.2.2, h.2.1, ?_⟩
  rcases h.shape with ⟨_, _, h0⟩ | ⟨g, rfl, _, _, _⟩
  · exact .inl h0
  · refine .inr ⟨g, 0, rfl, fun i hi => ?_⟩
    rw [Nat.zero_add, h.1.cellAt i (by omega)]
    simp [List.getElem?_eq_getElem hi, gt_get hi]
theorem Own.grow {w w' : World} {base : Nat} {a : Option Addr} {c : Nat} {l : List Int} (h : Own w base a c l) (hb : Below w.heap.size w w') : Own w' base a c l :=
  ⟨h.1.kept (row := none) ⟨hb.os, hb.tape, hb.output, hb.size, fun k hk _ => hb.block k hk⟩ (by cases (Value.slice a l.length c).ownBlock <;> simp), h.2⟩
theorem Own.base_le {w : World} {base base' : Nat} {a : Option Addr} {c : Nat} {l : List Int} (h : Own w base a c l) (hb : base' ≤ base) : Own w base' a c l := by
  obtain ⟨⟨h1, h2⟩, h3⟩ := h
  refine ⟨⟨h1, ?_⟩, h3⟩
  rcases h2 with h2 | ⟨g, cap, cur, hv, hg, r⟩
  · exact .inl h2
  · exact .inr ⟨g, cap, cur, hv, by omega, r⟩
theorem Own.drewN {w : World} {base : Nat} {a : Option Addr} {c : Nat} {l : List Int} (h : Own w base a c l) (n : Nat) : Own (w.drewN n) base a c l := h
/-- a store into an owned slice -/
theorem Own.stored {w : World} {base g c : Nat} {l : List Int} (h : Own w base (some ⟨g, 0, none⟩) c l) (i : Nat) (x : Int) (hx : -9223372036854775808 ≤ x ∧ x ≤ 9223372036854775807) :
    Own (w.setCell ⟨g, i, none⟩ (.int .i64 x)) base (some ⟨g, 0, none⟩) c (l.set i x) := by
  refine ⟨?_, ?_, by simpa using h.2.2⟩
  · have := h.1.stored i (.int .i64 x)
    simpa [List.map_set] using this.1
  · intro y hy
    rcases List.mem_or_eq_of_mem_set hy with hy | rfl
    · exact h.2.1 y hy
    · exact hx
theorem Own.free {w : World} {base g c : Nat} {l : List Int} (h : Own w base (some ⟨g, 0, none⟩) c l) (i : Nat) : w.frozen? ⟨g, i, none⟩ = false := h.1.frozenAt i

theorem Try.infoInt : (Try.prog.info? 3).map (fun i => (i.zero, i.size, i.bytes)) = some (some (.int .i64 0), 1, 8) := by kernel_rfl

/-- append of a readable slice to an owned one -/
theorem wpL_app {w : World} {ops : Array Oper} {rest : List Oper} {o : Oper} {at_ : Act} {Q : Exit → Act → World → Prop} (hgd : o.guard = none) (s x : Operand)
    (ho : o.op = .call { callee := .builtin .append, args := #[s, x], argTypes := #[27, 27] })
    (base : Nat) (a a2 : Option Addr) (c c2 : Nat) (l l2 : List Int) (hs : at_.eval s = .slice a l.length c) (hown : Own w base a c l)
    (hx : at_.eval x = .slice a2 l2.length c2) (h2 : Sl w a2 l2) (hb : l.length + l2.length ≤ 17592186044416) (hbase : base ≤ w.heap.size)
    (h : ∀ a' c' w', Own w' base a' c' (l ++ l2) → w.grownBy w' (Value.slice a l.length c).ownBlock → Below base w w' →
      wpList Try.prog ops Q rest (at_.put o.dst (.slice a' (l ++ l2).length c')) w') : wpList Try.prog ops Q (o :: rest) at_ w := by
  obtain ⟨i0, hi, hz0, hz1, hz2⟩ := info_parts Try.infoInt
  cases a2 with
  | none =>
    have h20 : l2 = [] := by
      rcases h2.cells with h0 | ⟨_, _, h0, _⟩
      · exact h0
      · cases h0
    subst h20
    refine wpL_app_none hgd s x 27 ho base 3 i0 1 Try.underlying27 hi _ _ _ _ hs hown.1 hx ?_
    have := h a c w (by simpa using hown) ⟨rfl, rfl, rfl, Nat.le_refl _, fun _ _ _ => rfl⟩ (Below.refl _ _)
    simpa using this
  | some ad =>
    refine wpList_append_own w hgd s x 27 ho base 3 i0 (.int .i64 0) 1 8 Try.underlying27 hi hz0 hz1 hz2 rfl (by decide) (.slice a l.length c) l.length (l.map (Value.int .i64)) hs hown.1
      ad l2.length c2 (l2.map (Value.int .i64)) hx (by simp) ?_ ?_ (by unfold maxLen; omega) (by omega) hbase ?_
    · intro j u hu
      rw [List.getElem?_map] at hu
      by_cases hj : j < l2.length
      · obtain ⟨b, off, he, hc⟩ := h2.at hj
        simp only [Option.some.injEq] at he; subst he
        rw [List.getElem?_eq_getElem hj] at hu
        simp at hu; subst hu
        have := hc j hj
        rw [gt_get hj] at this
        rw [← this]
        unfold Addr.add
        split
        · subst j; rfl
        · rfl
      · rw [List.getElem?_eq_none (by omega)] at hu; simp at hu
    · intro u hu; simp at hu; obtain ⟨y, _, rfl⟩ := hu; rfl
    · intro v' w' hown' hgrow _
      have hr : ∀ k, (Value.slice a l.length c).ownBlock = some k → base ≤ k := fun k hk => (hown.1.lt k hk).1
      have hbel : Below base w w' := (Below.refl _ _).grown hgrow hbase hr
      have hsh : ∃ a' c', v' = .slice a' (l.length + l2.length) c' := by
        rcases hown'.2 with ⟨rfl, h0⟩ | ⟨g, cap, cur, rfl, _⟩
        · exact ⟨none, 0, by rw [h0]⟩
        · exact ⟨_, _, rfl⟩
      obtain ⟨a', c', rfl⟩ := hsh
      have := h a' c' w' ⟨by simpa [List.length_append, List.map_append] using hown', rng_app hown.2.1 h2.rng, by simpa using hb⟩ hgrow hbel
      simpa [List.length_append] using this

/-- append, as one operation; where the new slice lies -/
theorem wp_appx {w : World} {o : Oper} {at_ : Act} {K : Act → World → Prop} {Q : Exit → Act → World → Prop} (s x : Operand)
    (ho : o.op = .call { callee := .builtin .append, args := #[s, x], argTypes := #[27, 27] })
    (base : Nat) (a a2 : Option Addr) (c c2 : Nat) (l l2 : List Int) (hs : at_.eval s = .slice a l.length c) (hown : Own w base a c l)
    (hx : at_.eval x = .slice a2 l2.length c2) (h2 : Sl w a2 l2) (hb : l.length + l2.length ≤ 17592186044416) (hbase : base ≤ w.heap.size)
    (h : ∀ a' c' w', Own w' base a' c' (l ++ l2) → Kpt (Blk a) w w' → Below base w w' → At w a a' →
      K (at_.put o.dst (.slice a' (l ++ l2).length c')) w') : o.wp Try.prog at_ w K Q := by
  obtain ⟨i0, hi, hz0, hz1, hz2⟩ := info_parts Try.infoInt
  cases a2 with
  | none =>
    have h20 : l2 = [] := by
      rcases h2.cells with h0 | ⟨_, _, h0, _⟩
      · exact h0
      · cases h0
    subst h20
    refine wp_app_none s x 27 ho base 3 i0 1 Try.underlying27 hi _ _ _ _ hs hown.1 hx ?_
    have := h a c w (by simpa using hown) (Kpt.refl _ _) (Below.refl _ _) (fun ad h => .inl ⟨ad, h, rfl⟩)
    simpa using this
  | some ad =>
    refine wp_append_own_at s x 27 ho base 3 i0 (.int .i64 0) 1 8 Try.underlying27 hi hz0 hz1 hz2 rfl (by decide) (.slice a l.length c) l.length (l.map (Value.int .i64)) hs hown.1
      ad l2.length c2 (l2.map (Value.int .i64)) hx (by simp) ?_ ?_ (by unfold maxLen; omega) (by omega) hbase ?_
    · intro j u hu
      rw [List.getElem?_map] at hu
      by_cases hj : j < l2.length
      · obtain ⟨b, off, he, hc⟩ := h2.at hj
        simp only [Option.some.injEq] at he; subst he
        rw [List.getElem?_eq_getElem hj] at hu
        simp at hu; subst hu
        have := hc j hj
        rw [gt_get hj] at this
        rw [← this]
        unfold Addr.add
        split
        · subst j; rfl
        · rfl
      · rw [List.getElem?_eq_none (by omega)] at hu; simp at hu
    · intro u hu; simp at hu; obtain ⟨y, _, rfl⟩ := hu; rfl
    · intro v' w' hown' hgrow hat
      have hr : ∀ k, (Value.slice a l.length c).ownBlock = some k → base ≤ k := fun k hk => (hown.1.lt k hk).1
      have hbel : Below base w w' := (Below.refl _ _).grown hgrow hbase hr
      have hsh : ∃ a' c', v' = .slice a' (l.length + l2.length) c' := by
        rcases hown'.2 with ⟨rfl, h0⟩ | ⟨g, cap, cur, rfl, _⟩
        · exact ⟨none, 0, by rw [h0]⟩
        · exact ⟨_, _, rfl⟩
      obtain ⟨a', c', rfl⟩ := hsh
      have := h a' c' w' ⟨by simpa [List.length_append, List.map_append] using hown', rng_app hown.2.1 h2.rng, by simpa using hb⟩ (Kpt.grown hgrow) hbel (by
        rintro ad rfl
        rcases hat with hat | hat
        · left; cases a with
          | none => simp [Value.ownBlock] at hat
          | some ae => exact ⟨ae, rfl, by simpa [Value.ownBlock] using hat.symm⟩
        · right; simp [Value.ownBlock] at hat; omega)
      simpa [List.length_append] using this

/-- the same, and where the new slice lies -/
theorem wpL_appx {w : World} {ops : Array Oper} {rest : List Oper} {o : Oper} {at_ : Act} {Q : Exit → Act → World → Prop} (hgd : o.guard = none) (s x : Operand)
    (ho : o.op = .call { callee := .builtin .append, args := #[s, x], argTypes := #[27, 27] })
    (base : Nat) (a a2 : Option Addr) (c c2 : Nat) (l l2 : List Int) (hs : at_.eval s = .slice a l.length c) (hown : Own w base a c l)
    (hx : at_.eval x = .slice a2 l2.length c2) (h2 : Sl w a2 l2) (hb : l.length + l2.length ≤ 17592186044416) (hbase : base ≤ w.heap.size)
    (h : ∀ a' c' w', Own w' base a' c' (l ++ l2) → Kpt (Blk a) w w' → Below base w w' → At w a a' →
      wpList Try.prog ops Q rest (at_.put o.dst (.slice a' (l ++ l2).length c')) w') : wpList Try.prog ops Q (o :: rest) at_ w :=
  wpList_plain hgd fun _ hK => wp_appx s x ho base a a2 c c2 l l2 hs hown hx h2 hb hbase fun a' c' w' h1 h2 h3 h4 => hK _ _ (h a' c' w' h1 h2 h3 h4)
/-- append in a region that draws its order -/
theorem step_appn {w : World} {ops : Array Oper} {o : Oper} {at_ : Act} {K : Act → World → Prop} {Q : Exit → Act → World → Prop} {E : Prop} (hgd : o.guard = none) (s x : Operand)
    (ho : o.op = .call { callee := .builtin .append, args := #[s, x], argTypes := #[27, 27] })
    (base : Nat) (a a2 : Option Addr) (n n2 c c2 : Nat) (l l2 : List Int) (hs : at_.eval s = .slice a n c) (hn : n = l.length) (hown : Own w base a c l)
    (hx : at_.eval x = .slice a2 n2 c2) (hn2 : n2 = l2.length) (h2 : Sl w a2 l2) (hb : l.length + l2.length ≤ 17592186044416) (hbase : base ≤ w.heap.size)
    (h : ∀ a' c' w' L, Hid (L = l ++ l2) → Own w' base a' c' L → Below base w w' → Kpt (Blk a) w w' → At w a a' →
      K (at_.put o.dst (.slice a' L.length c')) w') : if Region.wanted o (yielded ops at_.tmps) = true then Oper.wp Try.prog o at_ w K Q else E := by
  subst hn; subst hn2
  exact step_of hgd (wp_appx s x ho base a a2 c c2 l l2 hs hown hx h2 hb hbase fun a' c' w' h1 h2 h3 h4 => h a' c' w' _ rfl h1 h3 h2 h4)

/-- the same, the new list under a name of its own (the walk would write out its length) -/
theorem wpL_appn {w : World} {ops : Array Oper} {rest : List Oper} {o : Oper} {at_ : Act} {Q : Exit → Act → World → Prop} (hgd : o.guard = none) (s x : Operand)
    (ho : o.op = .call { callee := .builtin .append, args := #[s, x], argTypes := #[27, 27] })
    (base : Nat) (a a2 : Option Addr) (n n2 c c2 : Nat) (l l2 : List Int) (hs : at_.eval s = .slice a n c) (hn : n = l.length) (hown : Own w base a c l)
    (hx : at_.eval x = .slice a2 n2 c2) (hn2 : n2 = l2.length) (h2 : Sl w a2 l2) (hb : l.length + l2.length ≤ 17592186044416) (hbase : base ≤ w.heap.size)
    (h : ∀ a' c' w' L, Hid (L = l ++ l2) → Own w' base a' c' L → Below base w w' → Kpt (Blk a) w w' → At w a a' →
      wpList Try.prog ops Q rest (at_.put o.dst (.slice a' L.length c')) w') : wpList Try.prog ops Q (o :: rest) at_ w := by
  subst hn; subst hn2
  exact wpL_appx hgd s x ho base a a2 c c2 l l2 hs hown hx h2 hb hbase fun a' c' w' h1 h2 h3 h4 => h a' c' w' _ rfl h1 h3 h2 h4

/-- what a function that makes a new slice gives -/
def Makes (w : World) (l : List Int) (e : Ending) (w' : World) : Prop :=
  ∃ a c, e = .returned (.slice a l.length c) ∧ Own w' w.heap.size a c l ∧ Below w.heap.size w w'

theorem Try.cellsInt : Try.prog.cellsOf 3 = 1 := by kernel_rfl
theorem Try.bytesInt : Try.prog.bytesOf 3 = 8 := by kernel_rfl

section
variable {H : Type} {enc : TypeId × Value → H}
set_option maxRecDepth 20000 in
/-- a []int argument: the list that it reads as; its length is paid by the reach or by the bulk -/
theorem open_runes {W : World} {base : Nat} {v : Value} {d : DataW H} {p : List MemPlace} (hv : Value.okWide Try.prog W .any base 27 v)
    (h : DataW.Trod enc Try.prog W 0 (fun _ => true) true 27 v d p) :
    ∃ a l c, v = .slice a l.length c ∧ l.length ≤ c ∧ (d = .nil ∧ c = 0 ∨ ∃ es sp, d = .slice es sp ∧ es.length + sp.length = c) ∧ (l.length ≤ 17592186044416 → Sl W a l) := by
  obtain ⟨a0, len, cap, rfl⟩ := okWide_slice Try.underlying27 hv
  obtain ⟨fuel, hf⟩ := h
  rcases open_ints Try.underlying27 Try.underlying3 Try.cellsInt hf with ⟨hcs, hx⟩ | ⟨a, len', cap', zs, hcs, _, hl, hm, hz, hx, hcell, hwz⟩
  · simp only [Value.cells, List.cons.injEq, and_true, Value.slice.injEq] at hcs
    obtain ⟨rfl, rfl, rfl⟩ := hcs
    simp only [Prod.mk.injEq] at hx
    exact ⟨none, [], 0, rfl, by simp, .inl ⟨hx.1, rfl⟩, fun _ => Sl.nil _ _⟩
  · simp only [Value.cells, List.cons.injEq, and_true, Value.slice.injEq] at hcs
    obtain ⟨rfl, rfl, rfl⟩ := hcs
    simp only [Prod.mk.injEq] at hx
    simp only [if_true] at hz
    have hlen : (zs.take len).length = len := by rw [List.length_take]; omega
    have hd : ∃ es sp, d = .slice es sp ∧ es.length + sp.length = cap := ⟨_, _, hx.1, by simp [lits]; omega⟩
    refine ⟨some a, zs.take len, cap, by rw [hlen], by omega, .inr hd, fun hle => ?_⟩
    refine ⟨hle, fun x hx => wf_i64 (hwz x (List.mem_of_mem_take hx)), ?_⟩
    by_cases h0 : zs.take len = []
    · exact .inl h0
    · have hpos : 0 < len := by
        rcases Nat.eq_zero_or_pos len with h | h
        · subst h; simp at h0
        · exact h
      have hsp : a.spot = none := by
        have := hcell 0 (by omega)
        obtain ⟨b, o, sp⟩ := a
        cases sp with
        | none => rfl
        | some s =>
          simp only [Addr.add, if_true, World.cell?] at this
          split at this <;> simp_all
      obtain ⟨b, o, sp⟩ := a
      simp only at hsp; subst hsp
      refine .inr ⟨b, o, rfl, fun i hi => ?_⟩
      have h1 := hcell i (by omega)
      rw [gt_get hi]
      have h2 : (⟨b, o, none⟩ : Addr).add i = ⟨b, o + i, none⟩ := by unfold Addr.add; split <;> simp_all
      rw [h2] at h1
      rw [h1]
      simp [List.getD, List.getElem?_eq_getElem (show i < zs.length by omega)]

/-- a slice of runes that was read is within the reach -/
theorem cap_sized {ts : List TypeId} {ds : List (DataW H)} {d : DataW H} {c : Nat} (h : (DataW.weightsEach Try.prog ts ds).all (· ≤ reachBytes) = true) (j : Nat)
    (ht : ts[j]? = some 27) (hd : ds[j]? = some d) (hc : d = .nil ∧ c = 0 ∨ ∃ es sp, d = .slice es sp ∧ es.length + sp.length = c) : c ≤ 17592186043904 := by
  rcases hc with ⟨_, rfl⟩ | ⟨es, sp, rfl, rfl⟩
  · omega
  · have := sized_slice h ht hd Try.underlying27
    rw [Try.bytesInt] at this
    simp only [reachBytes] at this
    omega

end
/-! ### slices of slices -/
theorem Try.elemIsInt : Try.prog.underlying 27 = some (.slice (Try.prog.elem 27)) := by kernel_rfl
theorem Try.sizeIsInt (w : World) : (sizeOf (Try.prog.elem 27)).run Try.prog w = .ok 1 w := by kernel_rfl
theorem Sl.cut {w : World} {a : Option Addr} {l : List Int} (h : Sl w a l) (n m c : Nat) (hnm : n ≤ m) (hml : m ≤ l.length) (hlc : l.length ≤ c) :
    Sl w (if c = n then a else a.map (·.add (n * 1))) ((l.take m).drop n) := by
  by_cases h0 : (l.take m).drop n = []
  · rw [h0]; exact Sl.nil _ _
  · have hlt : n < m := by
      rcases Nat.lt_or_ge n m with h1 | h1
      · exact h1
      · exact absurd (by simp; omega) h0
    rw [if_neg (by omega)]
    obtain ⟨b, o, rfl, _⟩ := h.at (i := 0) (by omega)
    have h2 : (some (⟨b, o, none⟩ : Addr)).map (·.add (n * 1)) = some ⟨b, o + n, none⟩ := by
      simp only [Option.map_some, Nat.mul_one]; unfold Addr.add; split <;> simp_all
    rw [h2]
    exact (h.take m).drop n
theorem slice_from {w : World} {a : Option Addr} {l : List Int} (h : Sl w a l) (n c : Nat) (hn : n ≤ l.length) (hlc : l.length ≤ c) :
    ∃ a' c' D, Hid (D = l.drop n) ∧ Sl w a' D ∧ D.length ≤ c' ∧ ∀ w', (Instr.slice 27 (.slice a l.length c) (some (.int .i64 n)) none none).run Try.prog w' = .ok (.slice a' D.length c') w' := by
  have h1 := h.cut n l.length c hn (Nat.le_refl _) hlc
  rw [List.take_length] at h1
  refine ⟨_, c - n, _, rfl, h1, by simp; omega, fun w' => ?_⟩
  rw [run_slice_l _ _ _ _ _ Try.elemIsInt .i64 n (by omega) (by omega)]
  simp [Try.sizeIsInt, Result.andThen, sliced]
theorem slice_to {w : World} {a : Option Addr} {l : List Int} (h : Sl w a l) (m c : Nat) (hm : m ≤ l.length) (hlc : l.length ≤ c) :
    ∃ a' c' D, Hid (D = l.take m) ∧ Sl w a' D ∧ D.length ≤ c' ∧ ∀ w', (Instr.slice 27 (.slice a l.length c) none (some (.int .i64 m)) none).run Try.prog w' = .ok (.slice a' D.length c') w' := by
  have h1 := h.cut 0 m c (by omega) hm hlc
  rw [List.drop_zero] at h1
  refine ⟨_, c, _, rfl, h1, by simp; omega, fun w' => ?_⟩
  rw [run_slice_h _ _ _ _ _ Try.elemIsInt .i64 m (by omega) (by omega)]
  simp [Try.sizeIsInt, Result.andThen, sliced, Nat.min_eq_left hm]
theorem slice_mid {w : World} {a : Option Addr} {l : List Int} (h : Sl w a l) (n m c : Nat) (hnm : n ≤ m) (hm : m ≤ l.length) (hlc : l.length ≤ c) :
    ∃ a' c' D, Hid (D = (l.take m).drop n) ∧ Sl w a' D ∧ D.length ≤ c' ∧ ∀ w', (Instr.slice 27 (.slice a l.length c) (some (.int .i64 n)) (some (.int .i64 m)) none).run Try.prog w' = .ok (.slice a' D.length c') w' := by
  refine ⟨_, c - n, _, rfl, h.cut n m c hnm hm hlc, by simp; omega, fun w' => ?_⟩
  rw [run_slice_lh _ _ _ _ _ Try.elemIsInt .i64 .i64 n m (by omega) (by omega) (by omega)]
  simp [Try.sizeIsInt, Result.andThen, sliced, Nat.min_eq_left hm]

/-! ### what other blocks hold is as it was -/
theorem Sl.same {w w' : World} {a : Option Addr} {l : List Int} (h : Sl w a l) (hb : ∀ ad, a = some ad → ad.block < w.heap.size → w'.heap[ad.block]? = w.heap[ad.block]?) : Sl w' a l := by
  refine ⟨h.len, h.rng, ?_⟩
  rcases h.cells with h0 | ⟨b, off, ha, hc⟩
  · exact .inl h0
  · refine .inr ⟨b, off, ha, fun i hi => ?_⟩
    have c0 := hc i hi
    have hlt := World.block_lt_of_cell? w _ c0
    have he := hb _ ha hlt
    rw [World.cell?_of_block (w := w) (w' := w') (a := ⟨b, off + i, none⟩) he]; exact c0

theorem Sl.kpt {w w' : World} {F : Nat → Prop} {a : Option Addr} {l : List Int} (h : Sl w a l) (ho : Off a F) (hk : Kpt F w w') : Sl w' a l :=
  h.same fun ad ha hlt => hk.block _ hlt (ho ad ha)
theorem Sl.setOther {w : World} {a : Option Addr} {l : List Int} (h : Sl w a l) (p : Addr) (v : Value) (hn : ∀ ad, a = some ad → ad.block ≠ p.block) : Sl (w.setCell p v) a l :=
  h.same fun ad ha _ => Below.heap_setCell _ _ _ _ (hn ad ha)
theorem Own.same {w w' : World} {base : Nat} {a : Option Addr} {c : Nat} {l : List Int} (h : Own w base a c l) (hb : ∀ ad, a = some ad → ad.block < w.heap.size → w'.heap[ad.block]? = w.heap[ad.block]?) : Own w' base a c l := by
  obtain ⟨⟨h1, h2⟩, h3⟩ := h
  refine ⟨⟨h1, ?_⟩, h3⟩
  rcases h2 with h2 | ⟨g, cap, cur, hv, hg, hh, r⟩
  · exact .inl h2
  · simp only [Value.slice.injEq, true_and] at hv
    refine .inr ⟨g, cap, cur, by simp [hv], hg, ?_, r⟩
    rw [hb _ hv.1 (Array.getElem?_eq_some_iff.1 hh).1]; exact hh
theorem Own.setOther {w : World} {base : Nat} {a : Option Addr} {c : Nat} {l : List Int} (h : Own w base a c l) (p : Addr) (v : Value) (hn : ∀ ad, a = some ad → ad.block ≠ p.block) : Own (w.setCell p v) base a c l :=
  h.same fun ad ha _ => Below.heap_setCell _ _ _ _ (hn ad ha)
theorem Own.off {w : World} {base : Nat} {a : Option Addr} {c : Nat} {l : List Int} (h : Own w base a c l) {k : Nat} (hk : w.heap.size ≤ k) : ¬ Blk a k := by
  rintro ⟨ad, rfl, rfl⟩
  rcases h.shape with ⟨h0, _⟩ | ⟨g, h0, _, hl, _⟩
  · cases h0
  · simp only [Option.some.injEq] at h0; subst h0; simp at hk; omega

theorem Own.offlt {w : World} {base : Nat} {a : Option Addr} {c : Nat} {l : List Int} (h : Own w base a c l) {k : Nat} (hk : k < base) : ¬ Blk a k := by
  rintro ⟨ad, rfl, rfl⟩
  rcases h.shape with ⟨h0, _⟩ | ⟨g, h0, hg, hl, _⟩
  · cases h0
  · simp only [Option.some.injEq] at h0; subst h0; simp at hk; omega

end Go.Proofs.Ythkkpcfmifhllaa.I
