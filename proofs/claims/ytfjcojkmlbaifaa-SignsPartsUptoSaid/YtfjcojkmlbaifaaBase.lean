/- Base: readable and owned slices of integers as lists, what append does to them, and the frame that turns a walk into a given statement. -/
import Derived.Test.YtfjcojkmlbaifaaRows
import Derived.WalkKit
import Derived.WalkSpells
import Derived.WalkLawsBesides
import Derived.BigQuiet
import Derived.Deep.QuietTactic
import Derived.Deep.LoopGhost
import Derived.Deep.Light
import Derived.ProofKit
import Derived.SizedLaws
import Derived.JoinedCond
import Derived.Laws.AppendOwnNone
import Derived.Laws.OwnMore
namespace Go.Proofs.Ytfjcojkmlbaifaa
open Go.RowKit Go.ChangeShapes Go.WideShapes Go.ChangeAt

theorem hid {p : Prop} (h : p) : Hid p := h

theorem snocInd {α : Type} {P : List α → Prop} (h0 : P []) (hs : ∀ l x, P l → P (l ++ [x])) (l : List α) : P l := by
  have h : ∀ r : List α, P r.reverse := by
    intro r
    induction r with
    | nil => exact h0
    | cons x r ih => rw [List.reverse_cons]; exact hs _ _ ih
  have := h l.reverse
  rwa [List.reverse_reverse] at this

/-! ## numbers of a list -/
def gt (l : List Int) (i : Nat) : Int := l.getD i 0
theorem gt_get {l : List Int} {i : Nat} (h : i < l.length) : gt l i = l[i] := by simp [gt, List.getD, List.getElem?_eq_getElem h]
theorem gt_mem {l : List Int} {i : Nat} (h : i < l.length) : gt l i ∈ l := by rw [gt_get h]; exact List.getElem_mem h
theorem gt_app_left {l r : List Int} {i : Nat} (h : i < l.length) : gt (l ++ r) i = gt l i := by
  simp [gt, List.getD, List.getElem?_append_left h]
theorem gt_app_right {l r : List Int} {i : Nat} (h : l.length ≤ i) : gt (l ++ r) i = gt r (i - l.length) := by
  simp [gt, List.getD, List.getElem?_append_right h]
theorem take_succ {l : List Int} {k : Nat} (h : k < l.length) : l.take (k + 1) = l.take k ++ [gt l k] := by
  rw [List.take_succ_eq_append_getElem h, gt_get h]

def rng (l : List Int) : Prop := ∀ x ∈ l, -2147483648 ≤ x ∧ x ≤ 2147483647
theorem rng_nil : rng [] := by intro x h; cases h
theorem rng_app {a b : List Int} (ha : rng a) (hb : rng b) : rng (a ++ b) := by
  intro x h; rcases List.mem_append.1 h with h | h
  · exact ha x h
  · exact hb x h
theorem rng_gt {l : List Int} (h : rng l) {i : Nat} (hi : i < l.length) : -2147483648 ≤ gt l i ∧ gt l i ≤ 2147483647 := h _ (gt_mem hi)
theorem rng_one {x : Int} (h : -2147483648 ≤ x ∧ x ≤ 2147483647) : rng [x] := by intro y hy; simp at hy; subst hy; exact h
theorem rng_cons {x : Int} {l : List Int} (h : -2147483648 ≤ x ∧ x ≤ 2147483647) (hl : rng l) : rng (x :: l) := by
  intro y hy; rcases List.mem_cons.1 hy with rfl | hy
  · exact h
  · exact hl y hy

/-! ## a slice of int32 that reads as a list -/
structure Sl (w : World) (a : Option Addr) (l : List Int) : Prop where
  len : l.length ≤ 35184372088832
  rng : rng l
  cells : l = [] ∨ ∃ b off, a = some ⟨b, off, none⟩ ∧ ∀ i, i < l.length → w.cell? ⟨b, off + i, none⟩ = some (.int .i32 (gt l i))

theorem Sl.at {w : World} {a : Option Addr} {l : List Int} (h : Sl w a l) {i : Nat} (hi : i < l.length) :
    ∃ b off, a = some ⟨b, off, none⟩ ∧ ∀ i, i < l.length → w.cell? ⟨b, off + i, none⟩ = some (.int .i32 (gt l i)) := by
  rcases h.cells with rfl | h
  · simp at hi
  · exact h
theorem Sl.nil (w : World) (a : Option Addr) : Sl w a [] := ⟨by simp, rng_nil, .inl rfl⟩
theorem Sl.below {w w' : World} {a : Option Addr} {l : List Int} {B : Nat} (h : Sl w a l) (hb : Below B w w') (hB : w.heap.size ≤ B) : Sl w' a l := by
  refine ⟨h.len, h.rng, ?_⟩
  rcases h.cells with h0 | ⟨b, off, ha, hc⟩
  · exact .inl h0
  · refine .inr ⟨b, off, ha, fun i hi => ?_⟩
    have := World.block_lt_of_cell? w _ (hc i hi)
    rw [hb.cell (p := ⟨b, off + i, none⟩) (by simp at this ⊢; omega)]
    exact hc i hi
theorem Sl.bel {w w' : World} {a : Option Addr} {l : List Int} (h : Sl w a l) (hb : Below w.heap.size w w') : Sl w' a l := h.below hb (Nat.le_refl _)
theorem Sl.drewN {w : World} {a : Option Addr} {l : List Int} (h : Sl w a l) (n : Nat) : Sl (w.drewN n) a l := ⟨h.len, h.rng, h.cells⟩
theorem Sl.drew {w : World} {a : Option Addr} {l : List Int} (h : Sl w a l) : Sl w.drew a l := ⟨h.len, h.rng, h.cells⟩
theorem Sl.take {w : World} {a : Option Addr} {l : List Int} (h : Sl w a l) (n : Nat) : Sl w a (l.take n) := by
  refine ⟨by have := h.len; rw [List.length_take]; omega, fun x hx => h.rng x (List.mem_of_mem_take hx), ?_⟩
  rcases h.cells with h0 | ⟨b, off, ha, hc⟩
  · exact .inl (by simp [h0])
  · refine .inr ⟨b, off, ha, fun i hi => ?_⟩
    rw [List.length_take] at hi
    rw [hc i (by omega)]
    congr 2
    rw [gt_get (by omega), gt_get (by rw [List.length_take]; omega)]; simp
theorem Sl.drop {w : World} {b off : Nat} {l : List Int} (h : Sl w (some ⟨b, off, none⟩) l) (n : Nat) : Sl w (some ⟨b, off + n, none⟩) (l.drop n) := by
  refine ⟨by have := h.len; rw [List.length_drop]; omega, fun x hx => h.rng x (List.mem_of_mem_drop hx), ?_⟩
  rcases h.cells with h0 | ⟨b', off', ha, hc⟩
  · exact .inl (by simp [h0])
  · simp only [Option.some.injEq, Addr.mk.injEq, and_true] at ha
    obtain ⟨rfl, rfl⟩ := ha
    refine .inr ⟨_, _, rfl, fun i hi => ?_⟩
    rw [List.length_drop] at hi
    rw [show off + n + i = off + (n + i) from by omega, hc (n + i) (by omega)]
    congr 2
    rw [gt_get (by omega), gt_get (by rw [List.length_drop]; omega)]; simp

theorem drewN_ex (w : World) (n m : Nat) : ∃ k, (w.drewN n).drewN m = w.drewN k := ⟨n + m, World.drewN_drewN ..⟩
theorem drewN_ex2 (w : World) (n m o : Nat) : ∃ k, ((w.drewN n).drewN m).drewN o = w.drewN k := ⟨n + (m + o), by rw [World.drewN_drewN, World.drewN_drewN]⟩
theorem bdrewN {B : Nat} {a w : World} (h : Below B a w) (n : Nat) : Below B a (w.drewN n) := ⟨h.os, h.tape, h.output, h.size, h.block⟩
theorem cell_alloc_new (w : World) (cs : Array Value) (e : TypeId) (i : Nat) : (w.alloc (.cells cs e)).cell? ⟨w.heap.size, i, none⟩ = cs[i]? := by
  rw [World.cell?_alloc_at _ _ _ _ rfl]
/-- a literal slice in a new block -/
theorem Sl.lit (w : World) (l : List Int) (e : TypeId) (hl : l.length ≤ 35184372088832) (hr : Go.Proofs.Ytfjcojkmlbaifaa.rng l) (cs : Array Value) (hcs : cs = (l.map (Value.int .i32)).toArray) :
    Sl (w.alloc (.cells cs e)) (some ⟨w.heap.size, 0, none⟩) l := by
  refine ⟨hl, hr, .inr ⟨_, _, rfl, fun i hi => ?_⟩⟩
  rw [Nat.zero_add, cell_alloc_new, hcs]
  simp [List.getElem?_eq_getElem hi, gt_get hi]

theorem Sl.alloc {w : World} {a : Option Addr} {l : List Int} (h : Sl w a l) (o : Obj) : Sl (w.alloc o) a l := h.bel ((Below.refl _ _).alloc (Nat.le_refl _) o)
theorem Sl.lit' (w : World) (l : List Int) (e : TypeId) (b : Nat) (hb : b = w.heap.size) (hl : l.length ≤ 35184372088832) (hr : Go.Proofs.Ytfjcojkmlbaifaa.rng l) (cs : Array Value) (hcs : cs = (l.map (Value.int .i32)).toArray) :
    Sl (w.alloc (.cells cs e)) (some ⟨b, 0, none⟩) l := by subst hb; exact Sl.lit w l e hl hr cs hcs
theorem bal {w w1 : World} (h : Below w.heap.size w w1) (o : Obj) : Below w.heap.size w (w1.alloc o) := h.alloc h.size o
theorem bthen {w w1 w2 : World} (h1 : Below w.heap.size w w1) (h2 : Below w1.heap.size w1 w2) : Below w.heap.size w w2 := h1.trans (h2.mono h1.size)

/-! ## a slice of int32 that the call owns -/
def Own (w : World) (base : Nat) (a : Option Addr) (c : Nat) (l : List Int) : Prop :=
  w.ownsRow base 21 1 (.slice a l.length c) l.length (l.map (Value.int .i32)) ∧ rng l ∧ l.length ≤ 35184372088832

theorem Own.nil (w : World) (base : Nat) : Own w base none 0 [] := ⟨World.ownsRow_nil _ _ _ _, rng_nil, by simp⟩
theorem Own.shape {w : World} {base : Nat} {a : Option Addr} {c : Nat} {l : List Int} (h : Own w base a c l) :
    (a = none ∧ c = 0 ∧ l = []) ∨ ∃ g, a = some ⟨g, 0, none⟩ ∧ base ≤ g ∧ g < w.heap.size ∧ l.length ≤ c := by
  obtain ⟨⟨_, h | ⟨g, cap, cur, hv, hg, hh, hn, _⟩⟩, _⟩ := h
  · simp at h; exact .inl ⟨h.1.1, h.1.2.2, h.2⟩
  · simp only [Value.slice.injEq, true_and] at hv
    refine .inr ⟨g, hv.1, hg, (Array.getElem?_eq_some_iff.1 hh).1, by omega⟩
theorem Own.sl {w : World} {base : Nat} {a : Option Addr} {c : Nat} {l : List Int} (h : Own w base a c l) : Sl w a l := by
  refine ⟨h.2.2, h.2.1, ?_⟩
  rcases h.shape with ⟨_, _, h0⟩ | ⟨g, rfl, _, _, _⟩
  · exact .inl h0
  · refine .inr ⟨g, 0, rfl, fun i hi => ?_⟩
    rw [Nat.zero_add, h.1.cellAt i (by omega)]
    simp [List.getElem?_eq_getElem hi, gt_get hi]
theorem Own.grow {w w' : World} {base : Nat} {a : Option Addr} {c : Nat} {l : List Int} (h : Own w base a c l) (hb : Below w.heap.size w w') : Own w' base a c l :=
  ⟨h.1.kept (row := none) ⟨hb.os, hb.tape, hb.output, hb.size, fun k hk _ => hb.block k hk⟩ (by cases (Value.slice a l.length c).ownBlock <;> simp), h.2⟩
theorem Own.base_le {w : World} {base base' : Nat} {a : Option Addr} {c : Nat} {l : List Int} (h : Own w base a c l) (hb : base' ≤ base) : Own w base' a c l := by
  obtain ⟨⟨h1, h2⟩, h3⟩ := h
  refine ⟨⟨h1, ?_⟩, h3⟩
  rcases h2 with h2 | ⟨g, cap, cur, hv, hg, r⟩
  · exact .inl h2
  · exact .inr ⟨g, cap, cur, hv, by omega, r⟩
theorem Own.drewN {w : World} {base : Nat} {a : Option Addr} {c : Nat} {l : List Int} (h : Own w base a c l) (n : Nat) : Own (w.drewN n) base a c l := h
/-- a store into an owned slice -/
theorem Own.stored {w : World} {base g c : Nat} {l : List Int} (h : Own w base (some ⟨g, 0, none⟩) c l) (i : Nat) (x : Int) (hx : -2147483648 ≤ x ∧ x ≤ 2147483647) :
    Own (w.setCell ⟨g, i, none⟩ (.int .i32 x)) base (some ⟨g, 0, none⟩) c (l.set i x) := by
  refine ⟨?_, ?_, by simpa using h.2.2⟩
  · have := h.1.stored i (.int .i32 x)
    simpa [List.map_set] using this.1
  · intro y hy
    rcases List.mem_or_eq_of_mem_set hy with hy | rfl
    · exact h.2.1 y hy
    · exact hx
theorem Own.free {w : World} {base g c : Nat} {l : List Int} (h : Own w base (some ⟨g, 0, none⟩) c l) (i : Nat) : w.frozen? ⟨g, i, none⟩ = false := h.1.frozenAt i

theorem Try.infoI32 : (Try.prog.info? 21).map (fun i => (i.zero, i.size, i.bytes)) = some (some (.int .i32 0), 1, 4) := by kernel_rfl

theorem run_app_none {P : Program} {w : World} (base : Nat) (t ty e : TypeId) (i : TypeInfo) (size : Nat) (ht : P.underlying t = some (.slice e)) (hi : P.info? e = some i)
    (v : Value) (n c2 : Nat) (xs : List Value) (hown : w.ownsRow base e size v n xs) :
    (Builtin.append_ #[t, t] ty #[v, .slice none 0 c2]).run P w = .ok v w := by
  rcases hown.2 with ⟨rfl, rfl⟩ | ⟨g, cap, cur, rfl, _, _, hnc, _⟩
  · simp [Builtin.append_, run_underlying ht, sizeOf, typeInfo, hi, Builtin.lenOf, Builtin.firstCells]
  · simp [Builtin.append_, run_underlying ht, sizeOf, typeInfo, hi, Builtin.lenOf, Builtin.firstCells, hnc, storeCells]
theorem wpL_app_none {P : Program} {w : World} {ops : Array Oper} {rest : List Oper} {o : Oper} {a : Act} {Q : Exit → Act → World → Prop} (hgd : o.guard = none) (s x : Operand) (t : TypeId)
    (ho : o.op = .call { callee := .builtin .append, args := #[s, x], argTypes := #[t, t] })
    (base : Nat) (e : TypeId) (i : TypeInfo) (size : Nat) (ht : P.underlying t = some (.slice e)) (hi : P.info? e = some i)
    (v : Value) (n c2 : Nat) (xs : List Value) (hs : a.eval s = v) (hown : w.ownsRow base e size v n xs) (hx : a.eval x = .slice none 0 c2)
    (h : wpList P ops Q rest (a.put o.dst v) w) : wpList P ops Q (o :: rest) a w := by
  refine wpList_plain hgd fun K hK => ?_
  have hrun := run_app_none (P := P) (w := w) base t o.type e i size ht hi v n c2 xs hown
  unfold Oper.wp
  simp [execOp, ho, resolve, invoke, builtin, hs, hx, hrun, Result.andThen]
  exact hK _ _ h

/-- append of a readable slice to an owned one -/
theorem wpL_app {w : World} {ops : Array Oper} {rest : List Oper} {o : Oper} {at_ : Act} {Q : Exit → Act → World → Prop} (hgd : o.guard = none) (s x : Operand)
    (ho : o.op = .call { callee := .builtin .append, args := #[s, x], argTypes := #[23, 23] })
    (base : Nat) (a a2 : Option Addr) (c c2 : Nat) (l l2 : List Int) (hs : at_.eval s = .slice a l.length c) (hown : Own w base a c l)
    (hx : at_.eval x = .slice a2 l2.length c2) (h2 : Sl w a2 l2) (hb : l.length + l2.length ≤ 35184372088832) (hbase : base ≤ w.heap.size)
    (h : ∀ a' c' w', Own w' base a' c' (l ++ l2) → w.grownBy w' (Value.slice a l.length c).ownBlock → Below base w w' →
      wpList Try.prog ops Q rest (at_.put o.dst (.slice a' (l ++ l2).length c')) w') : wpList Try.prog ops Q (o :: rest) at_ w := by
  obtain ⟨i0, hi, hz0, hz1, hz2⟩ := info_parts Try.infoI32
  cases a2 with
  | none =>
    have h20 : l2 = [] := by
      rcases h2.cells with h0 | ⟨_, _, h0, _⟩
      · exact h0
      · cases h0
    subst h20
    refine wpL_app_none hgd s x 23 ho base 21 i0 1 Try.underlying23 hi _ _ _ _ hs hown.1 hx ?_
    have := h a c w (by simpa using hown) ⟨rfl, rfl, rfl, Nat.le_refl _, fun _ _ _ => rfl⟩ (Below.refl _ _)
    simpa using this
  | some ad =>
    refine wpList_append_own w hgd s x 23 ho base 21 i0 (.int .i32 0) 1 4 Try.underlying23 hi hz0 hz1 hz2 rfl (by decide) (.slice a l.length c) l.length (l.map (Value.int .i32)) hs hown.1
      ad l2.length c2 (l2.map (Value.int .i32)) hx (by simp) ?_ ?_ (by unfold maxLen; omega) (by omega) hbase ?_
    · intro j u hu
      rw [List.getElem?_map] at hu
      by_cases hj : j < l2.length
      · obtain ⟨b, off, he, hc⟩ := h2.at hj
        simp only [Option.some.injEq] at he; subst he
        rw [List.getElem?_eq_getElem hj] at hu
        simp at hu; subst hu
        have := hc j hj
        rw [gt_get hj] at this
        rw [← this]
        unfold Addr.add
        split
        · subst j; rfl
        · rfl
      · rw [List.getElem?_eq_none (by omega)] at hu; simp at hu
    · intro u hu; simp at hu; obtain ⟨y, _, rfl⟩ := hu; rfl
    · intro v' w' hown' hgrow _
      have hr : ∀ k, (Value.slice a l.length c).ownBlock = some k → base ≤ k := fun k hk => (hown.1.lt k hk).1
      have hbel : Below base w w' := (Below.refl _ _).grown hgrow hbase hr
      have hsh : ∃ a' c', v' = .slice a' (l.length + l2.length) c' := by
        rcases hown'.2 with ⟨rfl, h0⟩ | ⟨g, cap, cur, rfl, _⟩
        · exact ⟨none, 0, by rw [h0]⟩
        · exact ⟨_, _, rfl⟩
      obtain ⟨a', c', rfl⟩ := hsh
      have := h a' c' w' ⟨by simpa [List.length_append, List.map_append] using hown', rng_app hown.2.1 h2.rng, by simpa using hb⟩ hgrow hbel
      simpa [List.length_append] using this

/-- the same, the new list under a name of its own (the walk would write out its length) -/
theorem wpL_appn {w : World} {ops : Array Oper} {rest : List Oper} {o : Oper} {at_ : Act} {Q : Exit → Act → World → Prop} (hgd : o.guard = none) (s x : Operand)
    (ho : o.op = .call { callee := .builtin .append, args := #[s, x], argTypes := #[23, 23] })
    (base : Nat) (a a2 : Option Addr) (n n2 c c2 : Nat) (l l2 : List Int) (hs : at_.eval s = .slice a n c) (hn : n = l.length) (hown : Own w base a c l)
    (hx : at_.eval x = .slice a2 n2 c2) (hn2 : n2 = l2.length) (h2 : Sl w a2 l2) (hb : l.length + l2.length ≤ 35184372088832) (hbase : base ≤ w.heap.size)
    (h : ∀ a' c' w' L, Hid (L = l ++ l2) → Own w' base a' c' L → Below base w w' →
      wpList Try.prog ops Q rest (at_.put o.dst (.slice a' L.length c')) w') : wpList Try.prog ops Q (o :: rest) at_ w := by
  subst hn; subst hn2
  exact wpL_app hgd s x ho base a a2 c c2 l l2 hs hown hx h2 hb hbase fun a' c' w' h1 _ h3 => h a' c' w' _ rfl h1 h3

/-- what a function that makes a new slice gives -/
def Makes (w : World) (l : List Int) (e : Ending) (w' : World) : Prop :=
  ∃ a c, e = .returned (.slice a l.length c) ∧ Own w' w.heap.size a c l ∧ Below w.heap.size w w'

/-! ## reading an argument -/
theorem Try.own : ownKnob Try.prog.godebug = none := by kernel_rfl
theorem Try.laidOut : laidOutB Try.prog = true := by kernel_rfl
theorem Try.cellsI32 : Try.prog.cellsOf 21 = 1 := by kernel_rfl
theorem Try.bytesI32 : Try.prog.bytesOf 21 = 4 := by kernel_rfl

theorem wf_i32 {n : Int} (h : (Lit.int .i32 n).wf = true) : -2147483648 ≤ n ∧ n ≤ 2147483647 := by
  have h1 : IntKind.i32.min = -2147483648 := rfl
  have h2 : IntKind.i32.max = 2147483647 := rfl
  simp only [Lit.wf, Bool.and_eq_true, decide_eq_true_eq, h1, h2] at h
  exact h
theorem wf_i64 {n : Int} (h : (Lit.int .i64 n).wf = true) : -9223372036854775808 ≤ n ∧ n ≤ 9223372036854775807 := by
  have h1 : IntKind.i64.min = -9223372036854775808 := rfl
  have h2 : IntKind.i64.max = 9223372036854775807 := rfl
  simp only [Lit.wf, Bool.and_eq_true, decide_eq_true_eq, h1, h2] at h
  exact h

section
variable {H : Type} {enc : TypeId × Value → H}
/-- a []int32 argument: the list that it reads as; its length is paid by the reach or by the bulk -/
theorem open_runes {W : World} {base : Nat} {v : Value} {d : DataW H} {p : List MemPlace} (hv : Value.okWide Try.prog W .any base 23 v)
    (h : DataW.Trod enc Try.prog W 0 (fun _ => true) true 23 v d p) :
    ∃ a l c, v = .slice a l.length c ∧ l.length ≤ c ∧ (d = .nil ∧ c = 0 ∨ ∃ es sp, d = .slice es sp ∧ es.length + sp.length = c) ∧ (l.length ≤ 35184372088832 → Sl W a l) := by
  obtain ⟨a0, len, cap, rfl⟩ := okWide_slice Try.underlying23 hv
  obtain ⟨fuel, hf⟩ := h
  rcases open_ints Try.underlying23 Try.underlying21 Try.cellsI32 hf with ⟨hcs, hx⟩ | ⟨a, len', cap', zs, hcs, _, hl, hm, hz, hx, hcell, hwz⟩
  · simp only [Value.cells, List.cons.injEq, and_true, Value.slice.injEq] at hcs
    obtain ⟨rfl, rfl, rfl⟩ := hcs
    simp only [Prod.mk.injEq] at hx
    exact ⟨none, [], 0, rfl, by simp, .inl ⟨hx.1, rfl⟩, fun _ => Sl.nil _ _⟩
  · simp only [Value.cells, List.cons.injEq, and_true, Value.slice.injEq] at hcs
    obtain ⟨rfl, rfl, rfl⟩ := hcs
    simp only [Prod.mk.injEq] at hx
    simp only [if_true] at hz
    have hlen : (zs.take len).length = len := by rw [List.length_take]; omega
    have hd : ∃ es sp, d = .slice es sp ∧ es.length + sp.length = cap := ⟨_, _, hx.1, by simp [lits]; omega⟩
    refine ⟨some a, zs.take len, cap, by rw [hlen], by omega, .inr hd, fun hle => ?_⟩
    refine ⟨hle, fun x hx => wf_i32 (hwz x (List.mem_of_mem_take hx)), ?_⟩
    by_cases h0 : zs.take len = []
    · exact .inl h0
    · have hpos : 0 < len := by
        rcases Nat.eq_zero_or_pos len with h | h
        · subst h; simp at h0
        · exact h
      have hsp : a.spot = none := by
        have := hcell 0 (by omega)
        obtain ⟨b, o, sp⟩ := a
        cases sp with
        | none => rfl
        | some s =>
          simp only [Addr.add, if_true, World.cell?] at this
          split at this <;> simp_all
      obtain ⟨b, o, sp⟩ := a
      simp only at hsp; subst hsp
      refine .inr ⟨b, o, rfl, fun i hi => ?_⟩
      have h1 := hcell i (by omega)
      rw [gt_get hi]
      have h2 : (⟨b, o, none⟩ : Addr).add i = ⟨b, o + i, none⟩ := by unfold Addr.add; split <;> simp_all
      rw [h2] at h1
      rw [h1]
      simp [List.getD, List.getElem?_eq_getElem (show i < zs.length by omega)]

/-- a slice of runes that was read is within the reach -/
theorem cap_sized {ts : List TypeId} {ds : List (DataW H)} {d : DataW H} {c : Nat} (h : (DataW.weightsEach Try.prog ts ds).all (· ≤ reachBytes) = true) (j : Nat)
    (ht : ts[j]? = some 23) (hd : ds[j]? = some d) (hc : d = .nil ∧ c = 0 ∨ ∃ es sp, d = .slice es sp ∧ es.length + sp.length = c) : c ≤ 35184372087808 := by
  rcases hc with ⟨_, rfl⟩ | ⟨es, sp, rfl, rfl⟩
  · omega
  · have := sized_slice h ht hd Try.underlying23
    rw [Try.bytesI32] at this
    simp only [reachBytes] at this
    omega

/-- the arguments read behind the call as they did -/
theorem args_back {W W' : World} (hb : Below W.heap.size W W') {ts : List TypeId} (hr : ∀ t ∈ ts, Try.prog.readableRec t = true ∧ t < Try.prog.types.size) :
    ∀ {vs : List Value} {ds : List (DataW H)} {ps : List MemPlace},
    DataW.TrodAll enc Try.prog W 0 (fun _ => true) true ts vs ds ps → (∀ x ∈ ps, x.block < W.heap.size) →
    DataW.TrodAll enc Try.prog W' 0 (fun b => decide (b < W.heap.size)) true ts vs ds ps := by
  induction ts with
  | nil =>
    intro vs ds ps h _
    obtain ⟨rfl, rfl, rfl⟩ := trodAll_nil h
    exact rfl
  | cons t ts ih =>
    intro vs ds ps h hlt
    obtain ⟨v0, vs0, d0, ds0, p0, q0, rfl, rfl, rfl, h0, r0⟩ := trodAll_cons h
    exact ⟨p0, q0, Below.trod Try.laidOut (hr t (by simp)).1 (hr t (by simp)).2 h0 hb (fun x hx => hlt x (List.mem_append.2 (.inl hx))), ih (fun t ht => hr t (by simp [ht])) r0 (fun x hx => hlt x (List.mem_append.2 (.inr hx))), rfl⟩

/-- WHAT A LAW's WALK GIVES IS WHAT ITS ROW ASKS: true, new memory alone is written -/
theorem law_post {fn : Func} {s : ChangeSpec} {W W' : World} {args : Array Value} {ds : List (DataW H)} {before : List MemPlace}
    (hW : DataW.Whole enc Try.prog fn.params.toList s.vars false W args.toList ds [] before) (hvars : s.vars = [])
    (hfn : s.fn H (ds ++ []) = { results := [.lit (.bool true)], args := ds }) (hrt : fn.resultTypes = #[4])
    (hr : ∀ t ∈ fn.params.toList, Try.prog.readableRec t = true ∧ t < Try.prog.types.size) (hb : Below W.heap.size W W') :
    s.post enc Try.prog fn false true false false W args (.bool true) W' := by
  have hlt : ∀ x ∈ before, x.block < W.heap.size := fun x hx => by simpa using hW.lt x hx
  have hW2 := hW
  obtain ⟨p, q, hA, hV, rfl, hfz, hnd⟩ := hW2
  rw [hvars] at hV
  obtain ⟨_, rfl⟩ := trodVars_none hV
  refine ⟨ds, [], _, [], p, [], hW, ?_, ?_, ?_, hb.frame _, fun h => by cases h⟩
  · rw [hfn, hrt]; exact trodAll_mk1 (shut_bool Try.underlying4 _)
  · rw [hfn]; exact args_back hb hr hA (fun x hx => hlt x (by simpa using hx))
  · rw [hfn, hvars]; exact rfl
end

/-- the sum's bound of an '..Upto' row -/
theorem upto_bound {H : Type} {ds : List (DataW H)} (h : Rows.uptoSmall H ds = true) : Rows.uptoBulkAll ds ≤ 1048576 := of_decide_eq_true h
theorem bulk_one_le {H : Type} (d : DataW H) : 1 ≤ Rows.uptoBulk d := by
  cases d with
  | lit l => cases l <;> simp [Rows.uptoBulk]
  | nil => simp [Rows.uptoBulk]
  | ptr d => simp [Rows.uptoBulk]
  | slice elems spare => simp [Rows.uptoBulk]
  | agg parts => simp [Rows.uptoBulk]
  | iface t d => simp [Rows.uptoBulk]
  | map entries => simp [Rows.uptoBulk]
  | held h => simp [Rows.uptoBulk]
theorem bulk_length {H : Type} (l : List (DataW H)) : l.length ≤ Rows.uptoBulkAll l := by
  induction l with
  | nil => simp [Rows.uptoBulkAll]
  | cons x r ih => have := bulk_one_le x; simp only [Rows.uptoBulkAll, List.length_cons]; omega
/-- a slice's capacity is within its bulk -/
theorem bulk_cap {H : Type} {d : DataW H} {c : Nat} (h : d = .nil ∧ c = 0 ∨ ∃ es sp, d = .slice es sp ∧ es.length + sp.length = c) : c ≤ Rows.uptoBulk d := by
  rcases h with ⟨rfl, rfl⟩ | ⟨es, sp, rfl, rfl⟩
  · exact Nat.zero_le _
  · have h1 := bulk_length es
    have h2 := bulk_length sp
    simp only [Rows.uptoBulk]; omega

end Go.Proofs.Ytfjcojkmlbaifaa
