/- Slices of any records of one-cell fields: readable, owned; append; parts; one record. Once for all kinds: an Enc says the fields, a Ty the types. -/
import Derived.Test.YthkkpcfmifhllaaCore
namespace Go.Proofs.Ythkkpcfmifhllaa
open Go.RowKit Go.ChangeShapes Go.WideShapes Go.ChangeAt

/-- a record's fields as cells; cap: how many records a slice may hold -/
structure Enc (α : Type) where
  k : Nat
  v : α → List Value
  cap : Nat
  pos : 0 < k
  len : ∀ x, (v x).length = k
  one : ∀ x u, u ∈ v x → u.oneCell' = true
/-- the types of such a slice (t) and of its records (e) -/
structure Ty {α : Type} (P : Program) (E : Enc α) (t e : TypeId) : Prop where
  und : P.underlying t = some (.slice e)
  info : ∃ (z : Value) (bytes : Nat), (P.info? e).map (fun i => (i.zero, i.size, i.bytes)) = some (some z, E.k, bytes) ∧ z.cells.size = E.k ∧ E.cap * bytes ≤ 140737488355328
  elem : P.underlying t = some (.slice (P.elem t))
  size : ∀ w, (sizeOf (P.elem t)).run P w = .ok E.k w
  max : E.cap ≤ 140737488355328
variable {α : Type} [Inhabited α] {E : Enc α}
def rflat (E : Enc α) (l : List α) : List Value := l.flatMap E.v
omit [Inhabited α] in
theorem rflat_len (l : List α) : (rflat E l).length = l.length * E.k := by
  induction l with
  | nil => simp [rflat]
  | cons p l ih => simp only [rflat, List.flatMap_cons, List.length_append, List.length_cons] at ih ⊢; rw [ih, E.len, Nat.succ_mul]; omega
omit [Inhabited α] in
theorem rflat_app (l r : List α) : rflat E (l ++ r) = rflat E l ++ rflat E r := by simp [rflat]
omit [Inhabited α] in
theorem rflat_one (l : List α) (u : Value) (h : u ∈ rflat E l) : u.oneCell' = true := by
  simp only [rflat, List.mem_flatMap] at h
  obtain ⟨p, _, hp⟩ := h
  exact E.one p u hp
omit [Inhabited α] in
theorem rflat_drop (l : List α) (n : Nat) (h : n ≤ l.length) : rflat E (l.drop n) = (rflat E l).drop (n * E.k) := by
  have e : rflat E l = rflat E (l.take n) ++ rflat E (l.drop n) := by rw [← rflat_app, List.take_append_drop]
  have hl : (rflat E (l.take n)).length = n * E.k := by rw [rflat_len, List.length_take, Nat.min_eq_left h]
  rw [e, ← hl, List.drop_left]
omit [Inhabited α] in
theorem rflat_take (l : List α) (n : Nat) (h : n ≤ l.length) : rflat E (l.take n) = (rflat E l).take (n * E.k) := by
  have e : rflat E l = rflat E (l.take n) ++ rflat E (l.drop n) := by rw [← rflat_app, List.take_append_drop]
  have hl : (rflat E (l.take n)).length = n * E.k := by rw [rflat_len, List.length_take, Nat.min_eq_left h]
  rw [e, ← hl, List.take_left]
def rgt (l : List α) (i : Nat) : α := l.getD i default
theorem rgt_get {l : List α} {i : Nat} (h : i < l.length) : rgt l i = l[i] := by simp [rgt, List.getD, List.getElem?_eq_getElem h]
theorem rgt_mem {l : List α} {i : Nat} (h : i < l.length) : rgt l i ∈ l := by rw [rgt_get h]; exact List.getElem_mem h
theorem rgt_take {l : List α} {k : Nat} (h : k < l.length) : l.take (k + 1) = l.take k ++ [rgt l k] := by
  rw [List.take_succ_eq_append_getElem h, rgt_get h]
theorem rgt_drop {l : List α} {k : Nat} (h : k < l.length) : l.drop k = rgt l k :: l.drop (k + 1) := by
  rw [List.drop_eq_getElem_cons h, rgt_get h]
theorem rflat_at (l : List α) {i : Nat} (h : i < l.length) {j : Nat} (hj : j < E.k) : (rflat E l)[i * E.k + j]? = (E.v (rgt l i))[j]? := by
  have e := rflat_drop (E := E) l i (by omega)
  rw [rgt_drop h] at e
  have e2 := congrArg (fun x => x[j]?) e
  simp only [List.getElem?_drop] at e2
  rw [← e2]
  simp only [rflat, List.flatMap_cons]
  rw [List.getElem?_append_left (by rw [E.len]; exact hj)]

/-- one record's cells -/
def Rec1 (E : Enc α) (w : World) (b o : Nat) (x : α) : Prop := ∀ j u, (E.v x)[j]? = some u → w.cell? ⟨b, o + j, none⟩ = some u
/-- a slice of records that reads as a list -/
structure RSl (E : Enc α) (w : World) (a : Option Addr) (l : List α) : Prop where
  len : l.length ≤ E.cap
  cells : l = [] ∨ ∃ b off, a = some ⟨b, off, none⟩ ∧ ∀ n u, (rflat E l)[n]? = some u → w.cell? ⟨b, off + n, none⟩ = some u
theorem RSl.at {w : World} {a : Option Addr} {l : List α} (h : RSl E w a l) {i : Nat} (hi : i < l.length) :
    ∃ b off, a = some ⟨b, off, none⟩ ∧ ∀ i, i < l.length → Rec1 E w b (off + i * E.k) (rgt l i) := by
  rcases h.cells with rfl | ⟨b, off, ha, hc⟩
  · simp at hi
  · refine ⟨b, off, ha, fun i hi j u hu => ?_⟩
    have hj : j < E.k := by
      have := (List.getElem?_eq_some_iff.1 hu).1
      rwa [E.len] at this
    rw [show off + i * E.k + j = off + (i * E.k + j) by omega]
    exact hc _ _ (by rw [rflat_at l hi hj]; exact hu)
omit [Inhabited α] in
theorem RSl.nil (w : World) (a : Option Addr) : RSl E w a [] := ⟨by simp, .inl rfl⟩
omit [Inhabited α] in
/-- the same in a world that has the same block there -/
theorem RSl.same {w w' : World} {a : Option Addr} {l : List α} (h : RSl E w a l) (hb : ∀ ad, a = some ad → ad.block < w.heap.size → w'.heap[ad.block]? = w.heap[ad.block]?) : RSl E w' a l := by
  refine ⟨h.len, ?_⟩
  rcases h.cells with h0 | ⟨b, off, ha, hc⟩
  · exact .inl h0
  · refine .inr ⟨b, off, ha, fun n u hu => ?_⟩
    have c := hc n u hu
    have hlt := World.block_lt_of_cell? w _ c
    have he := hb _ ha hlt
    rw [World.cell?_of_block (w := w) (w' := w') (a := ⟨b, off + n, none⟩) he]; exact c
omit [Inhabited α] in
theorem RSl.bel {w w' : World} {a : Option Addr} {l : List α} (h : RSl E w a l) (hb : Below w.heap.size w w') : RSl E w' a l := h.same fun _ _ hlt => hb.block _ hlt
omit [Inhabited α] in
theorem RSl.alloc {w : World} {a : Option Addr} {l : List α} (h : RSl E w a l) (o : Obj) : RSl E (w.alloc o) a l := h.bel ((Below.refl _ _).alloc (Nat.le_refl _) o)
omit [Inhabited α] in
theorem RSl.drew {w : World} {a : Option Addr} {l : List α} (h : RSl E w a l) : RSl E w.drew a l := ⟨h.len, h.cells⟩
omit [Inhabited α] in
theorem RSl.kpt {w w' : World} {F : Nat → Prop} {a : Option Addr} {l : List α} (h : RSl E w a l) (ho : Off a F) (hk : Kpt F w w') : RSl E w' a l :=
  h.same fun ad ha hlt => hk.block _ hlt (ho ad ha)
omit [Inhabited α] in
/-- one record in a block of its own -/
theorem RSl.lit (w : World) (x : α) (e : TypeId) (b : Nat) (hb : b = w.heap.size) (cs : Array Value) (hcs : cs = (E.v x).toArray) (h1 : 1 ≤ E.cap) : RSl E (w.alloc (.cells cs e)) (some ⟨b, 0, none⟩) [x] := by
  subst hb
  refine ⟨by simpa using h1, .inr ⟨_, _, rfl, fun n u hu => ?_⟩⟩
  rw [Nat.zero_add, cell_alloc_new, hcs]
  simpa [rflat] using hu
/-! ## a slice of records that the call owns -/
def ROwn (E : Enc α) (e : TypeId) (w : World) (base : Nat) (a : Option Addr) (c : Nat) (l : List α) : Prop :=
  w.ownsRow base e E.k (.slice a l.length c) l.length (rflat E l) ∧ l.length ≤ E.cap
variable {e : TypeId}
omit [Inhabited α] in
theorem ROwn.nil (w : World) (base : Nat) : ROwn E e w base none 0 [] := ⟨World.ownsRow_nil _ _ _ _, by simp⟩
omit [Inhabited α] in
theorem ROwn.shape {w : World} {base : Nat} {a : Option Addr} {c : Nat} {l : List α} (h : ROwn E e w base a c l) :
    (a = none ∧ c = 0 ∧ l = []) ∨ ∃ g, a = some ⟨g, 0, none⟩ ∧ base ≤ g ∧ g < w.heap.size ∧ l.length ≤ c := by
  obtain ⟨⟨_, h | ⟨g, cap, cur, hv, hg, hh, hn, _⟩⟩, _⟩ := h
  · simp at h; exact .inl ⟨h.1.1, h.1.2.2, h.2⟩
  · simp only [Value.slice.injEq, true_and] at hv
    refine .inr ⟨g, hv.1, hg, (Array.getElem?_eq_some_iff.1 hh).1, by omega⟩
omit [Inhabited α] in
theorem ROwn.cap {w : World} {base : Nat} {a : Option Addr} {c : Nat} {l : List α} (h : ROwn E e w base a c l) : l.length ≤ c := by
  rcases h.shape with ⟨_, _, h0⟩ | ⟨_, _, _, _, h0⟩
  · simp [h0]
  · exact h0
omit [Inhabited α] in
theorem ROwn.sl {w : World} {base : Nat} {a : Option Addr} {c : Nat} {l : List α} (h : ROwn E e w base a c l) : RSl E w a l := by
  refine ⟨h.2, ?_⟩
  rcases h.shape with ⟨_, _, h0⟩ | ⟨g, rfl, _, _, _⟩
  · exact .inl h0
  · have hc := h.1.cells (g := g) rfl
    have hadd : ∀ j, (⟨g, 0, none⟩ : Addr).add j = ⟨g, j, none⟩ := fun j => by unfold Addr.add; split <;> simp_all
    refine .inr ⟨g, 0, rfl, fun n u hu => ?_⟩
    have k0 := hc n u hu
    rw [hadd] at k0
    rw [Nat.zero_add]; exact k0
omit [Inhabited α] in
theorem ROwn.same {w w' : World} {base : Nat} {a : Option Addr} {c : Nat} {l : List α} (h : ROwn E e w base a c l) (hb : ∀ ad, a = some ad → ad.block < w.heap.size → w'.heap[ad.block]? = w.heap[ad.block]?) : ROwn E e w' base a c l := by
  obtain ⟨⟨h1, h2⟩, h3⟩ := h
  refine ⟨⟨h1, ?_⟩, h3⟩
  rcases h2 with h2 | ⟨g, cap, cur, hv, hg, hh, r⟩
  · exact .inl h2
  · simp only [Value.slice.injEq, true_and] at hv
    refine .inr ⟨g, cap, cur, by simp [hv], hg, ?_, r⟩
    rw [hb _ hv.1 (Array.getElem?_eq_some_iff.1 hh).1]; exact hh
omit [Inhabited α] in
theorem ROwn.grow {w w' : World} {base : Nat} {a : Option Addr} {c : Nat} {l : List α} (h : ROwn E e w base a c l) (hb : Below w.heap.size w w') : ROwn E e w' base a c l := h.same fun _ _ hlt => hb.block _ hlt
omit [Inhabited α] in
theorem ROwn.base_le {w : World} {base base' : Nat} {a : Option Addr} {c : Nat} {l : List α} (h : ROwn E e w base a c l) (hb : base' ≤ base) : ROwn E e w base' a c l := by
  obtain ⟨⟨h1, h2⟩, h3⟩ := h
  refine ⟨⟨h1, ?_⟩, h3⟩
  rcases h2 with h2 | ⟨g, cap, cur, hv, hg, r⟩
  · exact .inl h2
  · exact .inr ⟨g, cap, cur, hv, by omega, r⟩
omit [Inhabited α] in
theorem ROwn.lt {w : World} {base : Nat} {a : Option Addr} {c : Nat} {l : List α} (h : ROwn E e w base a c l) {k : Nat} (hk : Blk a k) : base ≤ k ∧ k < w.heap.size := by
  obtain ⟨ad, rfl, rfl⟩ := hk
  rcases h.shape with ⟨h0, _⟩ | ⟨g, h0, hg, hl, _⟩
  · cases h0
  · simp only [Option.some.injEq] at h0; subst h0; exact ⟨hg, hl⟩

omit [Inhabited α] in
/-- append of readable records to owned ones -/
theorem wp_rapp {P : Program} {t : TypeId} (T : Ty P E t e) {w : World} {o : Oper} {at_ : Act} {K : Act → World → Prop} {Q : Exit → Act → World → Prop} (s x : Operand)
    (ho : o.op = .call { callee := .builtin .append, args := #[s, x], argTypes := #[t, t] })
    (base : Nat) (a a2 : Option Addr) (n n2 c c2 : Nat) (l l2 : List α) (hs : at_.eval s = .slice a n c) (hn : n = l.length) (hown : ROwn E e w base a c l)
    (hx : at_.eval x = .slice a2 n2 c2) (hn2 : n2 = l2.length) (h2 : RSl E w a2 l2) (hb : l.length + l2.length ≤ E.cap) (hbase : base ≤ w.heap.size)
    (h : ∀ a' c' w' L, Hid (L = l ++ l2) → ROwn E e w' base a' c' L → Below base w w' → Kpt (Blk a) w w' → At w a a' →
      K (at_.put o.dst (.slice a' L.length c')) w') : o.wp P at_ w K Q := by
  subst hn; subst hn2
  obtain ⟨z, bytes, hinfo, hz, hby⟩ := T.info
  obtain ⟨i0, hi, hz0, hz1, hz2⟩ := info_parts hinfo
  have hmax := T.max
  cases a2 with
  | none =>
    have h20 : l2 = [] := by
      rcases h2.cells with h0 | ⟨_, _, h0, _⟩
      · exact h0
      · cases h0
    subst h20
    refine wp_app_none s x t ho base e i0 E.k T.und hi _ _ _ _ hs hown.1 hx ?_
    exact h a c w l (by simp [Hid]) hown (Below.refl _ _) (Kpt.refl _ _) (fun ad h => .inl ⟨ad, h, rfl⟩)
  | some ad =>
    refine wp_append_own_at s x t ho base e i0 z E.k bytes T.und hi hz0 hz1 hz2 hz E.pos (.slice a l.length c) l.length (rflat E l) hs hown.1
      ad l2.length c2 (rflat E l2) hx (rflat_len l2) ?_ (rflat_one l2) (by unfold maxLen; omega) (Nat.le_trans (Nat.mul_le_mul_right _ hb) hby) hbase ?_
    · intro j u hu
      rcases h2.cells with h0 | ⟨b, off, he, hc⟩
      · subst h0; simp [rflat] at hu
      · simp only [Option.some.injEq] at he; subst he
        have hadd : (⟨b, off, none⟩ : Addr).add j = ⟨b, off + j, none⟩ := by unfold Addr.add; split <;> simp_all
        rw [hadd]
        exact hc j u hu
    · intro v' w' hown' hgrow hat
      have hr : ∀ k, (Value.slice a l.length c).ownBlock = some k → base ≤ k := fun k hk => (hown.1.lt k hk).1
      have hbel : Below base w w' := (Below.refl _ _).grown hgrow hbase hr
      have hsh : ∃ a' c', v' = .slice a' (l.length + l2.length) c' := by
        rcases hown'.2 with ⟨rfl, h0⟩ | ⟨g, cap, cur, rfl, _⟩
        · exact ⟨none, 0, by rw [h0]⟩
        · exact ⟨_, _, rfl⟩
      obtain ⟨a', c', rfl⟩ := hsh
      have := h a' c' w' _ rfl ⟨by simpa [List.length_append, rflat_app] using hown', by simpa using hb⟩ hbel (Kpt.grown hgrow) (by
        rintro ad rfl
        rcases hat with hat | hat
        · left; cases a with
          | none => simp [Value.ownBlock] at hat
          | some ae => exact ⟨ae, rfl, by simpa [Value.ownBlock] using hat.symm⟩
        · right; simp [Value.ownBlock] at hat; omega)
      simpa [List.length_append] using this
omit [Inhabited α] in
theorem wpL_rapp {P : Program} {t : TypeId} (T : Ty P E t e) {w : World} {ops : Array Oper} {rest : List Oper} {o : Oper} {at_ : Act} {Q : Exit → Act → World → Prop} (hgd : o.guard = none) (s x : Operand)
    (ho : o.op = .call { callee := .builtin .append, args := #[s, x], argTypes := #[t, t] })
    (base : Nat) (a a2 : Option Addr) (n n2 c c2 : Nat) (l l2 : List α) (hs : at_.eval s = .slice a n c) (hn : n = l.length) (hown : ROwn E e w base a c l)
    (hx : at_.eval x = .slice a2 n2 c2) (hn2 : n2 = l2.length) (h2 : RSl E w a2 l2) (hb : l.length + l2.length ≤ E.cap) (hbase : base ≤ w.heap.size)
    (h : ∀ a' c' w' L, Hid (L = l ++ l2) → ROwn E e w' base a' c' L → Below base w w' → Kpt (Blk a) w w' → At w a a' →
      wpList P ops Q rest (at_.put o.dst (.slice a' L.length c')) w') : wpList P ops Q (o :: rest) at_ w :=
  wpList_plain hgd fun _ hK => wp_rapp T s x ho base a a2 n n2 c c2 l l2 hs hn hown hx hn2 h2 hb hbase fun a' c' w' L h1 h2 h3 h4 h5 => hK _ _ (h a' c' w' L h1 h2 h3 h4 h5)
omit [Inhabited α] in
theorem step_rapp {P : Program} {t : TypeId} (T : Ty P E t e) {w : World} {ops : Array Oper} {o : Oper} {at_ : Act} {K : Act → World → Prop} {Q : Exit → Act → World → Prop} {F : Prop} (hgd : o.guard = none) (s x : Operand)
    (ho : o.op = .call { callee := .builtin .append, args := #[s, x], argTypes := #[t, t] })
    (base : Nat) (a a2 : Option Addr) (n n2 c c2 : Nat) (l l2 : List α) (hs : at_.eval s = .slice a n c) (hn : n = l.length) (hown : ROwn E e w base a c l)
    (hx : at_.eval x = .slice a2 n2 c2) (hn2 : n2 = l2.length) (h2 : RSl E w a2 l2) (hb : l.length + l2.length ≤ E.cap) (hbase : base ≤ w.heap.size)
    (h : ∀ a' c' w' L, Hid (L = l ++ l2) → ROwn E e w' base a' c' L → Below base w w' → Kpt (Blk a) w w' → At w a a' →
      K (at_.put o.dst (.slice a' L.length c')) w') : if Region.wanted o (yielded ops at_.tmps) = true then Oper.wp P o at_ w K Q else F :=
  step_of hgd (wp_rapp T s x ho base a a2 n n2 c c2 l l2 hs hn hown hx hn2 h2 hb hbase h)

/-! ### parts of a slice -/
omit [Inhabited α] in
theorem RSl.cut {w : World} {a : Option Addr} {l : List α} (h : RSl E w a l) (n m c : Nat) (hnm : n ≤ m) (hml : m ≤ l.length) (hlc : l.length ≤ c) :
    RSl E w (if c = n then a else a.map (·.add (n * E.k))) ((l.take m).drop n) := by
  have hl := h.len
  by_cases h0 : (l.take m).drop n = []
  · rw [h0]; exact RSl.nil _ _
  · have hlt : n < m := by
      rcases Nat.lt_or_ge n m with h1 | h1
      · exact h1
      · exact absurd (by simp; omega) h0
    rw [if_neg (by omega)]
    rcases h.cells with rfl | ⟨b, o, rfl, hc⟩
    · simp at h0
    · have h2 : (some (⟨b, o, none⟩ : Addr)).map (·.add (n * E.k)) = some ⟨b, o + n * E.k, none⟩ := by
        simp only [Option.map_some]; unfold Addr.add; split <;> simp_all
      rw [h2]
      refine ⟨by simp; omega, .inr ⟨_, _, rfl, fun i u hu => ?_⟩⟩
      rw [rflat_drop _ _ (by simp; omega), rflat_take _ _ hml, List.getElem?_drop] at hu
      have h3 := List.getElem?_take_of_lt (l := rflat E l) (j := m * E.k) (i := n * E.k + i) (by
        have := (List.getElem?_eq_some_iff.1 hu).1
        simp only [List.length_take] at this
        omega)
      rw [h3] at hu
      rw [show o + n * E.k + i = o + (n * E.k + i) by omega]
      exact hc _ _ hu
omit [Inhabited α] in
theorem rslice_from {P : Program} {t : TypeId} (T : Ty P E t e) {w : World} {a : Option Addr} {l : List α} (h : RSl E w a l) (n c : Nat) (hn : n ≤ l.length) (hlc : l.length ≤ c) :
    ∃ a' c' D, Hid (D = l.drop n) ∧ RSl E w a' D ∧ D.length ≤ c' ∧ ∀ w', (Instr.slice t (.slice a l.length c) (some (.int .i64 n)) none none).run P w' = .ok (.slice a' D.length c') w' := by
  have h1 := h.cut n l.length c hn (Nat.le_refl _) hlc
  rw [List.take_length] at h1
  refine ⟨_, c - n, _, rfl, h1, by simp; omega, fun w' => ?_⟩
  rw [run_slice_l _ _ _ _ _ T.elem .i64 n (by omega) (by have := h.len; have := T.max; omega)]
  simp [T.size, Result.andThen, sliced]
omit [Inhabited α] in
theorem rslice_to {P : Program} {t : TypeId} (T : Ty P E t e) {w : World} {a : Option Addr} {l : List α} (h : RSl E w a l) (m c : Nat) (hm : m ≤ l.length) (hlc : l.length ≤ c) :
    ∃ a' c' D, Hid (D = l.take m) ∧ RSl E w a' D ∧ D.length ≤ c' ∧ ∀ w', (Instr.slice t (.slice a l.length c) none (some (.int .i64 m)) none).run P w' = .ok (.slice a' D.length c') w' := by
  have h1 := h.cut 0 m c (by omega) hm hlc
  rw [List.drop_zero] at h1
  refine ⟨_, c, _, rfl, h1, by simp; omega, fun w' => ?_⟩
  rw [run_slice_h _ _ _ _ _ T.elem .i64 m (by omega) (by have := h.len; have := T.max; omega)]
  simp [T.size, Result.andThen, sliced, Nat.min_eq_left hm]
end Go.Proofs.Ythkkpcfmifhllaa
