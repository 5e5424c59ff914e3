/- Slices of marks: readable, owned; what append does to them; the parts of one. -/
import Derived.Test.YtaondjklclpdkaaTrpM
import Derived.Test.YtaondjklclpdkaaInts
namespace Go.Proofs.Ytaondjklclpdkaa
open Go.RowKit Go.ChangeShapes Go.WideShapes Go.ChangeAt

instance : Inhabited Mk := ⟨⟨0, 0, 0, 0⟩⟩
def mkv (m : Mk) : List Value := [.int .i64 m.id, .int .i64 m.fr, .int .i64 m.to, .int .i64 m.pr]
def mflat (l : List Mk) : List Value := l.flatMap mkv
def mgt (l : List Mk) (i : Nat) : Mk := l.getD i default
theorem mgt_get {l : List Mk} {i : Nat} (h : i < l.length) : mgt l i = l[i] := by simp [mgt, List.getD, List.getElem?_eq_getElem h]
theorem mgt_mem {l : List Mk} {i : Nat} (h : i < l.length) : mgt l i ∈ l := by rw [mgt_get h]; exact List.getElem_mem h
theorem mgt_take {l : List Mk} {k : Nat} (h : k < l.length) : l.take (k + 1) = l.take k ++ [mgt l k] := by
  rw [List.take_succ_eq_append_getElem h, mgt_get h]
theorem mgt_drop {l : List Mk} {k : Nat} (h : k < l.length) : l.drop k = mgt l k :: l.drop (k + 1) := by
  rw [List.drop_eq_getElem_cons h, mgt_get h]
theorem mflat_len (l : List Mk) : (mflat l).length = l.length * 4 := by
  induction l with
  | nil => rfl
  | cons p l ih => simp only [mflat, List.flatMap_cons, List.length_append] at ih ⊢; rw [ih]; simp [mkv]; omega
theorem mflat_app (l r : List Mk) : mflat (l ++ r) = mflat l ++ mflat r := by simp [mflat]
theorem mflat_at (l : List Mk) {i : Nat} (h : i < l.length) {j : Nat} (hj : j < 4) : (mflat l)[i * 4 + j]? = (mkv (mgt l i))[j]? := by
  induction l generalizing i with
  | nil => simp at h
  | cons p l ih =>
    cases i with
    | zero =>
      simp only [mflat, List.flatMap_cons, Nat.zero_mul, Nat.zero_add]
      rw [List.getElem?_append_left (by simp [mkv]; omega)]; rfl
    | succ i =>
      have hi : i < l.length := by simpa using h
      have := ih hi
      simp only [mflat, List.flatMap_cons] at this ⊢
      rw [List.getElem?_append_right (by simp [mkv]; omega)]
      rw [show (i + 1) * 4 + j - (mkv p).length = i * 4 + j by simp [mkv]; omega, this]
      simp [mgt]
theorem mflat_one (l : List Mk) (u : Value) (h : u ∈ mflat l) : u.oneCell' = true := by
  simp only [mflat, List.mem_flatMap] at h
  obtain ⟨p, _, hp⟩ := h
  simp [mkv] at hp
  rcases hp with rfl | rfl | rfl | rfl <;> rfl

/-- the four cells of a mark -/
def M4 (w : World) (b o : Nat) (m : Mk) : Prop :=
  w.cell? ⟨b, o, none⟩ = some (.int .i64 m.id) ∧ w.cell? ⟨b, o + 1, none⟩ = some (.int .i64 m.fr) ∧ w.cell? ⟨b, o + 2, none⟩ = some (.int .i64 m.to) ∧ w.cell? ⟨b, o + 3, none⟩ = some (.int .i64 m.pr)
/-! ## a slice of marks that reads as a list -/
structure MSl (w : World) (a : Option Addr) (l : List Mk) : Prop where
  len : l.length ≤ 4398046511104
  cells : l = [] ∨ ∃ b off, a = some ⟨b, off, none⟩ ∧ ∀ i, i < l.length → M4 w b (off + i * 4) (mgt l i)
theorem MSl.at {w : World} {a : Option Addr} {l : List Mk} (h : MSl w a l) {i : Nat} (hi : i < l.length) :
    ∃ b off, a = some ⟨b, off, none⟩ ∧ ∀ i, i < l.length → M4 w b (off + i * 4) (mgt l i) := by
  rcases h.cells with rfl | h
  · simp at hi
  · exact h
theorem MSl.nil (w : World) (a : Option Addr) : MSl w a [] := ⟨by simp, .inl rfl⟩
/-- the same in a world that has the same block there -/
theorem MSl.same {w w' : World} {a : Option Addr} {l : List Mk} (h : MSl w a l) (hb : ∀ ad, a = some ad → ad.block < w.heap.size → w'.heap[ad.block]? = w.heap[ad.block]?) : MSl w' a l := by
  refine ⟨h.len, ?_⟩
  rcases h.cells with h0 | ⟨b, off, ha, hc⟩
  · exact .inl h0
  · refine .inr ⟨b, off, ha, fun i hi => ?_⟩
    obtain ⟨c0, c1, c2, c3⟩ := hc i hi
    have hlt := World.block_lt_of_cell? w _ c0
    have he := hb _ ha hlt
    refine ⟨?_, ?_, ?_, ?_⟩
    · rw [World.cell?_of_block (w := w) (w' := w') (a := ⟨b, off + i * 4, none⟩) he]; exact c0
    · rw [World.cell?_of_block (w := w) (w' := w') (a := ⟨b, off + i * 4 + 1, none⟩) he]; exact c1
    · rw [World.cell?_of_block (w := w) (w' := w') (a := ⟨b, off + i * 4 + 2, none⟩) he]; exact c2
    · rw [World.cell?_of_block (w := w) (w' := w') (a := ⟨b, off + i * 4 + 3, none⟩) he]; exact c3
theorem MSl.bel {w w' : World} {a : Option Addr} {l : List Mk} (h : MSl w a l) (hb : Below w.heap.size w w') : MSl w' a l := h.same fun _ _ hlt => hb.block _ hlt
theorem MSl.alloc {w : World} {a : Option Addr} {l : List Mk} (h : MSl w a l) (o : Obj) : MSl (w.alloc o) a l := h.bel ((Below.refl _ _).alloc (Nat.le_refl _) o)
theorem MSl.drew {w : World} {a : Option Addr} {l : List Mk} (h : MSl w a l) : MSl w.drew a l := ⟨h.len, h.cells⟩
theorem MSl.kpt {w w' : World} {F : Nat → Prop} {a : Option Addr} {l : List Mk} (h : MSl w a l) (ho : Off a F) (hk : Kpt F w w') : MSl w' a l :=
  h.same fun ad ha hlt => hk.block _ hlt (ho ad ha)
/-- one change in a block of its own -/
theorem MSl.lit (w : World) (m : Mk) (e : TypeId) (b : Nat) (hb : b = w.heap.size) (cs : Array Value) (hcs : cs = (mkv m).toArray) : MSl (w.alloc (.cells cs e)) (some ⟨b, 0, none⟩) [m] := by
  subst hb
  refine ⟨by simp, .inr ⟨_, _, rfl, fun i hi => ?_⟩⟩
  obtain rfl : i = 0 := by simpa using hi
  refine ⟨?_, ?_, ?_, ?_⟩ <;> (rw [cell_alloc_new, hcs]; simp [mkv, mgt])
/-! ### what the slices inside read as -/
def ir (x : Int) : Prop := -9223372036854775808 ≤ x ∧ x ≤ 9223372036854775807
structure MkOk (w : World) (m : Mk) : Prop where
  id : ir m.id
  fr : ir m.fr
  to : ir m.to
  pr : ir m.pr
theorem MkOk.bel {w w' : World} {m : Mk} (h : MkOk w m) (_hb : Below w.heap.size w w') : MkOk w' m := ⟨h.id, h.fr, h.to, h.pr⟩
def Mks (w : World) (l : List Mk) : Prop := ∀ m, m ∈ l → MkOk w m
theorem Mks.bel {w w' : World} {l : List Mk} (h : Mks w l) (hb : Below w.heap.size w w') : Mks w' l := fun m hm => (h m hm).bel hb
theorem Mks.nil (w : World) : Mks w [] := fun m hm => by cases hm
theorem Mks.take {w : World} {l : List Mk} (h : Mks w l) (n : Nat) : Mks w (l.take n) := fun m hm => h m (List.mem_of_mem_take hm)
theorem Mks.drop {w : World} {l : List Mk} (h : Mks w l) (n : Nat) : Mks w (l.drop n) := fun m hm => h m (List.mem_of_mem_drop hm)
theorem Mks.snoc {w : World} {l : List Mk} {m : Mk} (h : Mks w l) (hm : MkOk w m) : Mks w (l ++ [m]) := fun x hx => by
  rcases List.mem_append.1 hx with hx | hx
  · exact h x hx
  · simp at hx; subst hx; exact hm
theorem Mks.app {w : World} {l r : List Mk} (h : Mks w l) (hr : Mks w r) : Mks w (l ++ r) := fun x hx => by
  rcases List.mem_append.1 hx with hx | hx
  · exact h x hx
  · exact hr x hx
/-! ## a slice of marks that the call owns -/
def MOwn (w : World) (base : Nat) (a : Option Addr) (c : Nat) (l : List Mk) : Prop :=
  w.ownsRow base 33 4 (.slice a l.length c) l.length (mflat l) ∧ l.length ≤ 4398046511104
theorem MOwn.nil (w : World) (base : Nat) : MOwn w base none 0 [] := ⟨World.ownsRow_nil _ _ _ _, by simp⟩
theorem MOwn.shape {w : World} {base : Nat} {a : Option Addr} {c : Nat} {l : List Mk} (h : MOwn w base a c l) :
    (a = none ∧ c = 0 ∧ l = []) ∨ ∃ g, a = some ⟨g, 0, none⟩ ∧ base ≤ g ∧ g < w.heap.size ∧ l.length ≤ c := by
  obtain ⟨⟨_, h | ⟨g, cap, cur, hv, hg, hh, hn, _⟩⟩, _⟩ := h
  · simp at h; exact .inl ⟨h.1.1, h.1.2.2, h.2⟩
  · simp only [Value.slice.injEq, true_and] at hv
    refine .inr ⟨g, hv.1, hg, (Array.getElem?_eq_some_iff.1 hh).1, by omega⟩
theorem MOwn.cap {w : World} {base : Nat} {a : Option Addr} {c : Nat} {l : List Mk} (h : MOwn w base a c l) : l.length ≤ c := by
  rcases h.shape with ⟨_, _, h0⟩ | ⟨_, _, _, _, h0⟩
  · simp [h0]
  · exact h0
theorem MOwn.sl {w : World} {base : Nat} {a : Option Addr} {c : Nat} {l : List Mk} (h : MOwn w base a c l) : MSl w a l := by
  refine ⟨h.2, ?_⟩
  rcases h.shape with ⟨_, _, h0⟩ | ⟨g, rfl, _, _, _⟩
  · exact .inl h0
  · have hc := h.1.cells (g := g) rfl
    have hadd : ∀ j, (⟨g, 0, none⟩ : Addr).add j = ⟨g, j, none⟩ := fun j => by unfold Addr.add; split <;> simp_all
    refine .inr ⟨g, 0, rfl, fun i hi => ?_⟩
    have k0 := hc (i * 4 + 0) _ (by rw [mflat_at l hi (by omega)]; rfl)
    have k1 := hc (i * 4 + 1) _ (by rw [mflat_at l hi (by omega)]; rfl)
    have k2 := hc (i * 4 + 2) _ (by rw [mflat_at l hi (by omega)]; rfl)
    have k3 := hc (i * 4 + 3) _ (by rw [mflat_at l hi (by omega)]; rfl)
    rw [hadd] at k0 k1 k2 k3
    simp only [Nat.zero_add, Nat.add_zero] at k0 k1 k2 k3 ⊢
    exact ⟨k0, by simpa [Nat.add_assoc] using k1, by simpa [Nat.add_assoc] using k2, by simpa [Nat.add_assoc] using k3⟩
theorem MOwn.same {w w' : World} {base : Nat} {a : Option Addr} {c : Nat} {l : List Mk} (h : MOwn w base a c l) (hb : ∀ ad, a = some ad → ad.block < w.heap.size → w'.heap[ad.block]? = w.heap[ad.block]?) : MOwn w' base a c l := by
  obtain ⟨⟨h1, h2⟩, h3⟩ := h
  refine ⟨⟨h1, ?_⟩, h3⟩
  rcases h2 with h2 | ⟨g, cap, cur, hv, hg, hh, r⟩
  · exact .inl h2
  · simp only [Value.slice.injEq, true_and] at hv
    refine .inr ⟨g, cap, cur, by simp [hv], hg, ?_, r⟩
    rw [hb _ hv.1 (Array.getElem?_eq_some_iff.1 hh).1]; exact hh
theorem MOwn.grow {w w' : World} {base : Nat} {a : Option Addr} {c : Nat} {l : List Mk} (h : MOwn w base a c l) (hb : Below w.heap.size w w') : MOwn w' base a c l := h.same fun _ _ hlt => hb.block _ hlt
theorem MOwn.base_le {w : World} {base base' : Nat} {a : Option Addr} {c : Nat} {l : List Mk} (h : MOwn w base a c l) (hb : base' ≤ base) : MOwn w base' a c l := by
  obtain ⟨⟨h1, h2⟩, h3⟩ := h
  refine ⟨⟨h1, ?_⟩, h3⟩
  rcases h2 with h2 | ⟨g, cap, cur, hv, hg, r⟩
  · exact .inl h2
  · exact .inr ⟨g, cap, cur, hv, by omega, r⟩
theorem MOwn.lt {w : World} {base : Nat} {a : Option Addr} {c : Nat} {l : List Mk} (h : MOwn w base a c l) {k : Nat} (hk : Blk a k) : base ≤ k ∧ k < w.heap.size := by
  obtain ⟨ad, rfl, rfl⟩ := hk
  rcases h.shape with ⟨h0, _⟩ | ⟨g, h0, hg, hl, _⟩
  · cases h0
  · simp only [Option.some.injEq] at h0; subst h0; exact ⟨hg, hl⟩

theorem Try.infoMk : (Try.prog.info? 33).map (fun i => (i.zero, i.size, i.bytes)) = some (some (.agg #[.int .i64 0, .int .i64 0, .int .i64 0, .int .i64 0]), 4, 32) := by kernel_rfl

/-- append of readable marks to owned ones -/
theorem wp_mapp {w : World} {o : Oper} {at_ : Act} {K : Act → World → Prop} {Q : Exit → Act → World → Prop} (s x : Operand)
    (ho : o.op = .call { callee := .builtin .append, args := #[s, x], argTypes := #[27, 27] })
    (base : Nat) (a a2 : Option Addr) (n n2 c c2 : Nat) (l l2 : List Mk) (hs : at_.eval s = .slice a n c) (hn : n = l.length) (hown : MOwn w base a c l)
    (hx : at_.eval x = .slice a2 n2 c2) (hn2 : n2 = l2.length) (h2 : MSl w a2 l2) (hb : l.length + l2.length ≤ 4398046511104) (hbase : base ≤ w.heap.size)
    (h : ∀ a' c' w' L, Hid (L = l ++ l2) → MOwn w' base a' c' L → Below base w w' → Kpt (Blk a) w w' → At w a a' →
      K (at_.put o.dst (.slice a' L.length c')) w') : o.wp Try.prog at_ w K Q := by
  subst hn; subst hn2
  obtain ⟨i0, hi, hz0, hz1, hz2⟩ := info_parts Try.infoMk
  cases a2 with
  | none =>
    have h20 : l2 = [] := by
      rcases h2.cells with h0 | ⟨_, _, h0, _⟩
      · exact h0
      · cases h0
    subst h20
    refine wp_app_none s x 27 ho base 33 i0 4 Try.underlying27 hi _ _ _ _ hs hown.1 hx ?_
    exact h a c w l (by simp [Hid]) hown (Below.refl _ _) (Kpt.refl _ _) (fun ad h => .inl ⟨ad, h, rfl⟩)
  | some ad =>
    refine wp_append_own_at s x 27 ho base 33 i0 (.agg #[.int .i64 0, .int .i64 0, .int .i64 0, .int .i64 0]) 4 32 Try.underlying27 hi hz0 hz1 hz2 rfl (by decide) (.slice a l.length c) l.length (mflat l) hs hown.1
      ad l2.length c2 (mflat l2) hx (mflat_len l2) ?_ (mflat_one l2) (by unfold maxLen; omega) (by omega) hbase ?_
    · intro j u hu
      have hj : j < l2.length * 4 := by
        have := (List.getElem?_eq_some_iff.1 hu).1
        rwa [mflat_len] at this
      obtain ⟨b, off, he, hc⟩ := h2.at (i := j / 4) (by omega)
      simp only [Option.some.injEq] at he; subst he
      have hji : j / 4 < l2.length := by omega
      obtain ⟨c0, c1, c2', c3'⟩ := hc _ hji
      have e := mflat_at l2 hji (j := j % 4) (by omega)
      rw [show j / 4 * 4 + j % 4 = j by omega, hu] at e
      have hadd : (⟨b, off, none⟩ : Addr).add j = ⟨b, off + j, none⟩ := by unfold Addr.add; split <;> simp_all
      rw [hadd]
      rcases (show j % 4 = 0 ∨ j % 4 = 1 ∨ j % 4 = 2 ∨ j % 4 = 3 by omega) with h0 | h0 | h0 | h0
      · rw [h0] at e; simp [mkv] at e; rw [show off + j = off + j / 4 * 4 by omega, c0, e]
      · rw [h0] at e; simp [mkv] at e; rw [show off + j = off + j / 4 * 4 + 1 by omega, c1, e]
      · rw [h0] at e; simp [mkv] at e; rw [show off + j = off + j / 4 * 4 + 2 by omega, c2', e]
      · rw [h0] at e; simp [mkv] at e; rw [show off + j = off + j / 4 * 4 + 3 by omega, c3', e]
    · intro v' w' hown' hgrow hat
      have hr : ∀ k, (Value.slice a l.length c).ownBlock = some k → base ≤ k := fun k hk => (hown.1.lt k hk).1
      have hbel : Below base w w' := (Below.refl _ _).grown hgrow hbase hr
      have hsh : ∃ a' c', v' = .slice a' (l.length + l2.length) c' := by
        rcases hown'.2 with ⟨rfl, h0⟩ | ⟨g, cap, cur, rfl, _⟩
        · exact ⟨none, 0, by rw [h0]⟩
        · exact ⟨_, _, rfl⟩
      obtain ⟨a', c', rfl⟩ := hsh
      have := h a' c' w' _ rfl ⟨by simpa [List.length_append, mflat_app] using hown', by simpa using hb⟩ hbel (Kpt.grown hgrow) (by
        rintro ad rfl
        rcases hat with hat | hat
        · left; cases a with
          | none => simp [Value.ownBlock] at hat
          | some ae => exact ⟨ae, rfl, by simpa [Value.ownBlock] using hat.symm⟩
        · right; simp [Value.ownBlock] at hat; omega)
      simpa [List.length_append] using this
theorem wpL_mapp {w : World} {ops : Array Oper} {rest : List Oper} {o : Oper} {at_ : Act} {Q : Exit → Act → World → Prop} (hgd : o.guard = none) (s x : Operand)
    (ho : o.op = .call { callee := .builtin .append, args := #[s, x], argTypes := #[27, 27] })
    (base : Nat) (a a2 : Option Addr) (n n2 c c2 : Nat) (l l2 : List Mk) (hs : at_.eval s = .slice a n c) (hn : n = l.length) (hown : MOwn w base a c l)
    (hx : at_.eval x = .slice a2 n2 c2) (hn2 : n2 = l2.length) (h2 : MSl w a2 l2) (hb : l.length + l2.length ≤ 4398046511104) (hbase : base ≤ w.heap.size)
    (h : ∀ a' c' w' L, Hid (L = l ++ l2) → MOwn w' base a' c' L → Below base w w' → Kpt (Blk a) w w' → At w a a' →
      wpList Try.prog ops Q rest (at_.put o.dst (.slice a' L.length c')) w') : wpList Try.prog ops Q (o :: rest) at_ w :=
  wpList_plain hgd fun _ hK => wp_mapp s x ho base a a2 n n2 c c2 l l2 hs hn hown hx hn2 h2 hb hbase fun a' c' w' L h1 h2 h3 h4 h5 => hK _ _ (h a' c' w' L h1 h2 h3 h4 h5)
theorem step_mapp {w : World} {ops : Array Oper} {o : Oper} {at_ : Act} {K : Act → World → Prop} {Q : Exit → Act → World → Prop} {E : Prop} (hgd : o.guard = none) (s x : Operand)
    (ho : o.op = .call { callee := .builtin .append, args := #[s, x], argTypes := #[27, 27] })
    (base : Nat) (a a2 : Option Addr) (n n2 c c2 : Nat) (l l2 : List Mk) (hs : at_.eval s = .slice a n c) (hn : n = l.length) (hown : MOwn w base a c l)
    (hx : at_.eval x = .slice a2 n2 c2) (hn2 : n2 = l2.length) (h2 : MSl w a2 l2) (hb : l.length + l2.length ≤ 4398046511104) (hbase : base ≤ w.heap.size)
    (h : ∀ a' c' w' L, Hid (L = l ++ l2) → MOwn w' base a' c' L → Below base w w' → Kpt (Blk a) w w' → At w a a' →
      K (at_.put o.dst (.slice a' L.length c')) w') : if Region.wanted o (yielded ops at_.tmps) = true then Oper.wp Try.prog o at_ w K Q else E :=
  step_of hgd (wp_mapp s x ho base a a2 n n2 c c2 l l2 hs hn hown hx hn2 h2 hb hbase h)

/-! ### parts of a slice of marks -/
theorem Try.elemMk : Try.prog.underlying 27 = some (.slice (Try.prog.elem 27)) := by kernel_rfl
theorem Try.sizeMk (w : World) : (sizeOf (Try.prog.elem 27)).run Try.prog w = .ok 4 w := by kernel_rfl
theorem mgt_mid (l : List Mk) (i n k : Nat) (h : i + k < n) : mgt ((l.take n).drop i) k = mgt l (i + k) := by
  simp [mgt, List.getD, List.getElem?_drop, h]
theorem MSl.cut {w : World} {a : Option Addr} {l : List Mk} (h : MSl w a l) (n m c : Nat) (hnm : n ≤ m) (hml : m ≤ l.length) (hlc : l.length ≤ c) :
    MSl w (if c = n then a else a.map (·.add (n * 4))) ((l.take m).drop n) := by
  have hl := h.len
  by_cases h0 : (l.take m).drop n = []
  · rw [h0]; exact MSl.nil _ _
  · have hlt : n < m := by
      rcases Nat.lt_or_ge n m with h1 | h1
      · exact h1
      · exact absurd (by simp; omega) h0
    rw [if_neg (by omega)]
    obtain ⟨b, o, rfl, hc⟩ := h.at (i := 0) (by omega)
    have h2 : (some (⟨b, o, none⟩ : Addr)).map (·.add (n * 4)) = some ⟨b, o + n * 4, none⟩ := by
      simp only [Option.map_some]; unfold Addr.add; split <;> simp_all
    rw [h2]
    refine ⟨by simp; omega, .inr ⟨_, _, rfl, fun i hi => ?_⟩⟩
    simp only [List.length_drop, List.length_take] at hi
    rw [mgt_mid l n m i (by omega), show o + n * 4 + i * 4 = o + (n + i) * 4 by omega]
    exact hc (n + i) (by omega)
theorem mslice_from {w : World} {a : Option Addr} {l : List Mk} (h : MSl w a l) (n c : Nat) (hn : n ≤ l.length) (hlc : l.length ≤ c) :
    ∃ a' c' D, Hid (D = l.drop n) ∧ MSl w a' D ∧ D.length ≤ c' ∧ ∀ w', (Instr.slice 27 (.slice a l.length c) (some (.int .i64 n)) none none).run Try.prog w' = .ok (.slice a' D.length c') w' := by
  have h1 := h.cut n l.length c hn (Nat.le_refl _) hlc
  rw [List.take_length] at h1
  refine ⟨_, c - n, _, rfl, h1, by simp; omega, fun w' => ?_⟩
  rw [run_slice_l _ _ _ _ _ Try.elemMk .i64 n (by omega) (by omega)]
  simp [Try.sizeMk, Result.andThen, sliced]
theorem mslice_to {w : World} {a : Option Addr} {l : List Mk} (h : MSl w a l) (m c : Nat) (hm : m ≤ l.length) (hlc : l.length ≤ c) :
    ∃ a' c' D, Hid (D = l.take m) ∧ MSl w a' D ∧ D.length ≤ c' ∧ ∀ w', (Instr.slice 27 (.slice a l.length c) none (some (.int .i64 m)) none).run Try.prog w' = .ok (.slice a' D.length c') w' := by
  have h1 := h.cut 0 m c (by omega) hm hlc
  rw [List.drop_zero] at h1
  refine ⟨_, c, _, rfl, h1, by simp; omega, fun w' => ?_⟩
  rw [run_slice_h _ _ _ _ _ Try.elemMk .i64 m (by omega) (by omega)]
  simp [Try.sizeMk, Result.andThen, sliced, Nat.min_eq_left hm]
end Go.Proofs.Ytaondjklclpdkaa
