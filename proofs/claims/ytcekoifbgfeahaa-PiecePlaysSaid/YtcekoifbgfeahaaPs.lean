/- Slices of pieces: readable, owned; what append does to them. Tables in memory. -/
import Derived.Test.YtcekoifbgfeahaaPieceM
namespace Go.Proofs.Ytcekoifbgfeahaa
open Go.RowKit Go.ChangeShapes Go.WideShapes Go.ChangeAt

def pcv (p : Pc) : List Value := [.bool p.add, .int .i64 (p.fr : Int), .int .i64 (p.n : Int)]
def flat (l : List Pc) : List Value := l.flatMap pcv
def pg (l : List Pc) (i : Nat) : Pc := l.getD i ⟨false, 0, 0⟩
theorem pg_get {l : List Pc} {i : Nat} (h : i < l.length) : pg l i = l[i] := by simp [pg, List.getD, List.getElem?_eq_getElem h]
theorem pg_mem {l : List Pc} {i : Nat} (h : i < l.length) : pg l i ∈ l := by rw [pg_get h]; exact List.getElem_mem h
theorem pg_take {l : List Pc} {k : Nat} (h : k < l.length) : l.take (k + 1) = l.take k ++ [pg l k] := by
  rw [List.take_succ_eq_append_getElem h, pg_get h]
theorem flat_len (l : List Pc) : (flat l).length = l.length * 3 := by
  induction l with
  | nil => rfl
  | cons p l ih => simp only [flat, List.flatMap_cons, List.length_append] at ih ⊢; rw [ih]; simp [pcv]; omega
theorem flat_app (l r : List Pc) : flat (l ++ r) = flat l ++ flat r := by simp [flat]
theorem flat_at (l : List Pc) {i : Nat} (h : i < l.length) {j : Nat} (hj : j < 3) : (flat l)[i * 3 + j]? = (pcv (pg l i))[j]? := by
  induction l generalizing i with
  | nil => simp at h
  | cons p l ih =>
    cases i with
    | zero =>
      simp only [flat, List.flatMap_cons, Nat.zero_mul, Nat.zero_add]
      rw [List.getElem?_append_left (by simp [pcv]; omega)]; rfl
    | succ i =>
      have hi : i < l.length := by simpa using h
      have := ih hi
      simp only [flat, List.flatMap_cons] at this ⊢
      rw [List.getElem?_append_right (by simp [pcv]; omega)]
      rw [show (i + 1) * 3 + j - (pcv p).length = i * 3 + j by simp [pcv]; omega, this]
      simp [pg]
theorem flat_one (l : List Pc) (u : Value) (h : u ∈ flat l) : u.oneCell' = true := by
  simp only [flat, List.mem_flatMap] at h
  obtain ⟨p, _, hp⟩ := h
  simp [pcv] at hp
  rcases hp with rfl | rfl | rfl <;> rfl

/-! ## a slice of pieces that reads as a list -/
structure PSl (w : World) (a : Option Addr) (l : List Pc) : Prop where
  len : l.length ≤ 1000000
  cells : l = [] ∨ ∃ b off, a = some ⟨b, off, none⟩ ∧ ∀ i, i < l.length → w.cell? ⟨b, off + i * 3, none⟩ = some (.bool (pg l i).add) ∧ w.cell? ⟨b, off + i * 3 + 1, none⟩ = some (.int .i64 (pg l i).fr) ∧ w.cell? ⟨b, off + i * 3 + 2, none⟩ = some (.int .i64 (pg l i).n)
theorem PSl.at {w : World} {a : Option Addr} {l : List Pc} (h : PSl w a l) {i : Nat} (hi : i < l.length) :
    ∃ b off, a = some ⟨b, off, none⟩ ∧ ∀ i, i < l.length → w.cell? ⟨b, off + i * 3, none⟩ = some (.bool (pg l i).add) ∧ w.cell? ⟨b, off + i * 3 + 1, none⟩ = some (.int .i64 (pg l i).fr) ∧ w.cell? ⟨b, off + i * 3 + 2, none⟩ = some (.int .i64 (pg l i).n) := by
  rcases h.cells with rfl | h
  · simp at hi
  · exact h
theorem PSl.nil (w : World) (a : Option Addr) : PSl w a [] := ⟨by simp, .inl rfl⟩
/-- the same in a world that has the same block there -/
theorem PSl.same {w w' : World} {a : Option Addr} {l : List Pc} (h : PSl w a l) (hb : ∀ ad, a = some ad → ad.block < w.heap.size → w'.heap[ad.block]? = w.heap[ad.block]?) : PSl w' a l := by
  refine ⟨h.len, ?_⟩
  rcases h.cells with h0 | ⟨b, off, ha, hc⟩
  · exact .inl h0
  · refine .inr ⟨b, off, ha, fun i hi => ?_⟩
    obtain ⟨c0, c1, c2⟩ := hc i hi
    have hlt := World.block_lt_of_cell? w _ c0
    have he := hb _ ha hlt
    refine ⟨?_, ?_, ?_⟩
    · rw [World.cell?_of_block (w := w) (w' := w') (a := ⟨b, off + i * 3, none⟩) he]; exact c0
    · rw [World.cell?_of_block (w := w) (w' := w') (a := ⟨b, off + i * 3 + 1, none⟩) he]; exact c1
    · rw [World.cell?_of_block (w := w) (w' := w') (a := ⟨b, off + i * 3 + 2, none⟩) he]; exact c2
theorem PSl.bel {w w' : World} {a : Option Addr} {l : List Pc} (h : PSl w a l) (hb : Below w.heap.size w w') : PSl w' a l := h.same fun _ _ hlt => hb.block _ hlt
theorem PSl.drew {w : World} {a : Option Addr} {l : List Pc} (h : PSl w a l) : PSl w.drew a l := ⟨h.len, h.cells⟩
/-! ## a slice of pieces that the call owns -/
def POwn (w : World) (base : Nat) (a : Option Addr) (c : Nat) (l : List Pc) : Prop :=
  w.ownsRow base 63 3 (.slice a l.length c) l.length (flat l) ∧ l.length ≤ 1000000
theorem POwn.nil (w : World) (base : Nat) : POwn w base none 0 [] := ⟨World.ownsRow_nil _ _ _ _, by simp⟩
theorem POwn.shape {w : World} {base : Nat} {a : Option Addr} {c : Nat} {l : List Pc} (h : POwn w base a c l) :
    (a = none ∧ c = 0 ∧ l = []) ∨ ∃ g, a = some ⟨g, 0, none⟩ ∧ base ≤ g ∧ g < w.heap.size ∧ l.length ≤ c := by
  obtain ⟨⟨_, h | ⟨g, cap, cur, hv, hg, hh, hn, _⟩⟩, _⟩ := h
  · simp at h; exact .inl ⟨h.1.1, h.1.2.2, h.2⟩
  · simp only [Value.slice.injEq, true_and] at hv
    refine .inr ⟨g, hv.1, hg, (Array.getElem?_eq_some_iff.1 hh).1, by omega⟩
theorem POwn.sl {w : World} {base : Nat} {a : Option Addr} {c : Nat} {l : List Pc} (h : POwn w base a c l) : PSl w a l := by
  refine ⟨h.2, ?_⟩
  rcases h.shape with ⟨_, _, h0⟩ | ⟨g, rfl, _, _, _⟩
  · exact .inl h0
  · have hc := h.1.cells (g := g) rfl
    have hadd : ∀ j, (⟨g, 0, none⟩ : Addr).add j = ⟨g, j, none⟩ := fun j => by unfold Addr.add; split <;> simp_all
    refine .inr ⟨g, 0, rfl, fun i hi => ?_⟩
    have k0 := hc (i * 3 + 0) _ (by rw [flat_at l hi (by omega)]; rfl)
    have k1 := hc (i * 3 + 1) _ (by rw [flat_at l hi (by omega)]; rfl)
    have k2 := hc (i * 3 + 2) _ (by rw [flat_at l hi (by omega)]; rfl)
    rw [hadd] at k0 k1 k2
    simp only [Nat.zero_add, Nat.add_zero] at k0 k1 k2 ⊢
    exact ⟨k0, k1, k2⟩
theorem POwn.same {w w' : World} {base : Nat} {a : Option Addr} {c : Nat} {l : List Pc} (h : POwn w base a c l) (hb : ∀ ad, a = some ad → ad.block < w.heap.size → w'.heap[ad.block]? = w.heap[ad.block]?) : POwn w' base a c l := by
  obtain ⟨⟨h1, h2⟩, h3⟩ := h
  refine ⟨⟨h1, ?_⟩, h3⟩
  rcases h2 with h2 | ⟨g, cap, cur, hv, hg, hh, r⟩
  · exact .inl h2
  · simp only [Value.slice.injEq, true_and] at hv
    refine .inr ⟨g, cap, cur, by simp [hv], hg, ?_, r⟩
    rw [hb _ hv.1 (Array.getElem?_eq_some_iff.1 hh).1]; exact hh
theorem POwn.grow {w w' : World} {base : Nat} {a : Option Addr} {c : Nat} {l : List Pc} (h : POwn w base a c l) (hb : Below w.heap.size w w') : POwn w' base a c l := h.same fun _ _ hlt => hb.block _ hlt
theorem POwn.base_le {w : World} {base base' : Nat} {a : Option Addr} {c : Nat} {l : List Pc} (h : POwn w base a c l) (hb : base' ≤ base) : POwn w base' a c l := by
  obtain ⟨⟨h1, h2⟩, h3⟩ := h
  refine ⟨⟨h1, ?_⟩, h3⟩
  rcases h2 with h2 | ⟨g, cap, cur, hv, hg, r⟩
  · exact .inl h2
  · exact .inr ⟨g, cap, cur, hv, by omega, r⟩

theorem Try.infoPc : (Try.prog.info? 63).map (fun i => (i.zero, i.size, i.bytes)) = some (some (.agg #[.bool false, .int .i64 0, .int .i64 0]), 3, 24) := by kernel_rfl

/-- append of readable pieces to owned ones -/
theorem wp_papp {w : World} {o : Oper} {at_ : Act} {K : Act → World → Prop} {Q : Exit → Act → World → Prop} (s x : Operand)
    (ho : o.op = .call { callee := .builtin .append, args := #[s, x], argTypes := #[59, 59] })
    (base : Nat) (a a2 : Option Addr) (n n2 c c2 : Nat) (l l2 : List Pc) (hs : at_.eval s = .slice a n c) (hn : n = l.length) (hown : POwn w base a c l)
    (hx : at_.eval x = .slice a2 n2 c2) (hn2 : n2 = l2.length) (h2 : PSl w a2 l2) (hb : l.length + l2.length ≤ 1000000) (hbase : base ≤ w.heap.size)
    (h : ∀ a' c' w' L, Hid (L = l ++ l2) → POwn w' base a' c' L → Below base w w' → Kpt (Blk a) w w' → At w a a' →
      K (at_.put o.dst (.slice a' L.length c')) w') : o.wp Try.prog at_ w K Q := by
  subst hn; subst hn2
  obtain ⟨i0, hi, hz0, hz1, hz2⟩ := info_parts Try.infoPc
  cases a2 with
  | none =>
    have h20 : l2 = [] := by
      rcases h2.cells with h0 | ⟨_, _, h0, _⟩
      · exact h0
      · cases h0
    subst h20
    refine wp_app_none s x 59 ho base 63 i0 3 Try.underlying59 hi _ _ _ _ hs hown.1 hx ?_
    exact h a c w l (by simp [Hid]) hown (Below.refl _ _) (Kpt.refl _ _) (fun ad h => .inl ⟨ad, h, rfl⟩)
  | some ad =>
    refine wp_append_own_at s x 59 ho base 63 i0 (.agg #[.bool false, .int .i64 0, .int .i64 0]) 3 24 Try.underlying59 hi hz0 hz1 hz2 rfl (by decide) (.slice a l.length c) l.length (flat l) hs hown.1
      ad l2.length c2 (flat l2) hx (flat_len l2) ?_ (flat_one l2) (by unfold maxLen; omega) (by omega) hbase ?_
    · intro j u hu
      have hj : j < l2.length * 3 := by
        have := (List.getElem?_eq_some_iff.1 hu).1
        rwa [flat_len] at this
      obtain ⟨b, off, he, hc⟩ := h2.at (i := j / 3) (by omega)
      simp only [Option.some.injEq] at he; subst he
      have hji : j / 3 < l2.length := by omega
      obtain ⟨c0, c1, c2'⟩ := hc _ hji
      have e := flat_at l2 hji (j := j % 3) (by omega)
      rw [show j / 3 * 3 + j % 3 = j by omega, hu] at e
      have hadd : (⟨b, off, none⟩ : Addr).add j = ⟨b, off + j, none⟩ := by unfold Addr.add; split <;> simp_all
      rw [hadd]
      rcases (show j % 3 = 0 ∨ j % 3 = 1 ∨ j % 3 = 2 by omega) with h0 | h0 | h0
      · rw [h0] at e; simp [pcv] at e; rw [show off + j = off + j / 3 * 3 by omega, c0, e]
      · rw [h0] at e; simp [pcv] at e; rw [show off + j = off + j / 3 * 3 + 1 by omega, c1, e]
      · rw [h0] at e; simp [pcv] at e; rw [show off + j = off + j / 3 * 3 + 2 by omega, c2', e]
    · intro v' w' hown' hgrow hat
      have hr : ∀ k, (Value.slice a l.length c).ownBlock = some k → base ≤ k := fun k hk => (hown.1.lt k hk).1
      have hbel : Below base w w' := (Below.refl _ _).grown hgrow hbase hr
      have hsh : ∃ a' c', v' = .slice a' (l.length + l2.length) c' := by
        rcases hown'.2 with ⟨rfl, h0⟩ | ⟨g, cap, cur, rfl, _⟩
        · exact ⟨none, 0, by rw [h0]⟩
        · exact ⟨_, _, rfl⟩
      obtain ⟨a', c', rfl⟩ := hsh
      have := h a' c' w' _ rfl ⟨by simpa [List.length_append, flat_app] using hown', by simpa using hb⟩ hbel (Kpt.grown hgrow) (by
        rintro ad rfl
        rcases hat with hat | hat
        · left; cases a with
          | none => simp [Value.ownBlock] at hat
          | some ae => exact ⟨ae, rfl, by simpa [Value.ownBlock] using hat.symm⟩
        · right; simp [Value.ownBlock] at hat; omega)
      simpa [List.length_append] using this

theorem wpL_papp {w : World} {ops : Array Oper} {rest : List Oper} {o : Oper} {at_ : Act} {Q : Exit → Act → World → Prop} (hgd : o.guard = none) (s x : Operand)
    (ho : o.op = .call { callee := .builtin .append, args := #[s, x], argTypes := #[59, 59] })
    (base : Nat) (a a2 : Option Addr) (n n2 c c2 : Nat) (l l2 : List Pc) (hs : at_.eval s = .slice a n c) (hn : n = l.length) (hown : POwn w base a c l)
    (hx : at_.eval x = .slice a2 n2 c2) (hn2 : n2 = l2.length) (h2 : PSl w a2 l2) (hb : l.length + l2.length ≤ 1000000) (hbase : base ≤ w.heap.size)
    (h : ∀ a' c' w' L, Hid (L = l ++ l2) → POwn w' base a' c' L → Below base w w' → Kpt (Blk a) w w' → At w a a' →
      wpList Try.prog ops Q rest (at_.put o.dst (.slice a' L.length c')) w') : wpList Try.prog ops Q (o :: rest) at_ w :=
  wpList_plain hgd fun _ hK => wp_papp s x ho base a a2 n n2 c c2 l l2 hs hn hown hx hn2 h2 hb hbase fun a' c' w' L h1 h2 h3 h4 h5 => hK _ _ (h a' c' w' L h1 h2 h3 h4 h5)
theorem step_papp {w : World} {ops : Array Oper} {o : Oper} {at_ : Act} {K : Act → World → Prop} {Q : Exit → Act → World → Prop} {E : Prop} (hgd : o.guard = none) (s x : Operand)
    (ho : o.op = .call { callee := .builtin .append, args := #[s, x], argTypes := #[59, 59] })
    (base : Nat) (a a2 : Option Addr) (n n2 c c2 : Nat) (l l2 : List Pc) (hs : at_.eval s = .slice a n c) (hn : n = l.length) (hown : POwn w base a c l)
    (hx : at_.eval x = .slice a2 n2 c2) (hn2 : n2 = l2.length) (h2 : PSl w a2 l2) (hb : l.length + l2.length ≤ 1000000) (hbase : base ≤ w.heap.size)
    (h : ∀ a' c' w' L, Hid (L = l ++ l2) → POwn w' base a' c' L → Below base w w' → Kpt (Blk a) w w' → At w a a' →
      K (at_.put o.dst (.slice a' L.length c')) w') : if Region.wanted o (yielded ops at_.tmps) = true then Oper.wp Try.prog o at_ w K Q else E :=
  step_of hgd (wp_papp s x ho base a a2 n n2 c c2 l l2 hs hn hown hx hn2 h2 hb hbase h)
theorem POwn.off {w : World} {base : Nat} {a : Option Addr} {c : Nat} {l : List Pc} (h : POwn w base a c l) {k : Nat} (hk : w.heap.size ≤ k) : ¬ Blk a k := by
  rintro ⟨ad, rfl, rfl⟩
  rcases h.shape with ⟨h0, _⟩ | ⟨g, h0, _, hl, _⟩
  · cases h0
  · simp only [Option.some.injEq] at h0; subst h0; simp at hk; omega
theorem POwn.offlt {w : World} {base : Nat} {a : Option Addr} {c : Nat} {l : List Pc} (h : POwn w base a c l) {k : Nat} (hk : k < base) : ¬ Blk a k := by
  rintro ⟨ad, rfl, rfl⟩
  rcases h.shape with ⟨h0, _⟩ | ⟨g, h0, hg, hl, _⟩
  · cases h0
  · simp only [Option.some.injEq] at h0; subst h0; simp at hk; omega

/-! ## a table in memory -/
structure TabM (w : World) (B : Nat) (F : Nat → Prop) (pt : Nat) (s : St) : Prop where
  pos : 0 < w.heap.size
  lt : ∀ k, F k → B ≤ k ∧ k < w.heap.size
  ptF : F pt
  fz : ∀ i, w.frozen? ⟨pt, i, none⟩ = false
  cells : ∃ ao co aa ca ap cp, w.cell? ⟨pt, 0, none⟩ = some (.slice ao s.o.length co) ∧ w.cell? ⟨pt, 1, none⟩ = some (.slice aa s.a.length ca) ∧ w.cell? ⟨pt, 2, none⟩ = some (.slice ap s.p.length cp) ∧
    Own w B ao co s.o ∧ Own w B aa ca s.a ∧ POwn w B ap cp s.p ∧
    (∀ ad, ao = some ad → F ad.block ∧ ad.block ≠ pt) ∧ (∀ ad, aa = some ad → F ad.block ∧ ad.block ≠ pt) ∧ (∀ ad, ap = some ad → F ad.block ∧ ad.block ≠ pt) ∧
    (∀ ad ae, ao = some ad → aa = some ae → ad.block ≠ ae.block) ∧ (∀ ad ae, ap = some ad → aa = some ae → ad.block ≠ ae.block)
structure Tab (w : World) (B : Nat) (F : Nat → Prop) (pt : Nat) (s : St) : Prop extends TabM w B F pt s where
  wf : Wf s
theorem TabM.same {w w' : World} {B : Nat} {F : Nat → Prop} {pt : Nat} {s : St} (h : TabM w B F pt s) (hs : w.heap.size ≤ w'.heap.size) (hb : ∀ k, F k → w'.heap[k]? = w.heap[k]?) : TabM w' B F pt s := by
  obtain ⟨ao, co, aa, ca, ap, cp, c0, c1, c2, o0, o1, o2, f0, f1, f2, d⟩ := h.cells
  have hp := hb _ h.ptF
  refine ⟨Nat.lt_of_lt_of_le h.pos hs, fun k hk => ⟨(h.lt k hk).1, Nat.lt_of_lt_of_le (h.lt k hk).2 hs⟩, h.ptF, fun i => ?_, ao, co, aa, ca, ap, cp, ?_, ?_, ?_, o0.same fun ad ha _ => hb _ (f0 ad ha).1, o1.same fun ad ha _ => hb _ (f1 ad ha).1, o2.same fun ad ha _ => hb _ (f2 ad ha).1, f0, f1, f2, d⟩
  · rw [World.frozen?_of_block (w := w) (w' := w') (a := ⟨pt, i, none⟩) hp]; exact h.fz i
  · rw [World.cell?_of_block (w := w) (w' := w') (a := ⟨pt, 0, none⟩) hp]; exact c0
  · rw [World.cell?_of_block (w := w) (w' := w') (a := ⟨pt, 1, none⟩) hp]; exact c1
  · rw [World.cell?_of_block (w := w) (w' := w') (a := ⟨pt, 2, none⟩) hp]; exact c2
theorem TabM.kpt {w w' : World} {B : Nat} {F G : Nat → Prop} {pt : Nat} {s : St} (h : TabM w B F pt s) (hk : Kpt G w w') (hd : Dis F G) : TabM w' B F pt s :=
  h.same hk.size fun k hf => hk.block k (h.lt k hf).2 fun hg => hd k hf hg
theorem TabM.bel {w w' : World} {B : Nat} {F : Nat → Prop} {pt : Nat} {s : St} (h : TabM w B F pt s) (hb : Below w.heap.size w w') : TabM w' B F pt s :=
  h.same hb.size fun k hk => hb.block k (h.lt k hk).2
theorem TabM.more {w : World} {B : Nat} {F F' : Nat → Prop} {pt : Nat} {s : St} (h : TabM w B F pt s) (hF : ∀ k, F k → F' k) (hl : ∀ k, F' k → B ≤ k ∧ k < w.heap.size) : TabM w B F' pt s := by
  obtain ⟨ao, co, aa, ca, ap, cp, c0, c1, c2, o0, o1, o2, f0, f1, f2, d⟩ := h.cells
  exact ⟨h.pos, hl, hF _ h.ptF, h.fz, ao, co, aa, ca, ap, cp, c0, c1, c2, o0, o1, o2, fun ad ha => ⟨hF _ (f0 ad ha).1, (f0 ad ha).2⟩, fun ad ha => ⟨hF _ (f1 ad ha).1, (f1 ad ha).2⟩, fun ad ha => ⟨hF _ (f2 ad ha).1, (f2 ad ha).2⟩, d⟩
theorem Tab.same {w w' : World} {B : Nat} {F : Nat → Prop} {pt : Nat} {s : St} (h : Tab w B F pt s) (hs : w.heap.size ≤ w'.heap.size) (hb : ∀ k, F k → w'.heap[k]? = w.heap[k]?) : Tab w' B F pt s := ⟨h.toTabM.same hs hb, h.wf⟩
theorem Tab.bel {w w' : World} {B : Nat} {F : Nat → Prop} {pt : Nat} {s : St} (h : Tab w B F pt s) (hb : Below w.heap.size w w') : Tab w' B F pt s :=
  h.same hb.size fun k hk => hb.block k (h.lt k hk).2
theorem Tab.drew {w : World} {B : Nat} {F : Nat → Prop} {pt : Nat} {s : St} (h : Tab w B F pt s) : Tab w.drew B F pt s := h.bel (Below.drew (Below.refl _ _))
/-- another object was written -/
theorem Tab.kpt {w w' : World} {B : Nat} {F G : Nat → Prop} {pt : Nat} {s : St} (h : Tab w B F pt s) (hk : Kpt G w w') (hd : Dis F G) : Tab w' B F pt s :=
  h.same hk.size fun k hf => hk.block k (h.lt k hf).2 fun hg => hd k hf hg
theorem Tab.dis {w w' : World} {B : Nat} {F G : Nat → Prop} {pt : Nat} {s : St} (h : Tab w B F pt s) (hd : Dis F G) : Dis F (Gr G w w') := by
  intro k hf hg
  rcases hg with hg | hg
  · exact hd k hf hg
  · have := (h.lt k hf).2; omega
theorem Tab.more {w : World} {B : Nat} {F F' : Nat → Prop} {pt : Nat} {s : St} (h : Tab w B F pt s) (hF : ∀ k, F k → F' k) (hl : ∀ k, F' k → B ≤ k ∧ k < w.heap.size) : Tab w B F' pt s := ⟨h.toTabM.more hF hl, h.wf⟩
theorem POwn.setOther {w : World} {base : Nat} {a : Option Addr} {c : Nat} {l : List Pc} (h : POwn w base a c l) (p : Addr) (v : Value) (hn : ∀ ad, a = some ad → ad.block ≠ p.block) : POwn (w.setCell p v) base a c l :=
  h.same fun ad ha _ => Below.heap_setCell _ _ _ _ (hn ad ha)
theorem gr_of {F : Nat → Prop} {w w' : World} {k : Nat} (h : F k) : Gr F w w' k := .inl h
/-- the pieces are set -/
theorem TabM.setP {w w5 : World} {B : Nat} {F : Nat → Prop} {pt : Nat} {s : St} (h : TabM w B F pt s) (hB : B ≤ w.heap.size) (hk : Below w.heap.size w w5) (a5 : Option Addr) (c5 : Nat) (p' : List Pc) (o5 : POwn w5 w.heap.size a5 c5 p') :
    TabM (w5.setCell ⟨pt, 2, none⟩ (.slice a5 p'.length c5)) B (Gr F w (w5.setCell ⟨pt, 2, none⟩ (.slice a5 p'.length c5))) pt ⟨s.o, s.a, p'⟩ ∧ Kpt F w (w5.setCell ⟨pt, 2, none⟩ (.slice a5 p'.length c5)) := by
  have h5 := h.bel hk
  obtain ⟨ao, co, aa, ca, ap, cp, c0, c1, c2, o0, o1, o2, f0, f1, f2, d1, d2⟩ := h5.cells
  have hpt := (h.lt _ h.ptF).2
  have hp5 : ∀ ad, a5 = some ad → w.heap.size ≤ ad.block ∧ ad.block < w5.heap.size := by
    intro ad ha
    rcases o5.shape with ⟨h0, _⟩ | ⟨g, h0, h1, h2, _⟩
    · rw [h0] at ha; cases ha
    · rw [h0] at ha; simp only [Option.some.injEq] at ha; subst ha; exact ⟨h1, h2⟩
  have hs := hk.size
  refine ⟨⟨by simpa using h5.pos, ?_, gr_of h.ptF, ?_, ao, co, aa, ca, a5, c5, ?_, ?_, ?_, o0.setOther _ _ fun ad ha => (f0 ad ha).2, o1.setOther _ _ fun ad ha => (f1 ad ha).2, (o5.setOther _ _ ?_).base_le hB, ?_, ?_, ?_, d1, ?_⟩, (Kpt.of hk).setCell h.ptF _⟩
  · rintro k (hf | ⟨h1, h2⟩)
    · refine ⟨(h.lt k hf).1, ?_⟩; have := (h.lt k hf).2; simp; omega
    · exact ⟨by omega, h2⟩
  · intro i; rw [World.frozen?_setCell]; exact h5.fz i
  · rw [World.cell?_setCell_other (h := by simp)]; exact c0
  · rw [World.cell?_setCell_other (h := by simp)]; exact c1
  · rw [World.cell?_setCell_same (u := .slice ap s.p.length cp)]; exact c2
  · intro ad ha; have := hp5 ad ha; simp; omega
  · intro ad ha; exact ⟨gr_of (f0 ad ha).1, (f0 ad ha).2⟩
  · intro ad ha; exact ⟨gr_of (f1 ad ha).1, (f1 ad ha).2⟩
  · intro ad ha; have := hp5 ad ha; exact ⟨.inr ⟨this.1, by simp; omega⟩, by omega⟩
  · intro ad ae ha hae; have := hp5 ad ha; have := (h.lt _ (f1 ae hae).1).2; omega
/-- the added text is set -/
theorem TabM.setA {w w6 : World} {B : Nat} {F : Nat → Prop} {pt : Nat} {s : St} (h : TabM w B F pt s) {aa : Option Addr} {ca : Nat} (hc : w.cell? ⟨pt, 1, none⟩ = some (.slice aa s.a.length ca)) (hk : Kpt (Blk aa) w w6)
    (a6 : Option Addr) (c6 : Nat) (a' : List Int) (o6 : Own w6 B a6 c6 a') (hat : At w aa a6) :
    TabM (w6.setCell ⟨pt, 1, none⟩ (.slice a6 a'.length c6)) B (Gr F w (w6.setCell ⟨pt, 1, none⟩ (.slice a6 a'.length c6))) pt ⟨s.o, a', s.p⟩ ∧ Kpt F w (w6.setCell ⟨pt, 1, none⟩ (.slice a6 a'.length c6)) := by
  obtain ⟨ao, co, aa2, ca2, ap, cp, c0, c1, c2, o0, o1, o2, f0, f1, f2, d1, d2⟩ := h.cells
  obtain ⟨rfl, rfl⟩ : aa2 = aa ∧ ca2 = ca := by
    rw [c1] at hc; simp only [Option.some.injEq, Value.slice.injEq, true_and] at hc; exact hc
  have hpt := (h.lt _ h.ptF).2
  have hs := hk.size
  have ptn : ¬ Blk aa2 pt := by rintro ⟨ad, ha, hb⟩; exact (f1 ad ha).2 hb
  have hF : ∀ k, Blk aa2 k → F k := by rintro k ⟨ad, ha, rfl⟩; exact (f1 ad ha).1
  have e0 : Own w6 B ao co s.o := o0.same fun ad ha hl => hk.block _ hl (by rintro ⟨ae, hae, hb⟩; exact d1 ad ae ha hae hb.symm)
  have e2 : POwn w6 B ap cp s.p := o2.same fun ad ha hl => hk.block _ hl (by rintro ⟨ae, hae, hb⟩; exact d2 ad ae ha hae hb.symm)
  have h6 : ∀ ad, a6 = some ad → ad.block < w6.heap.size := by
    intro ad ha
    rcases o6.shape with ⟨h0, _⟩ | ⟨g, h0, h1, h2, _⟩
    · rw [h0] at ha; cases ha
    · rw [h0] at ha; simp only [Option.some.injEq] at ha; subst ha; exact h2
  have n6 : ∀ ad, a6 = some ad → ad.block ≠ pt := by
    intro ad ha
    rcases hat ad ha with ⟨ae, hae, hb⟩ | hb
    · rw [← hb]; exact (f1 ae hae).2
    · omega
  have dis6 : ∀ x : Addr, F x.block → (∀ ae, aa2 = some ae → x.block ≠ ae.block) → ∀ ad, a6 = some ad → x.block ≠ ad.block := by
    intro x hx hne ad ha
    rcases hat ad ha with ⟨ae, hae, hb⟩ | hb
    · rw [← hb]; exact hne ae hae
    · have := (h.lt _ hx).2; omega
  refine ⟨⟨by have := h.pos; simp; omega, ?_, gr_of h.ptF, ?_, ao, co, a6, c6, ap, cp, ?_, ?_, ?_, e0.setOther _ _ fun ad ha => (f0 ad ha).2, o6.setOther _ _ n6, e2.setOther _ _ fun ad ha => (f2 ad ha).2, ?_, ?_, ?_, ?_, ?_⟩, (hk.mono hF).setCell h.ptF _⟩
  · rintro k (hf | ⟨h1, h2⟩)
    · refine ⟨(h.lt k hf).1, ?_⟩; have := (h.lt k hf).2; simp; omega
    · refine ⟨?_, h2⟩; have := (h.lt _ h.ptF).1; omega
  · intro i; rw [World.frozen?_setCell, hk.frozen (p := ⟨pt, i, none⟩) hpt ptn]; exact h.fz i
  · rw [World.cell?_setCell_other (h := by simp)]; exact hk.cell c0 ptn
  · rw [World.cell?_setCell_same (u := .slice aa2 s.a.length ca2)]; exact hk.cell c1 ptn
  · rw [World.cell?_setCell_other (h := by simp)]; exact hk.cell c2 ptn
  · intro ad ha; exact ⟨gr_of (f0 ad ha).1, (f0 ad ha).2⟩
  · intro ad ha
    refine ⟨?_, n6 ad ha⟩
    rcases hat ad ha with hb | hb
    · exact gr_of (hF _ hb)
    · exact .inr ⟨hb, by have := h6 ad ha; simpa using this⟩
  · intro ad ha; exact ⟨gr_of (f2 ad ha).1, (f2 ad ha).2⟩
  · intro ad ae ha hae; exact dis6 ad (f0 ad ha).1 (fun x hx => d1 ad x ha hx) ae hae
  · intro ad ae ha hae; exact dis6 ad (f2 ad ha).1 (fun x hx => d2 ad x ha hx) ae hae
end Go.Proofs.Ytcekoifbgfeahaa
