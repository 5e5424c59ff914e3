/- Slices of changes: readable, owned; what append does to them; the parts of one. -/
import Derived.Test.YthciodfkhgpegaaChgM
import Derived.Test.YthciodfkhgpegaaBase
namespace Go.Proofs.Ythciodfkhgpegaa
open Go.RowKit Go.ChangeShapes Go.WideShapes Go.ChangeAt

/-- a change in memory -/
structure Cm where
  at_ : Int
  ca : Option Addr
  cut : List Int
  cc : Nat
  pa : Option Addr
  put : List Int
  pc : Nat
instance : Inhabited Cm := ⟨⟨0, none, [], 0, none, [], 0⟩⟩
def Cm.cg (m : Cm) : Cg := ⟨m.at_, m.cut, m.put⟩
def cgs (l : List Cm) : List Cg := l.map Cm.cg
theorem cgs_len (l : List Cm) : (cgs l).length = l.length := by simp [cgs]
theorem cgs_app (l r : List Cm) : cgs (l ++ r) = cgs l ++ cgs r := by simp [cgs]
def cmv (m : Cm) : List Value := [.int .i64 m.at_, .slice m.ca m.cut.length m.cc, .slice m.pa m.put.length m.pc]
def cflat (l : List Cm) : List Value := l.flatMap cmv
def cgt (l : List Cm) (i : Nat) : Cm := l.getD i default
theorem cgt_get {l : List Cm} {i : Nat} (h : i < l.length) : cgt l i = l[i] := by simp [cgt, List.getD, List.getElem?_eq_getElem h]
theorem cgt_mem {l : List Cm} {i : Nat} (h : i < l.length) : cgt l i ∈ l := by rw [cgt_get h]; exact List.getElem_mem h
theorem cgt_take {l : List Cm} {k : Nat} (h : k < l.length) : l.take (k + 1) = l.take k ++ [cgt l k] := by
  rw [List.take_succ_eq_append_getElem h, cgt_get h]
theorem cgt_drop {l : List Cm} {k : Nat} (h : k < l.length) : l.drop k = cgt l k :: l.drop (k + 1) := by
  rw [List.drop_eq_getElem_cons h, cgt_get h]
theorem cgs_get {l : List Cm} {i : Nat} (h : i < l.length) : (cgs l)[i]'(by simpa [cgs] using h) = (cgt l i).cg := by simp [cgs, cgt_get h]
theorem cflat_len (l : List Cm) : (cflat l).length = l.length * 3 := by
  induction l with
  | nil => rfl
  | cons p l ih => simp only [cflat, List.flatMap_cons, List.length_append] at ih ⊢; rw [ih]; simp [cmv]; omega
theorem cflat_app (l r : List Cm) : cflat (l ++ r) = cflat l ++ cflat r := by simp [cflat]
theorem cflat_at (l : List Cm) {i : Nat} (h : i < l.length) {j : Nat} (hj : j < 3) : (cflat l)[i * 3 + j]? = (cmv (cgt l i))[j]? := by
  induction l generalizing i with
  | nil => simp at h
  | cons p l ih =>
    cases i with
    | zero =>
      simp only [cflat, List.flatMap_cons, Nat.zero_mul, Nat.zero_add]
      rw [List.getElem?_append_left (by simp [cmv]; omega)]; rfl
    | succ i =>
      have hi : i < l.length := by simpa using h
      have := ih hi
      simp only [cflat, List.flatMap_cons] at this ⊢
      rw [List.getElem?_append_right (by simp [cmv]; omega)]
      rw [show (i + 1) * 3 + j - (cmv p).length = i * 3 + j by simp [cmv]; omega, this]
      simp [cgt]
theorem cflat_one (l : List Cm) (u : Value) (h : u ∈ cflat l) : u.oneCell' = true := by
  simp only [cflat, List.mem_flatMap] at h
  obtain ⟨p, _, hp⟩ := h
  simp [cmv] at hp
  rcases hp with rfl | rfl | rfl <;> rfl

/-- the three cells of a change -/
def C3 (w : World) (b o : Nat) (m : Cm) : Prop :=
  w.cell? ⟨b, o, none⟩ = some (.int .i64 m.at_) ∧ w.cell? ⟨b, o + 1, none⟩ = some (.slice m.ca m.cut.length m.cc) ∧ w.cell? ⟨b, o + 2, none⟩ = some (.slice m.pa m.put.length m.pc)
/-! ## a slice of changes that reads as a list -/
structure CSl (w : World) (a : Option Addr) (l : List Cm) : Prop where
  len : l.length ≤ 2513169434916
  cells : l = [] ∨ ∃ b off, a = some ⟨b, off, none⟩ ∧ ∀ i, i < l.length → C3 w b (off + i * 3) (cgt l i)
theorem CSl.at {w : World} {a : Option Addr} {l : List Cm} (h : CSl w a l) {i : Nat} (hi : i < l.length) :
    ∃ b off, a = some ⟨b, off, none⟩ ∧ ∀ i, i < l.length → C3 w b (off + i * 3) (cgt l i) := by
  rcases h.cells with rfl | h
  · simp at hi
  · exact h
theorem CSl.nil (w : World) (a : Option Addr) : CSl w a [] := ⟨by simp, .inl rfl⟩
/-- the same in a world that has the same block there -/
theorem CSl.same {w w' : World} {a : Option Addr} {l : List Cm} (h : CSl w a l) (hb : ∀ ad, a = some ad → ad.block < w.heap.size → w'.heap[ad.block]? = w.heap[ad.block]?) : CSl w' a l := by
  refine ⟨h.len, ?_⟩
  rcases h.cells with h0 | ⟨b, off, ha, hc⟩
  · exact .inl h0
  · refine .inr ⟨b, off, ha, fun i hi => ?_⟩
    obtain ⟨c0, c1, c2⟩ := hc i hi
    have hlt := World.block_lt_of_cell? w _ c0
    have he := hb _ ha hlt
    refine ⟨?_, ?_, ?_⟩
    · rw [World.cell?_of_block (w := w) (w' := w') (a := ⟨b, off + i * 3, none⟩) he]; exact c0
    · rw [World.cell?_of_block (w := w) (w' := w') (a := ⟨b, off + i * 3 + 1, none⟩) he]; exact c1
    · rw [World.cell?_of_block (w := w) (w' := w') (a := ⟨b, off + i * 3 + 2, none⟩) he]; exact c2
theorem CSl.bel {w w' : World} {a : Option Addr} {l : List Cm} (h : CSl w a l) (hb : Below w.heap.size w w') : CSl w' a l := h.same fun _ _ hlt => hb.block _ hlt
theorem CSl.alloc {w : World} {a : Option Addr} {l : List Cm} (h : CSl w a l) (o : Obj) : CSl (w.alloc o) a l := h.bel ((Below.refl _ _).alloc (Nat.le_refl _) o)
theorem CSl.drew {w : World} {a : Option Addr} {l : List Cm} (h : CSl w a l) : CSl w.drew a l := ⟨h.len, h.cells⟩
theorem CSl.kpt {w w' : World} {F : Nat → Prop} {a : Option Addr} {l : List Cm} (h : CSl w a l) (ho : Off a F) (hk : Kpt F w w') : CSl w' a l :=
  h.same fun ad ha hlt => hk.block _ hlt (ho ad ha)
/-- one change in a block of its own -/
theorem CSl.lit (w : World) (m : Cm) (e : TypeId) (b : Nat) (hb : b = w.heap.size) (cs : Array Value) (hcs : cs = (cmv m).toArray) : CSl (w.alloc (.cells cs e)) (some ⟨b, 0, none⟩) [m] := by
  subst hb
  refine ⟨by simp, .inr ⟨_, _, rfl, fun i hi => ?_⟩⟩
  obtain rfl : i = 0 := by simpa using hi
  refine ⟨?_, ?_, ?_⟩ <;> (rw [cell_alloc_new, hcs]; simp [cmv, cgt])
/-! ### what the slices inside read as -/
def ir (x : Int) : Prop := -9223372036854775808 ≤ x ∧ x ≤ 9223372036854775807
structure CmOk (w : World) (m : Cm) : Prop where
  at_ : ir m.at_
  cut : Sl w m.ca m.cut
  put : Sl w m.pa m.put
  cc : m.cut.length ≤ m.cc
  pc : m.put.length ≤ m.pc
theorem CmOk.bel {w w' : World} {m : Cm} (h : CmOk w m) (hb : Below w.heap.size w w') : CmOk w' m := ⟨h.at_, h.cut.bel hb, h.put.bel hb, h.cc, h.pc⟩
def Cms (w : World) (l : List Cm) : Prop := ∀ m, m ∈ l → CmOk w m
theorem Cms.bel {w w' : World} {l : List Cm} (h : Cms w l) (hb : Below w.heap.size w w') : Cms w' l := fun m hm => (h m hm).bel hb
theorem Cms.nil (w : World) : Cms w [] := fun m hm => by cases hm
theorem Cms.take {w : World} {l : List Cm} (h : Cms w l) (n : Nat) : Cms w (l.take n) := fun m hm => h m (List.mem_of_mem_take hm)
theorem Cms.drop {w : World} {l : List Cm} (h : Cms w l) (n : Nat) : Cms w (l.drop n) := fun m hm => h m (List.mem_of_mem_drop hm)
theorem Cms.snoc {w : World} {l : List Cm} {m : Cm} (h : Cms w l) (hm : CmOk w m) : Cms w (l ++ [m]) := fun x hx => by
  rcases List.mem_append.1 hx with hx | hx
  · exact h x hx
  · simp at hx; subst hx; exact hm
theorem Cms.app {w : World} {l r : List Cm} (h : Cms w l) (hr : Cms w r) : Cms w (l ++ r) := fun x hx => by
  rcases List.mem_append.1 hx with hx | hx
  · exact h x hx
  · exact hr x hx
/-! ## a slice of changes that the call owns -/
def COwn (w : World) (base : Nat) (a : Option Addr) (c : Nat) (l : List Cm) : Prop :=
  w.ownsRow base 24 3 (.slice a l.length c) l.length (cflat l) ∧ l.length ≤ 2513169434916
theorem COwn.nil (w : World) (base : Nat) : COwn w base none 0 [] := ⟨World.ownsRow_nil _ _ _ _, by simp⟩
theorem COwn.shape {w : World} {base : Nat} {a : Option Addr} {c : Nat} {l : List Cm} (h : COwn w base a c l) :
    (a = none ∧ c = 0 ∧ l = []) ∨ ∃ g, a = some ⟨g, 0, none⟩ ∧ base ≤ g ∧ g < w.heap.size ∧ l.length ≤ c := by
  obtain ⟨⟨_, h | ⟨g, cap, cur, hv, hg, hh, hn, _⟩⟩, _⟩ := h
  · simp at h; exact .inl ⟨h.1.1, h.1.2.2, h.2⟩
  · simp only [Value.slice.injEq, true_and] at hv
    refine .inr ⟨g, hv.1, hg, (Array.getElem?_eq_some_iff.1 hh).1, by omega⟩
theorem COwn.cap {w : World} {base : Nat} {a : Option Addr} {c : Nat} {l : List Cm} (h : COwn w base a c l) : l.length ≤ c := by
  rcases h.shape with ⟨_, _, h0⟩ | ⟨_, _, _, _, h0⟩
  · simp [h0]
  · exact h0
theorem COwn.sl {w : World} {base : Nat} {a : Option Addr} {c : Nat} {l : List Cm} (h : COwn w base a c l) : CSl w a l := by
  refine ⟨h.2, ?_⟩
  rcases h.shape with ⟨_, _, h0⟩ | ⟨g, rfl, _, _, _⟩
  · exact .inl h0
  · have hc := h.1.cells (g := g) rfl
    have hadd : ∀ j, (⟨g, 0, none⟩ : Addr).add j = ⟨g, j, none⟩ := fun j => by unfold Addr.add; split <;> simp_all
    refine .inr ⟨g, 0, rfl, fun i hi => ?_⟩
    have k0 := hc (i * 3 + 0) _ (by rw [cflat_at l hi (by omega)]; rfl)
    have k1 := hc (i * 3 + 1) _ (by rw [cflat_at l hi (by omega)]; rfl)
    have k2 := hc (i * 3 + 2) _ (by rw [cflat_at l hi (by omega)]; rfl)
    rw [hadd] at k0 k1 k2
    simp only [Nat.zero_add, Nat.add_zero] at k0 k1 k2 ⊢
    exact ⟨k0, by simpa [Nat.add_assoc] using k1, by simpa [Nat.add_assoc] using k2⟩
theorem COwn.same {w w' : World} {base : Nat} {a : Option Addr} {c : Nat} {l : List Cm} (h : COwn w base a c l) (hb : ∀ ad, a = some ad → ad.block < w.heap.size → w'.heap[ad.block]? = w.heap[ad.block]?) : COwn w' base a c l := by
  obtain ⟨⟨h1, h2⟩, h3⟩ := h
  refine ⟨⟨h1, ?_⟩, h3⟩
  rcases h2 with h2 | ⟨g, cap, cur, hv, hg, hh, r⟩
  · exact .inl h2
  · simp only [Value.slice.injEq, true_and] at hv
    refine .inr ⟨g, cap, cur, by simp [hv], hg, ?_, r⟩
    rw [hb _ hv.1 (Array.getElem?_eq_some_iff.1 hh).1]; exact hh
theorem COwn.grow {w w' : World} {base : Nat} {a : Option Addr} {c : Nat} {l : List Cm} (h : COwn w base a c l) (hb : Below w.heap.size w w') : COwn w' base a c l := h.same fun _ _ hlt => hb.block _ hlt
theorem COwn.base_le {w : World} {base base' : Nat} {a : Option Addr} {c : Nat} {l : List Cm} (h : COwn w base a c l) (hb : base' ≤ base) : COwn w base' a c l := by
  obtain ⟨⟨h1, h2⟩, h3⟩ := h
  refine ⟨⟨h1, ?_⟩, h3⟩
  rcases h2 with h2 | ⟨g, cap, cur, hv, hg, r⟩
  · exact .inl h2
  · exact .inr ⟨g, cap, cur, hv, by omega, r⟩
theorem COwn.lt {w : World} {base : Nat} {a : Option Addr} {c : Nat} {l : List Cm} (h : COwn w base a c l) {k : Nat} (hk : Blk a k) : base ≤ k ∧ k < w.heap.size := by
  obtain ⟨ad, rfl, rfl⟩ := hk
  rcases h.shape with ⟨h0, _⟩ | ⟨g, h0, hg, hl, _⟩
  · cases h0
  · simp only [Option.some.injEq] at h0; subst h0; exact ⟨hg, hl⟩

theorem Try.infoCh : (Try.prog.info? 24).map (fun i => (i.zero, i.size, i.bytes)) = some (some (.agg #[.int .i64 0, .slice none 0 0, .slice none 0 0]), 3, 56) := by kernel_rfl

end Go.Proofs.Ythciodfkhgpegaa
