/- Lists of nodes one deeper in place; the code's holding. -/
import Derived.Test.YtefgjicegbhcaaaGreatRxf
namespace Go.Proofs.YtefgjicegbhcaaaGreat
open Go.RowKit ReM

/-! ## a record of a list turned -/
theorem rflat_set {α : Type} [Inhabited α] {E : Enc α} (l : List α) (i j : Nat) (x : α) (u : Value) (hi : i < l.length) (hj : j < E.k) (hx : E.v x = (E.v (rgt l i)).set j u) :
    rflat E (l.set i x) = (rflat E l).set (i * E.k + j) u := by
  induction l generalizing i with
  | nil => simp at hi
  | cons y l ih =>
    cases i with
    | zero =>
      simp only [List.set_cons_zero, rflat, List.flatMap_cons, Nat.zero_mul, Nat.zero_add]
      rw [hx, List.set_append_left _ _ (by rw [E.len]; exact hj)]
      rfl
    | succ i =>
      have h1 := ih i (by simpa using hi) (by rw [hx]; rfl)
      simp only [List.set_cons_succ, rflat, List.flatMap_cons] at h1 ⊢
      rw [h1, List.set_append_right _ _ (by rw [E.len, Nat.succ_mul]; omega), E.len]
      congr 2
      rw [Nat.succ_mul]; omega
theorem ROwn.stored {α : Type} [Inhabited α] {E : Enc α} {e : TypeId} {w : World} {base g c : Nat} {l : List α} (h : ROwn E e w base (some ⟨g, 0, none⟩) c l) (i j : Nat) (x : α) (u : Value) (hi : i < l.length) (hj : j < E.k)
    (hx : E.v x = (E.v (rgt l i)).set j u) : ROwn E e (w.setCell ⟨g, i * E.k + j, none⟩ u) base (some ⟨g, 0, none⟩) c (l.set i x) := by
  refine ⟨?_, by simpa using h.2⟩
  have := h.1.stored (i * E.k + j) u
  rw [rflat_set l i j x u hi hj hx]
  simpa using this.1
theorem ROwn.at {α : Type} [Inhabited α] {E : Enc α} {e : TypeId} {w : World} {base g c : Nat} {l : List α} (h : ROwn E e w base (some ⟨g, 0, none⟩) c l) {i : Nat} (hi : i < l.length) : Rec1 E w g (i * E.k) (rgt l i) := by
  obtain ⟨b, off, he, hc⟩ := h.sl.at hi
  cases he
  have := hc i hi
  rwa [Nat.zero_add] at this
theorem ROwn.free {α : Type} {E : Enc α} {e : TypeId} {w : World} {base g c : Nat} {l : List α} (h : ROwn E e w base (some ⟨g, 0, none⟩) c l) (i : Nat) : w.frozen? ⟨g, i, none⟩ = false := h.1.frozenAt i
theorem ROwn.stay {α : Type} {E : Enc α} {e : TypeId} {w w' : World} {base : Nat} {a : Option Addr} {c : Nat} {l : List α} (h : ROwn E e w base a c l) (hb : ∀ k, base ≤ k → k < w.heap.size → w'.heap[k]? = w.heap[k]?) : ROwn E e w' base a c l :=
  h.same fun _ ha hl => hb _ (h.1.lt _ (by rw [ha]; rfl)).1 hl
theorem ROwn.kr {α : Type} {E : Enc α} {e : TypeId} {w w' : World} {base r : Nat} {a : Option Addr} {c : Nat} {l : List α} (h : ROwn E e w base a c l) (k : KR r w w') (hr : r < base) : ROwn E e w' base a c l :=
  h.stay fun j hj hl => k.block j hl (by omega)
/-- the first k of a list turned -/
def halfR (k : Nat) (l : List Rm) : List Rm := (l.take k).map Rm.low ++ l.drop k
theorem halfR_len (k : Nat) (l : List Rm) : (halfR k l).length = l.length := by simp [halfR]; omega
theorem halfR_at {k : Nat} {l : List Rm} (h : k < l.length) : rgt (halfR k l) k = rgt l k := by
  unfold halfR rgt
  have e : ((l.take k).map Rm.low).length = k := by simp; omega
  rw [List.getD_eq_getElem?_getD, List.getElem?_append_right (by omega), e, Nat.sub_self, List.getElem?_drop, Nat.add_zero, List.getD_eq_getElem?_getD]
theorem halfR_set {k : Nat} {l : List Rm} (h : k < l.length) : (halfR k l).set k (rgt l k).low = halfR (k + 1) l := by
  unfold halfR
  have e : ((l.take k).map Rm.low).length = k := by simp; omega
  rw [List.set_append_right _ _ (by omega), e, Nat.sub_self, rgt_drop h, List.set_cons_zero, rgt_take h]
  simp
theorem halfR_zero (l : List Rm) : halfR 0 l = l := by simp [halfR]
theorem halfR_all (l : List Rm) {k : Nat} (h : l.length ≤ k) : halfR k l = l.map Rm.low := by
  simp [halfR, List.take_of_length_le h, List.drop_of_length_le h]
/-- a literal list of one node that the call owns -/
theorem ROwn.one {P : Program} {t e : TypeId} (_ : Ty P encRe t e) {w : World} (m : Rm) (b base : Nat) (hb : b = w.heap.size) (hB : base ≤ w.heap.size) (cs : Array Value) (hcs : cs = (encRe.v m).toArray) :
    ROwn encRe e (w.alloc (.cells cs e)) base (some ⟨b, 0, none⟩) 1 [m] := by
  subst hb; subst hcs
  refine ⟨?_, by show 1 ≤ 2199023255552; decide⟩
  have := World.ownsRow_lit (base := base) (e := e) (size := encRe.k) w (encRe.v m).toArray 1 hB (by decide) (by simp [encRe])
  rw [show rflat encRe [m] = encRe.v m by simp [rflat]]
  simpa using this
/-- how long a list of nodes is, how deep -/
structure Sml (n d : Nat) (M : List Rm) : Prop where
  len : M.length ≤ n
  deep : ∀ m, m ∈ M → 0 ≤ m.deep ∧ m.deep ≤ d
theorem Sml.nil (n d : Nat) : Sml n d [] := ⟨by simp, fun m hm => by cases hm⟩
theorem Sml.mono {n d n' d' : Nat} {M : List Rm} (h : Sml n d M) (hn : n ≤ n') (hd : d ≤ d') : Sml n' d' M := ⟨Nat.le_trans h.len hn, fun m hm => ⟨(h.deep m hm).1, by have := (h.deep m hm).2; omega⟩⟩
theorem Sml.low {n d : Nat} {M : List Rm} (h : Sml n d M) : Sml n (d + 1) (M.map Rm.low) := ⟨by simpa using h.len, fun m hm => by
  obtain ⟨x, hx, rfl⟩ := List.mem_map.1 hm
  have := h.deep x hx
  exact ⟨by show 0 ≤ x.deep + 1; omega, by show x.deep + 1 ≤ _; omega⟩⟩
theorem Sml.app {n d n' : Nat} {M M' : List Rm} (h : Sml n d M) (h' : Sml n' d M') : Sml (n + n') d (M ++ M') := ⟨by rw [List.length_append]; have := h.len; have := h'.len; omega, fun m hm => by
  rcases List.mem_append.1 hm with hm | hm
  · exact h.deep m hm
  · exact h'.deep m hm⟩
theorem Sml.cons {n d : Nat} {M : List Rm} {m : Rm} (h : Sml n d M) (hm : m.deep = 0) : Sml (n + 1) d (m :: M) := ⟨by simpa using h.len, fun x hx => by
  rcases List.mem_cons.1 hx with rfl | hx
  · rw [hm]; omega
  · exact h.deep x hx⟩
theorem Sml.one (d : Nat) {m : Rm} (hm : m.deep = 0) : Sml 1 d [m] := (Sml.nil 0 d).cons hm
/-- a node as a value -/
def rmV (m : Rm) : Value := .agg #[.int .i64 m.kind, .int .i64 m.deep, .int .i64 m.lo, .int .i64 m.hi, .bool m.lazy, .bool m.not, .slice m.sa m.set.length m.sc]
abbrev RO (w : World) (base : Nat) (a : Option Addr) (c : Nat) (l : List Rm) : Prop := ROwn encRe 128 w base a c l
def HoldE (w : World) (a : Option Addr) (m : Rm) (M : List Rm) (e' : Ending) (w' : World) : Prop :=
  ∃ a2 c2 L, e' = .returned (.slice a2 L.length c2) ∧ Hid (L = m :: M.map Rm.low) ∧ RO w' w.heap.size a2 c2 L ∧ Kpt (Blk a) w w'
set_option maxHeartbeats 8000000 in
theorem holding_c (base : Nat) (m : Rm) (a : Option Addr) (c : Nat) (M : List Rm) (w : World) (h : RO w base a c M) (hs : Sml 100000 100000 M) :
    Calls Tryz.prog 100 #[rmV m, .slice a M.length c] w (HoldE w a m M) := by
  unfold rmV
  have hlen := hs.len
  have Hs := hid hs
  clear hs
  obtain ⟨V, hV⟩ : ∃ V, V = w.alloc (.cells #[.int .i64 m.kind, .int .i64 m.deep, .int .i64 m.lo, .int .i64 m.hi, .bool m.lazy, .bool m.not, .slice m.sa m.set.length m.sc] 128) := ⟨_, rfl⟩
  have nn : NdC V w.heap.size m.kind m.deep m.lo m.hi m.lazy m.not (.slice m.sa m.set.length m.sc) := by subst hV; exact NdC.new _ _ _ _ _ _ _ _ _ _ rfl
  have bV : Below w.heap.size w V := by subst hV; (repeat' (first | exact Below.refl _ _ | assumption | refine bdrewN ?_ _ | refine Below.drew ?_ | refine bal ?_ _ | refine bthen ?_ (by assumption)))
  have zV : V.heap.size = w.heap.size + 1 := by subst hV; simp
  have Ho := hid (h.grow bV)
  have hlt := hid (fun k => h.lt (k := k))
  clear h
  go_enter Tryz.func100, Tryz.ntmps100
  go_wp2
  rw [← hV]; clear hV
  go_loopg [8] M.length (fun g iv wr => ∃ k : Nat, g = M.length - k ∧ k ≤ M.length ∧ iv = .int .i64 k ∧ Hid (RO wr base a c (halfR k M)) ∧ Hid (Kpt (Blk a) V wr))
  case atStart => exact ⟨0, rfl, by omega, rfl, by rw [halfR_zero]; exact Ho, Kpt.refl _ _⟩
  case round =>
    obtain ⟨k, rfl, hk, rfl, Ho1, Hk1⟩ := hrel
    by_cases hkl : k < M.length
    · have hll := halfR_len k M
      obtain ⟨g, rfl, hg1, hg2, hg3⟩ : ∃ g, a = some ⟨g, 0, none⟩ ∧ base ≤ g ∧ g < wr.heap.size ∧ (halfR k M).length ≤ c := by
        rcases Ho1.out.shape with ⟨_, _, h0⟩ | h0
        · rw [h0] at hll; simp at hll; omega
        · exact h0
      have ck := (rec_re (Ho1.out.at (i := k) (by omega))).2.1
      rw [halfR_at hkl] at ck
      have fk := Ho1.out.free (k * 7 + 1)
      have hd := Hs.out.deep _ (rgt_mem hkl)
      have Hst := hid (Ho1.out.stored k 1 (rgt M k).low (.int .i64 ((rgt M k).deep + 1)) (by omega) (by decide) (by rw [halfR_at hkl]; rfl))
      rw [halfR_set hkl] at Hst
      change wr.cell? ⟨g, k * 7 + 1, none⟩ = _ at ck
      clear hll hg3
      generalize (rgt M k).deep = dv at *
      go_wp2
      go_roundg (M.length - (k + 1))
      case measure => omega
      case rel => exact ⟨k + 1, rfl, by omega, by go_num, Hst, hid (Kpt.setCell Hk1.out (p := ⟨g, k * 7 + 1, none⟩) ⟨_, rfl, rfl⟩ _)⟩
    · obtain rfl : k = M.length := by omega
      rw [halfR_all M (Nat.le_refl _)] at Ho1
      have b1 : decide ((M.length : Int) < (M.length : Int)) = false := by simp
      have hzr := Hk1.out.size
      have nb : ¬ Blk a w.heap.size := fun hb => by have := (hlt.out _ hb).2; omega
      have nn2 := nn.kpt Hk1.out nb
      obtain ⟨L, hL⟩ : ∃ L, L = M.map Rm.low := ⟨_, rfl⟩
      rw [← hL] at Ho1
      have HL := hid hL
      have hl2 : M.length = L.length := by rw [hL]; simp
      have HO := hid Ho1.out.sl
      have hcap : L.length ≤ 100000 := by omega
      rw [hl2]
      clear hL nn Ho1 hl2
      (have n0 := nn2.c0; have n1 := nn2.c1; have n2 := nn2.c2; have n3 := nn2.c3; have n4 := nn2.c4; have n5 := nn2.c5; have n6 := nn2.c6; have nf0 := nn2.fz 0; have nf1 := nn2.fz 1; have nf2 := nn2.fz 2; have nf3 := nn2.fz 3; have nf4 := nn2.fz 4; have nf5 := nn2.fz 5; have nf6 := nn2.fz 6; have nz := nn2.lt; clear nn2)
      go_wp2_with ((at_builtin; (refine wpL_rapp Tryz.tyRe rfl (.tmp 21) (.tmp 22) rfl w.heap.size (some ⟨wr.heap.size, 0, none⟩) a 1 L.length 1 c [m] L rfl (by first | rfl | simp | omega) (ROwn.one Tryz.tyRe m _ _ rfl (by omega) _ rfl) rfl (by first | rfl | simp | omega) (HO.out.alloc _) (by simp; show 1 + L.length ≤ 2199023255552; omega) (by simp; omega) ?_); intro a5 c5 w5 L5 Hl5 ho5 hb5 hk5 hA5; have HA5 := hid hA5; clear hA5; have Ho5 := hid ho5; clear ho5; have Hk5 := hid hk5; clear hk5; have hz5 := hb5.size))
      go_ret
      exact ⟨a5, c5, L5, rfl, by rw [Hl5.out, HL.out]; rfl, Ho5.out, (((Kpt.of bV).tr Hk1.out).alloc _).bel hb5 (Nat.le_refl _)⟩
end Go.Proofs.YtefgjicegbhcaaaGreat
