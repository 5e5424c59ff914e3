/- Programs in memory: slices of instructions (api.Inst), the variable that holds one (Pg), what a call on it leaves (Fr). The program's smallest methods: full, add. The program's methods save, split, aim. The trees of a list (parts), in memory. A set copied (slices.Clone). -/
import Derived.Test.YtefgjicegbhcaaaGreatRxi
import Derived.Test.YtefgjicegbhcaaaGreatInts
import Derived.Test.YtefgjicegbhcaaaGreatCpA
import Derived.Deep.RegionHeld3
import Derived.Deep.RegionLaw
import Derived.BigQuiet
import Derived.Deep.CutBlock
import Derived.Deep.DeepCutAuto
import Derived.Lib.SliceRun
namespace Go.Proofs.YtefgjicegbhcaaaGreat
open Go.RowKit ReM

/-- an instruction in memory -/
structure Im where
  op : Int
  x : Int
  y : Int
  not : Bool
  sa : Option Addr
  set : List Int
  sc : Nat
instance : Inhabited Im := ⟨⟨0, 0, 0, false, none, [], 0⟩⟩
def Im.ins (m : Im) : Ins := ⟨m.op, m.x, m.y, m.not, m.set⟩
abbrev Skey := Option Addr × List Int × Nat
def Im.key (m : Im) : Skey := (m.sa, m.set, m.sc)
def inss (l : List Im) : List Ins := l.map Im.ins
theorem inss_len (l : List Im) : (inss l).length = l.length := by simp [inss]
theorem inss_app (l r : List Im) : inss (l ++ r) = inss l ++ inss r := by simp [inss]
theorem inss_set (l : List Im) (i : Nat) (x : Im) : inss (l.set i x) = (inss l).set i x.ins := by simp [inss, List.map_set]
theorem igt_inss {l : List Im} {i : Nat} (h : i < l.length) : igt (inss l) i = (rgt l i).ins := by
  unfold igt inss
  rw [List.getD_eq_getElem?_getD, List.getElem?_map, List.getElem?_eq_getElem h, rgt_get h]
  rfl
def encIn : Enc Im where
  k := 5
  v := fun m => [.int .i64 m.op, .int .i64 m.x, .int .i64 m.y, .bool m.not, .slice m.sa m.set.length m.sc]
  cap := 2199023255552
  pos := by decide
  len := fun _ => rfl
  one := fun x u h => by simp at h; rcases h with rfl | rfl | rfl | rfl | rfl <;> rfl
theorem rec_in {w : World} {b o : Nat} {m : Im} (h : Rec1 encIn w b o m) :
    w.cell? ⟨b, o, none⟩ = some (.int .i64 m.op) ∧ w.cell? ⟨b, o + 1, none⟩ = some (.int .i64 m.x) ∧ w.cell? ⟨b, o + 2, none⟩ = some (.int .i64 m.y) ∧ w.cell? ⟨b, o + 3, none⟩ = some (.bool m.not) ∧ w.cell? ⟨b, o + 4, none⟩ = some (.slice m.sa m.set.length m.sc) :=
  ⟨h 0 _ rfl, h 1 _ rfl, h 2 _ rfl, h 3 _ rfl, h 4 _ rfl⟩
theorem Tryz.infoIn : (Tryz.prog.info? 121).map (fun i => (i.zero, i.size, i.bytes)) = some (some (.agg #[.int .i64 0, .int .i64 0, .int .i64 0, .bool false, .slice none 0 0]), 5, 56) := by kernel_rfl
theorem Tryz.elemIn : Tryz.prog.underlying 63 = some (.slice (Tryz.prog.elem 63)) := by kernel_rfl
theorem Tryz.sizeIn (w : World) : (sizeOf (Tryz.prog.elem 63)).run Tryz.prog w = .ok 5 w := by kernel_rfl
theorem Tryz.tyIn : Ty Tryz.prog encIn 63 121 where
  und := Tryz.underlying63
  info := ⟨_, _, Tryz.infoIn, rfl, by decide⟩
  elem := Tryz.elemIn
  size := Tryz.sizeIn
  max := by decide
/-- the sets of instructions: each owned, no two in one block -/
structure Stk (base : Nat) (w : World) (K : List Skey) : Prop where
  own : ∀ q, q ∈ K → Own w base q.1 q.2.2 q.2.1
  apart : K.Pairwise fun q q' => ∀ k, Blk q.1 k → ¬ Blk q'.1 k
theorem Stk.nil (base : Nat) (w : World) : Stk base w [] := ⟨(fun m hm => by cases hm), List.Pairwise.nil⟩
theorem Stk.same {base : Nat} {w w' : World} {K : List Skey} (h : Stk base w K) (hb : ∀ q, q ∈ K → ∀ k, Blk q.1 k → k < w.heap.size → w'.heap[k]? = w.heap[k]?) : Stk base w' K :=
  ⟨fun q hq => (h.own q hq).same fun ad ha hl => hb q hq _ ⟨ad, ha, rfl⟩ hl, h.apart⟩
theorem Stk.bel {base : Nat} {w w' : World} {K : List Skey} (h : Stk base w K) (hb : Below w.heap.size w w') : Stk base w' K := h.same fun _ _ j _ hl => hb.block j hl
theorem Stk.lt {base : Nat} {w : World} {K : List Skey} (h : Stk base w K) {q : Skey} (hq : q ∈ K) {k : Nat} (hk : Blk q.1 k) : base ≤ k ∧ k < w.heap.size := (h.own q hq).1.lt k (by obtain ⟨ad, ha, rfl⟩ := hk; rw [ha]; rfl)
theorem Stk.snoc {base : Nat} {w : World} {K : List Skey} (h : Stk base w K) {a : Option Addr} {s : List Int} {c : Nat} (ho : Own w base a c s) (hn : ∀ q, q ∈ K → ∀ k, Blk q.1 k → ¬ Blk a k) : Stk base w (K ++ [(a, s, c)]) := by
  refine ⟨fun q hq => ?_, ?_⟩
  · rcases List.mem_append.1 hq with hq | hq
    · exact h.own q hq
    · rw [List.mem_singleton.1 hq]; exact ho
  · rw [List.pairwise_append]
    exact ⟨h.apart, by simp, fun q hq q' hq' => by rw [List.mem_singleton.1 hq']; exact hn q hq⟩
theorem Stk.snoc0 {base : Nat} {w : World} {K : List Skey} (h : Stk base w K) : Stk base w (K ++ [(none, [], 0)]) := h.snoc (Own.nil _ _) fun _ _ _ _ hk => blk_none hk
/-- the program's variable, its list, its sets -/
structure Pg (B : Nat) (w : World) (r : Nat) (a : Option Addr) (c : Nat) (L : List Im) : Prop where
  c0 : w.cell? ⟨r, 0, none⟩ = some (.slice a L.length c)
  fz : w.frozen? ⟨r, 0, none⟩ = false
  own : ROwn encIn 121 w B a c L
  sets : Stk B w (L.map Im.key)
  rB : r < B
  Bw : B ≤ w.heap.size
theorem Pg.lt {B : Nat} {w : World} {r : Nat} {a : Option Addr} {c : Nat} {L : List Im} (h : Pg B w r a c L) : r < w.heap.size := Nat.lt_of_lt_of_le h.rB h.Bw
/-- in a world that has its blocks as they were -/
theorem Pg.same {B : Nat} {w w' : World} {r : Nat} {a : Option Addr} {c : Nat} {L : List Im} (h : Pg B w r a c L) (hs : w.heap.size ≤ w'.heap.size)
    (hb : ∀ k, k < w.heap.size → (k = r ∨ Blk a k ∨ ∃ q, q ∈ L.map Im.key ∧ Blk q.1 k) → w'.heap[k]? = w.heap[k]?) : Pg B w' r a c L := by
  have hr := hb r h.lt (.inl rfl)
  refine ⟨?_, ?_, h.own.same fun ad ha hl => hb _ hl (.inr (.inl ⟨ad, ha, rfl⟩)), h.sets.same fun q hq k hk hl => hb k hl (.inr (.inr ⟨q, hq, hk⟩)), h.rB, Nat.le_trans h.Bw hs⟩
  · rw [World.cell?_of_block (w := w) (w' := w') (a := ⟨r, 0, none⟩) hr]; exact h.c0
  · rw [World.frozen?_of_block (w := w) (w' := w') (a := ⟨r, 0, none⟩) hr]; exact h.fz
theorem Pg.bel {B : Nat} {w w' : World} {r : Nat} {a : Option Addr} {c : Nat} {L : List Im} (h : Pg B w r a c L) (hb : Below w.heap.size w w') : Pg B w' r a c L := h.same hb.size fun k hl _ => hb.block k hl
/-- beside a list of other things that turns -/
theorem Pg.beside {B : Nat} {w w' : World} {r : Nat} {a : Option Addr} {c : Nat} {L : List Im} (h : Pg B w r a c L) {b2 s : Nat} {e : TypeId} {aj : Option Addr} {n cj : Nat} {xs : List Value}
    (ho : w.ownsRow b2 e s (.slice aj n cj) n xs) (hB : B ≤ b2) (he : e ≠ 121) (he2 : e ≠ 21) (k : Kpt (Blk aj) w w') : Pg B w' r a c L :=
  h.same k.size fun j hl hj => k.block j hl fun hb => by
    have hj2 := ho.lt j (by obtain ⟨ad, ha, hb⟩ := hb; rw [ha, ← hb]; rfl)
    rcases hj with rfl | ⟨ad, ha, rfl⟩ | ⟨q, hq, ad, ha, rfl⟩
    · have := h.rB; omega
    · obtain ⟨ae, he', hb⟩ := hb
      exact own_types ho h.own.1 he (k := ad.block) (by rw [he', ← hb]; rfl) (by rw [ha]; rfl)
    · obtain ⟨ae, he', hb⟩ := hb
      exact own_types ho (h.sets.own q hq).1 he2 (k := ad.block) (by rw [he', ← hb]; rfl) (by rw [ha]; rfl)
/-! ## what a call on the program leaves -/
structure Fr (r : Nat) (w w' : World) (a a' : Option Addr) : Prop where
  kpt : Kpt (fun k => k = r ∨ Blk a k) w w'
  loc : At w a a'
theorem at_self (w : World) (a : Option Addr) : At w a a := fun ad h => .inl ⟨ad, h, rfl⟩
theorem Fr.of {r : Nat} {w w' : World} {a : Option Addr} (h : Below w.heap.size w w') : Fr r w w' a a := ⟨Kpt.of h, at_self _ _⟩
theorem Fr.refl (r : Nat) (w : World) (a : Option Addr) : Fr r w w a a := Fr.of (Below.refl _ _)
theorem Fr.tr {r : Nat} {w w1 w2 : World} {a a1 a2 : Option Addr} (h : Fr r w w1 a a1) (k : Fr r w1 w2 a1 a2) : Fr r w w2 a a2 := by
  have hA : ∀ j, Blk a1 j → Blk a j ∨ w.heap.size ≤ j := fun j ⟨ad, ha, e⟩ => by rw [← e]; exact h.loc ad ha
  refine ⟨⟨k.kpt.os.trans h.kpt.os, k.kpt.tape.trans h.kpt.tape, k.kpt.output.trans h.kpt.output, Nat.le_trans h.kpt.size k.kpt.size, fun j hl hn => ?_⟩, fun ad ha => ?_⟩
  · have h1 := h.kpt.block j hl hn
    rw [← h1]
    refine k.kpt.block j (Nat.lt_of_lt_of_le hl h.kpt.size) fun hc => ?_
    rcases hc with hc | hc
    · exact hn (.inl hc)
    · rcases hA j hc with hc | hc
      · exact hn (.inr hc)
      · omega
  · rcases k.loc ad ha with hc | hc
    · rcases hA _ hc with hc | hc
      · exact .inl hc
      · exact .inr hc
    · exact .inr (Nat.le_trans h.kpt.size hc)
theorem Fr.bel {r : Nat} {w w1 w2 : World} {a a1 : Option Addr} (h : Fr r w w1 a a1) (k : Below w1.heap.size w1 w2) : Fr r w w2 a a1 := h.tr (Fr.of k)
theorem Fr.size {r : Nat} {w w' : World} {a a' : Option Addr} (h : Fr r w w' a a') : w.heap.size ≤ w'.heap.size := h.kpt.size
/-- a block that is none of the program's -/
structure Np (w : World) (r : Nat) (a : Option Addr) (k : Nat) : Prop where
  lt : k < w.heap.size
  ne : k ≠ r
  off : ¬ Blk a k
theorem Np.fr {w w' : World} {r : Nat} {a a' : Option Addr} {k : Nat} (h : Np w r a k) (f : Fr r w w' a a') : Np w' r a' k :=
  ⟨Nat.lt_of_lt_of_le h.lt f.size, h.ne, fun ⟨ad, ha, e⟩ => by
    rcases f.loc ad ha with hc | hc
    · rw [e] at hc; exact h.off hc
    · have := h.lt; omega⟩
theorem Np.same {w w' : World} {r : Nat} {a a' : Option Addr} {k : Nat} (h : Np w r a k) (f : Fr r w w' a a') : w'.heap[k]? = w.heap[k]? :=
  f.kpt.block k h.lt fun hc => by
    rcases hc with hc | hc
    · exact h.ne hc
    · exact h.off hc
/-- what lies at B or later and is of another kind -/
theorem Pg.other {B : Nat} {w : World} {r : Nat} {a : Option Addr} {c : Nat} {L : List Im} (h : Pg B w r a c L) {b2 s : Nat} {e : TypeId} {v : Value} {n : Nat} {xs : List Value}
    (ho : w.ownsRow b2 e s v n xs) (hB : B ≤ b2) (he : e ≠ 121) {k : Nat} (hk : v.ownBlock = some k) : Np w r a k := by
  have hj := ho.lt k hk
  refine ⟨hj.2, by have := h.rB; omega, fun ⟨ad, ha, e'⟩ => own_types ho h.own.1 he (k := k) hk (by rw [ha, ← e']; rfl)⟩
/-- what lies ahead of B, or is new -/
theorem Pg.ahead {B : Nat} {w : World} {r : Nat} {a : Option Addr} {c : Nat} {L : List Im} (h : Pg B w r a c L) {k : Nat} (hk : k < B) (hr : k ≠ r) : Np w r a k :=
  ⟨Nat.lt_of_lt_of_le hk h.Bw, hr, fun hb => by have := (h.own.lt hb).1; omega⟩
theorem NdC.fr {w w' : World} {R : Nat} {k d lo hi : Int} {z n : Bool} {s : Value} (h : NdC w R k d lo hi z n s) {r : Nat} {a a' : Option Addr} (f : Fr r w w' a a') (hn : Np w r a R) : NdC w' R k d lo hi z n s := h.same (hn.same f)
/-! ## an instruction turned -/
theorem igt_set {l : List Im} {i : Nat} {x : Im} (h : i < l.length) : rgt (l.set i x) i = x := by
  unfold rgt; rw [List.getD_eq_getElem?_getD, List.getElem?_set_self h]; rfl
theorem key_set {l : List Im} {i : Nat} (h : i < l.length) {x : Im} (hx : x.key = (rgt l i).key) : (l.set i x).map Im.key = l.map Im.key := by
  rw [List.map_set, hx, rgt_get h, ← List.getElem_map Im.key (h := by simpa using h)]
  exact List.set_getElem_self _
/-- a cell of an instruction written -/
theorem Pg.put {B : Nat} {w : World} {r g c : Nat} {L : List Im} (h : Pg B w r (some ⟨g, 0, none⟩) c L) {i j : Nat} {x : Im} {u : Value} (hi : i < L.length) (hj : j < 5)
    (hx : encIn.v x = (encIn.v (rgt L i)).set j u) (hk : x.key = (rgt L i).key) : Pg B (w.setCell ⟨g, i * 5 + j, none⟩ u) r (some ⟨g, 0, none⟩) c (L.set i x) := by
  have hg := h.own.lt (k := g) ⟨_, rfl, rfl⟩
  have hr := h.rB
  have e : ∀ k, k ≠ g → (w.setCell ⟨g, i * 5 + j, none⟩ u).heap[k]? = w.heap[k]? := fun k hk => Below.heap_setCell _ _ _ _ (fun e => hk e)
  refine ⟨?_, ?_, h.own.stored i j x u hi hj hx, ?_, hr, by simpa using h.Bw⟩
  · rw [List.length_set, World.cell?_of_block (w := w) (a := ⟨r, 0, none⟩) (e r (by omega))]; exact h.c0
  · rw [World.frozen?_of_block (w := w) (a := ⟨r, 0, none⟩) (e r (by omega))]; exact h.fz
  · rw [key_set hi hk]
    refine h.sets.same fun q hq k hk hl => e k fun hkg => ?_
    subst hkg
    obtain ⟨ad, ha, rfl⟩ := hk
    exact own_types h.own.1 (h.sets.own q hq).1 (by decide) (k := ad.block) rfl (by rw [ha]; rfl)
theorem Fr.put {r g o : Nat} {w w' : World} {a a' : Option Addr} (h : Fr r w w' a a') (ha : a' = some ⟨g, 0, none⟩) (u : Value) : Fr r w (w'.setCell ⟨g, o, none⟩ u) a a' :=
  h.tr ⟨Kpt.setCell (Kpt.refl _ _) (p := ⟨g, o, none⟩) (.inr ⟨_, ha, rfl⟩) _, at_self _ _⟩
end Go.Proofs.YtefgjicegbhcaaaGreat
namespace Go.Proofs.YtefgjicegbhcaaaGreat
open Go.RowKit ReM

/-- what a call on the program leaves: the list that o reads as -/
def PgP (B r : Nat) (w : World) (a : Option Addr) (o : List Ins) (v : Value) (e' : Ending) (w' : World) : Prop :=
  ∃ a' c' L', e' = .returned v ∧ Pg B w' r a' c' L' ∧ Hid (inss L' = o) ∧ Fr r w w' a a'
set_option maxHeartbeats 8000000 in
theorem full_c (B : Nat) (w : World) (r : Nat) (a : Option Addr) (c : Nat) (L : List Im) (h : Pg B w r a c L) :
    Calls Tryz.prog 69 #[.pointer (some ⟨r, 0, none⟩)] w fun e' w' => e' = .returned (.bool (decide ((300 : Int) < (L.length : Int)))) ∧ Below w.heap.size w w' := by
  have c0 := h.c0
  go_enter Tryz.func69, Tryz.ntmps69
  go_wp2
  go_ret
  exact ⟨rfl, by (repeat' (first | exact Below.refl _ _ | assumption | refine bdrewN ?_ _ | refine Below.drew ?_ | refine Below.setCell ?_ (Nat.le_refl _) _ | refine bal ?_ _ | refine bthen ?_ (by assumption)))⟩
theorem Pg.appended {B : Nat} {V w1 : World} {r : Nat} {a a1 : Option Addr} {c c1 : Nat} {L L1 : List Im} {K : List Skey} (h : Pg B V r a c L) (hs : Stk B V K) (hK : K = L1.map Im.key)
    (ho : ROwn encIn 121 w1 B a1 c1 L1) (k : Kpt (Blk a) V w1) (hat : At V a a1) : Pg B (w1.setCell ⟨r, 0, none⟩ (.slice a1 L1.length c1)) r a1 c1 L1 ∧ Fr r V (w1.setCell ⟨r, 0, none⟩ (.slice a1 L1.length c1)) a a1 := by
  have hr := h.rB
  have hB := h.Bw
  have nb : ¬ Blk a r := fun hb => by have := (h.own.lt hb).1; omega
  have e : ∀ j, j ≠ r → (w1.setCell ⟨r, 0, none⟩ (.slice a1 L1.length c1)).heap[j]? = w1.heap[j]? := fun j hj => Below.heap_setCell _ _ _ _ (fun e => hj e)
  have hc : w1.cell? ⟨r, 0, none⟩ = some (.slice a L.length c) := k.cell h.c0 nb
  have hz := k.size
  refine ⟨⟨by rw [World.cell?_setCell_same (h := hc)], by rw [World.frozen?_setCell, k.frozen (by show r < _; omega) nb]; exact h.fz, ho.same fun ad ha hl => e _ ?_, ?_, hr, by simp; omega⟩, ⟨?_, hat⟩⟩
  · have := (ho.lt (k := ad.block) ⟨ad, ha, rfl⟩).1; omega
  · rw [← hK]
    refine hs.same fun q hq j hj hl => ?_
    have hj2 := (hs.lt hq hj).1
    rw [e j (by omega)]
    exact k.block j hl fun hb => by
      obtain ⟨ad, ha, rfl⟩ := hj
      obtain ⟨ae, he, hb⟩ := hb
      exact own_types h.own.1 (hs.own q hq).1 (by decide) (k := ad.block) (by rw [he, ← hb]; rfl) (by rw [ha]; rfl)
  · exact Kpt.setCell (k.mono fun j hj => .inr hj) (p := ⟨r, 0, none⟩) (.inl rfl) _
set_option maxHeartbeats 16000000 in
theorem add_c (B : Nat) (w : World) (r : Nat) (a : Option Addr) (c : Nat) (L : List Im) (h : Pg B w r a c L) (m : Im) (hl : L.length ≤ 1000000000) (hm : Stk B w ((L ++ [m]).map Im.key)) :
    Calls Tryz.prog 68 #[.pointer (some ⟨r, 0, none⟩), .agg #[.int .i64 m.op, .int .i64 m.x, .int .i64 m.y, .bool m.not, .slice m.sa m.set.length m.sc]] w fun e' w' => ∃ a' c' L', e' = .returned (.int .i64 L.length) ∧ Pg B w' r a' c' L' ∧ Hid (L' = L ++ [m]) ∧ Fr r w w' a a' := by
  obtain ⟨V, hV⟩ : ∃ V, V = w.alloc (.cells #[.int .i64 m.op, .int .i64 m.x, .int .i64 m.y, .bool m.not, .slice m.sa m.set.length m.sc] 121) := ⟨_, rfl⟩
  have bV : Below w.heap.size w V := by subst hV; (repeat' (first | exact Below.refl _ _ | assumption | refine bdrewN ?_ _ | refine Below.drew ?_ | refine bal ?_ _ | refine bthen ?_ (by assumption)))
  have zV : V.heap.size = w.heap.size + 1 := by subst hV; simp
  have h1 := h.bel bV
  have hc : ∀ j, V.cell? ⟨w.heap.size, j, none⟩ = #[Value.int .i64 m.op, .int .i64 m.x, .int .i64 m.y, .bool m.not, .slice m.sa m.set.length m.sc][j]? := fun j => by subst hV; rw [cell_alloc_new]
  have d0 := hc 0
  have d1 := hc 1
  have d2 := hc 2
  have d3 := hc 3
  have d4 := hc 4
  simp at d0 d1 d2 d3 d4
  have H1 := hid h1
  have HS := hid (hm.bel bV)
  have c0 := h1.c0
  have fz := h1.fz
  have BV := hid bV
  have hrl := h.lt
  have hrn : r ≠ w.heap.size := by omega
  have nb : ¬ Blk a r := fun hb => by have := (h1.own.lt hb).1; have := h1.rB; omega
  have nb2 : ¬ Blk a w.heap.size := fun hb => by have := (h.own.lt hb).2; omega
  have KN := hid (fun w' (k : Kpt (Blk a) V w') => show w'.cell? ⟨r, 0, none⟩ = some (.slice a L.length c) ∧ w'.frozen? ⟨r, 0, none⟩ = false ∧ w'.cell? ⟨w.heap.size, 0, none⟩ = some (.int .i64 m.op) ∧ w'.cell? ⟨w.heap.size, 1, none⟩ = some (.int .i64 m.x) ∧ w'.cell? ⟨w.heap.size, 2, none⟩ = some (.int .i64 m.y) ∧ w'.cell? ⟨w.heap.size, 3, none⟩ = some (.bool m.not) ∧ w'.cell? ⟨w.heap.size, 4, none⟩ = some (.slice m.sa m.set.length m.sc) from
    ⟨k.cell c0 nb, by rw [k.frozen (by show r < _; omega) nb]; exact fz, k.cell d0 nb2, k.cell d1 nb2, k.cell d2 nb2, k.cell d3 nb2, k.cell d4 nb2⟩)
  have HBw : B ≤ V.heap.size := h1.Bw
  clear h h1 hm hc bV nb nb2
  go_enter Tryz.func68, Tryz.ntmps68
  go_upto_region 1 with fail
  rw [← hV]; clear hV
  go_region_law
    (first | ((go_loud (refine step_rapp Tryz.tyIn rfl (.tmp 9) (.tmp 11) rfl B a (some ⟨w.heap.size + 1, 0, none⟩) L.length 1 c 1 L [m] rfl (by first | rfl | simp | omega) (H1.out.own.grow (by (repeat' (first | exact Below.refl _ _ | assumption | refine bdrewN ?_ _ | refine Below.drew ?_ | refine bal ?_ _ | refine bthen ?_ (by assumption))))) rfl (by first | rfl | simp | omega) (RSl.lit (E := encIn) V m 121 (w.heap.size + 1) zV.symm #[.int .i64 m.op, .int .i64 m.x, .int .i64 m.y, .bool m.not, .slice m.sa m.set.length m.sc] rfl (by decide)).drew (by show _ ≤ 2199023255552; simp; omega) (by simp; omega) ?_); intro a1 c1 w1 L1 Hl1 ho1 hb1 hk1 hA1; have HA1 := hid hA1; clear hA1; have Ho1 := hid ho1; clear ho1; have Hk1 := hid hk1; clear hk1; have hz1 := hb1.size); have kx : Kpt (Blk a) V w1 := Kpt.tr (by (repeat' (first | exact Kpt.refl _ _ | assumption | refine Kpt.drew ?_ | refine Kpt.alloc ?_ _))) Hk1.out; have kk := KN.out _ kx; obtain ⟨e0, e1, -, -, -, -, -⟩ := kk) | fail)
  all_goals
    obtain ⟨P2, F2⟩ := H1.out.appended HS.out (by rw [Hl1.out]) Ho1.out kx (fun ad ha => by
      rcases HA1.out ad ha with hc | hc
      · exact .inl hc
      · exact .inr (by simp at hc; omega))
    have hL1 : (L1.length : Int) = (L.length : Int) + 1 := by rw [Hl1.out]; simp
    have hwr : IntKind.i64.wrap ((L1.length : Int) - 1) = (L.length : Int) := by rw [IntKind.wrap_i64]; omega
    obtain ⟨w2, hw2⟩ : ∃ w2, w2 = w1.setCell ⟨r, 0, none⟩ (.slice a1 L1.length c1) := ⟨_, rfl⟩
    rw [← hw2] at P2 F2 ⊢
    have y0 := P2.c0
    have HL1 := hid hL1
    have HP := hid P2
    have HF := hid F2
    have HLL := hid Hl1.out
    clear hw2 hL1 P2 F2 e0 e1 kx Hl1 HA1 Hk1 Ho1 KN d0 d1 d2 d3 d4 c0 fz
    go_wp2_with fail
    go_ret
    exact ⟨a1, c1, L1, rfl, HP.out.bel (by (repeat' (first | exact Below.refl _ _ | assumption | refine bdrewN ?_ _ | refine Below.drew ?_ | refine Below.setCell ?_ (Nat.le_refl _) _ | refine bal ?_ _ | refine bthen ?_ (by assumption)))), HLL.out, ((Fr.of BV.out).tr HF.out).bel (by (repeat' (first | exact Below.refl _ _ | assumption | refine bdrewN ?_ _ | refine Below.drew ?_ | refine Below.setCell ?_ (Nat.le_refl _) _ | refine bal ?_ _ | refine bthen ?_ (by assumption))))⟩
end Go.Proofs.YtefgjicegbhcaaaGreat
namespace Go.Proofs.YtefgjicegbhcaaaGreat
open Go.RowKit ReM

theorem add0_c (B : Nat) (w : World) (r : Nat) (a : Option Addr) (c : Nat) (L : List Im) (h : Pg B w r a c L) (hl : L.length ≤ 1000000000) (op x y : Int) :
    Calls Tryz.prog 68 #[.pointer (some ⟨r, 0, none⟩), .agg #[.int .i64 op, .int .i64 x, .int .i64 y, .bool false, .slice none 0 0]] w (PgP B r w a (inss L ++ [⟨op, x, y, false, []⟩]) (.int .i64 L.length)) := by
  refine (add_c B w r a c L h ⟨op, x, y, false, none, [], 0⟩ hl (by rw [List.map_append]; exact h.sets.snoc0)).mono ?_
  rintro e w' ⟨a', c', L', rfl, hp, hL, hf⟩
  exact ⟨a', c', L', rfl, hp, by rw [hL.out, inss_app]; exact hid rfl, hf⟩
set_option maxHeartbeats 8000000 in
theorem save_c (B : Nat) (w : World) (r : Nat) (a : Option Addr) (c : Nat) (L : List Im) (h : Pg B w r a c L) (hl : L.length ≤ 1000000000) (x : Int) :
    Calls Tryz.prog 66 #[.pointer (some ⟨r, 0, none⟩), .int .i64 x] w (PgP B r w a (inss L ++ [iSave x]) (.tuple #[])) := by
  have C := hid (add0_c B w r a c L h hl 3 x 0)
  go_enter Tryz.func66, Tryz.ntmps66
  go_wp2_with fail
  refine C.out.mono ?_
  rintro e w' ⟨a', c', L', rfl, hp, hL, hf⟩
  have HP := hid hp
  have HF := hid hf
  clear hp hf h C
  go_wp2_with fail
  go_end0
  exact ⟨a', c', L', rfl, HP.out, hL, HF.out⟩
set_option maxHeartbeats 8000000 in
theorem split_c (B : Nat) (w : World) (r : Nat) (a : Option Addr) (c : Nat) (L : List Im) (h : Pg B w r a c L) (hl : L.length ≤ 1000000000) :
    Calls Tryz.prog 123 #[.pointer (some ⟨r, 0, none⟩)] w (PgP B r w a (inss L ++ [iSplit 0 0]) (.int .i64 L.length)) := by
  have C := hid (add0_c B w r a c L h hl 4 0 0)
  go_enter Tryz.func123, Tryz.ntmps123
  go_wp2_with fail
  refine C.out.mono ?_
  rintro e w' ⟨a', c', L', rfl, hp, hL, hf⟩
  have HP := hid hp
  have HF := hid hf
  clear hp hf h C
  go_wp2_with fail
  go_ret
  exact ⟨a', c', L', rfl, HP.out, hL, HF.out⟩
theorem Pg.addr {B : Nat} {w : World} {r : Nat} {a : Option Addr} {c : Nat} {L : List Im} (h : Pg B w r a c L) {i : Nat} (hi : i < L.length) : ∃ g, a = some ⟨g, 0, none⟩ := by
  rcases h.own.shape with ⟨_, _, h0⟩ | ⟨g, h0, _⟩
  · rw [h0] at hi; simp at hi
  · exact ⟨g, h0⟩
set_option maxHeartbeats 16000000 in
theorem aim_c (B : Nat) (w : World) (r : Nat) (a : Option Addr) (c : Nat) (L : List Im) (h : Pg B w r a c L) (hl : L.length ≤ 1000000000) (i : Nat) (hi : i < L.length) (z : Bool) :
    Calls Tryz.prog 124 #[.pointer (some ⟨r, 0, none⟩), .int .i64 i, .bool z] w (PgP B r w a (aimE (inss L) i z) (.tuple #[])) := by
  obtain ⟨g, rfl⟩ := h.addr hi
  have hrl := h.lt
  have hgl := (h.own.lt (k := g) ⟨_, rfl, rfl⟩).2
  have hgr : g ≠ r := fun e => by have := (h.own.lt (k := g) ⟨_, rfl, rfl⟩).1; have := h.rB; omega
  have r0 := rec_in (h.own.at (i := i) hi)
  obtain ⟨r0, r1, r2, r3, r4⟩ := r0
  change w.cell? ⟨g, i * 5, none⟩ = _ at r0
  change w.cell? ⟨g, i * 5 + 1, none⟩ = _ at r1
  change w.cell? ⟨g, i * 5 + 2, none⟩ = _ at r2
  have f1 := h.own.free (i * 5 + 1)
  have f2 := h.own.free (i * 5 + 2)
  have c0 := h.c0
  have hz : (i : Int) < (L.length : Int) := by omega
  have hw : IntKind.i64.wrap ((i : Int) + 1) = (i : Int) + 1 := by rw [IntKind.wrap_i64]; omega
  have s1 := h.put (i := i) (j := 1) (x := { rgt L i with x := (i : Int) + 1 }) (u := .int .i64 ((i : Int) + 1)) hi (by decide) rfl rfl
  have hi1 : i < (L.set i { rgt L i with x := (i : Int) + 1 }).length := by simpa using hi
  have s2 := s1.put (i := i) (j := 2) (x := { rgt L i with x := (i : Int) + 1, y := (L.length : Int) }) (u := .int .i64 (L.length : Int)) hi1 (by decide) (by rw [igt_set hi]; rfl) (by rw [igt_set hi]; rfl)
  rw [List.set_set] at s2
  have F2 := hid (((Fr.refl r w (some ⟨g, 0, none⟩)).put rfl (o := i * 5 + 1) (.int .i64 ((i : Int) + 1))).put rfl (o := i * 5 + 2) (.int .i64 (L.length : Int)))
  have S2 := hid s2
  have HI := hid (igt_inss hi)
  clear h s1 s2 hi1 r3 r4 r0
  go_enter Tryz.func124, Tryz.ntmps124
  go_upto_region 3 with fail
  · obtain ⟨V, hV⟩ : ∃ V, V = (w.setCell ⟨g, i * 5 + 1, none⟩ (.int .i64 ((i : Int) + 1))).setCell ⟨g, i * 5 + 2, none⟩ (.int .i64 (L.length : Int)) := ⟨_, rfl⟩
    rw [← hV] at F2 S2 ⊢
    have hi2 : i < (L.set i { rgt L i with x := (i : Int) + 1, y := (L.length : Int) }).length := by simpa using hi
    have q0 := rec_in (S2.out.own.at (i := i) hi2)
    rw [igt_set hi] at q0
    obtain ⟨-, q1, q2, -, -⟩ := q0
    change V.cell? ⟨g, i * 5 + 1, none⟩ = _ at q1
    change V.cell? ⟨g, i * 5 + 2, none⟩ = _ at q2
    have e1 := S2.out.own.free (i * 5 + 1)
    have e2 := S2.out.own.free (i * 5 + 2)
    have s3 := S2.out.put (i := i) (j := 1) (x := { rgt L i with x := (L.length : Int), y := (L.length : Int) }) (u := .int .i64 (L.length : Int)) hi2 (by decide) (by rw [igt_set hi]; rfl) (by rw [igt_set hi]; rfl)
    rw [List.set_set] at s3
    have hi3 : i < (L.set i { rgt L i with x := (L.length : Int), y := (L.length : Int) }).length := by simpa using hi
    have s4 := s3.put (i := i) (j := 2) (x := { rgt L i with x := (L.length : Int), y := (i : Int) + 1 }) (u := .int .i64 ((i : Int) + 1)) hi3 (by decide) (by rw [igt_set hi]; rfl) (by rw [igt_set hi]; rfl)
    rw [List.set_set] at s4
    have S4 := hid s4
    have F4 := hid ((F2.out.put rfl (o := i * 5 + 1) (.int .i64 (L.length : Int))).put rfl (o := i * 5 + 2) (.int .i64 ((i : Int) + 1)))
    clear hV s3 s4 hi2 hi3 r1 r2 f1 f2 c0
    obtain rfl : z = true := by assumption
    go_region
    all_goals
      go_end0
      refine ⟨some ⟨g, 0, none⟩, c, _, rfl, S4.out.bel (by (repeat' (first | exact Below.refl _ _ | assumption | refine bdrewN ?_ _ | refine Below.drew ?_ | refine Below.setCell ?_ (Nat.le_refl _) _ | refine bal ?_ _ | refine bthen ?_ (by assumption)))), ?_, F4.out.bel (by (repeat' (first | exact Below.refl _ _ | assumption | refine bdrewN ?_ _ | refine Below.drew ?_ | refine Below.setCell ?_ (Nat.le_refl _) _ | refine bal ?_ _ | refine bthen ?_ (by assumption))))⟩
      rw [inss_set]
      unfold aimE
      rw [HI.out, inss_len]
      exact hid rfl
  · go_end0
    refine ⟨some ⟨g, 0, none⟩, c, _, rfl, S2.out, ?_, F2.out⟩
    rw [inss_set]
    unfold aimE
    rw [HI.out, inss_len]
    exact hid rfl
end Go.Proofs.YtefgjicegbhcaaaGreat
namespace Go.Proofs.YtefgjicegbhcaaaGreat
open Go.RowKit ReM Go.ChangeShapes Go.WideShapes Go.ChangeAt

/-- one of them: a part of the list -/
structure Pt where
  a : Option Addr
  l : List Rm
  c : Nat
instance : Inhabited Pt := ⟨⟨none, [], 0⟩⟩
def encPt : Enc Pt where
  k := 1
  v := fun m => [.slice m.a m.l.length m.c]
  cap := 2199023255552
  pos := by decide
  len := fun _ => rfl
  one := fun x u h => by simp at h; subst h; rfl
theorem rec_pt {w : World} {b o : Nat} {m : Pt} (h : Rec1 encPt w b o m) : w.cell? ⟨b, o, none⟩ = some (.slice m.a m.l.length m.c) := h 0 _ rfl
theorem Tryz.infoPt : (Tryz.prog.info? 82).map (fun i => (i.zero, i.size, i.bytes)) = some (some (.slice none 0 0), 1, 24) := by kernel_rfl
theorem Tryz.elemPt : Tryz.prog.underlying 147 = some (.slice (Tryz.prog.elem 147)) := by kernel_rfl
theorem Tryz.sizePt (w : World) : (sizeOf (Tryz.prog.elem 147)).run Tryz.prog w = .ok 1 w := by kernel_rfl
theorem Tryz.tyPt : Ty Tryz.prog encPt 147 82 where
  und := Tryz.underlying147
  info := ⟨_, _, Tryz.infoPt, rfl, by decide⟩
  elem := Tryz.elemPt
  size := Tryz.sizePt
  max := by decide
/-! ### parts of a slice, and where they lie -/
theorem rslice_fromB {α : Type} {E : Enc α} {e : TypeId} {P : Program} {t : TypeId} (T : Ty P E t e) {w : World} {a : Option Addr} {l : List α} (h : RSl E w a l) (n c : Nat) (hn : n ≤ l.length) (hlc : l.length ≤ c) :
    ∃ a' c' D, Hid (D = l.drop n) ∧ RSl E w a' D ∧ D.length ≤ c' ∧ (∀ k, Blk a' k → Blk a k) ∧ ∀ w', (Instr.slice t (.slice a l.length c) (some (.int .i64 n)) none none).run P w' = .ok (.slice a' D.length c') w' := by
  have h1 := h.cut n l.length c hn (Nat.le_refl _) hlc
  rw [List.take_length] at h1
  refine ⟨_, c - n, _, rfl, h1, by simp; omega, ?_, fun w' => ?_⟩
  · intro k hk
    split at hk
    · exact hk
    · obtain ⟨ad, ha, rfl⟩ := hk
      cases a with
      | none => cases ha
      | some ad0 =>
        simp only [Option.map_some, Option.some.injEq] at ha
        subst ha
        exact ⟨ad0, rfl, by unfold Addr.add; split <;> rfl⟩
  · rw [run_slice_l _ _ _ _ _ T.elem .i64 n (by omega) (by have := h.len; have := T.max; omega)]
    simp [T.size, Result.andThen, sliced]
theorem rslice_toB {α : Type} {E : Enc α} {e : TypeId} {P : Program} {t : TypeId} (T : Ty P E t e) {w : World} {a : Option Addr} {l : List α} (h : RSl E w a l) (m c : Nat) (hm : m ≤ l.length) (hlc : l.length ≤ c) :
    ∃ a' c' D, Hid (D = l.take m) ∧ RSl E w a' D ∧ D.length ≤ c' ∧ (∀ k, Blk a' k → Blk a k) ∧ ∀ w', (Instr.slice t (.slice a l.length c) none (some (.int .i64 m)) none).run P w' = .ok (.slice a' D.length c') w' := by
  have h1 := h.cut 0 m c (by omega) hm hlc
  rw [List.drop_zero] at h1
  refine ⟨_, c, _, rfl, h1, by simp; omega, ?_, fun w' => ?_⟩
  · intro k hk
    split at hk
    · exact hk
    · obtain ⟨ad, ha, rfl⟩ := hk
      cases a with
      | none => cases ha
      | some ad0 =>
        simp only [Option.map_some, Option.some.injEq] at ha
        subst ha
        exact ⟨ad0, rfl, by unfold Addr.add; split <;> rfl⟩
  · rw [run_slice_h _ _ _ _ _ T.elem .i64 m (by omega) (by have := h.len; have := T.max; omega)]
    simp [T.size, Result.andThen, sliced, Nat.min_eq_left hm]
/-! ### the first tree of a list -/
theorem tw_of {α : Type} {f : α → Bool} {l : List α} {n : Nat} (h1 : ∀ i (hi : i < l.length), i < n → f l[i] = true) (h2 : ∀ (hn : n < l.length), f l[n] = false) : l.takeWhile f = l.take n ∧ l.dropWhile f = l.drop n := by
  induction l generalizing n with
  | nil => simp
  | cons x l ih =>
    cases n with
    | zero => have := h2 (by simp); simp at this; simp [this]
    | succ n =>
      have hx := h1 0 (by simp) (by omega)
      simp at hx
      obtain ⟨e1, e2⟩ := ih (n := n) (fun i hi hn => by have := h1 (i + 1) (by simpa using hi) (by omega); simpa using this) (fun hn => by have := h2 (by simpa using hn); simpa using this)
      simp [hx, e1, e2]
theorem parts_step {rem : List Rm} {n k : Nat} (h0 : 1 ≤ n) (hn : n ≤ rem.length) (h1 : ∀ i, 1 ≤ i → i < n → (rgt rem 0).deep < (rgt rem i).deep) (h2 : n < rem.length → ¬ (rgt rem 0).deep < (rgt rem n).deep) :
    partsF (k + 1) (rns rem) = rns (rem.take n) :: partsF k (rns (rem.drop n)) := by
  cases rem with
  | nil => simp at hn; omega
  | cons x l =>
    obtain ⟨n, rfl⟩ : ∃ m, n = m + 1 := ⟨n - 1, by omega⟩
    have g0 : rgt (x :: l) 0 = x := rfl
    have gs : ∀ i (hi : i < l.length), rgt (x :: l) (i + 1) = l[i] := fun i hi => by rw [rgt_get (by simpa using hi)]; simp
    rw [g0] at h1 h2
    have tw := tw_of (f := dpr x.rn) (l := rns l) (n := n) (fun i hi hin => by
      have hi' : i < l.length := by simpa [rns] using hi
      have := h1 (i + 1) (by omega) (by omega)
      rw [gs i hi'] at this
      simpa [dpr, rns, Rm.rn] using this) (fun hn' => by
      have hn2 : n < l.length := by simpa [rns] using hn'
      have := h2 (by simpa using hn2)
      rw [gs n hn2] at this
      simpa [dpr, rns, Rm.rn] using this)
    show (x.rn :: (rns l).takeWhile (dpr x.rn)) :: partsF k ((rns l).dropWhile (dpr x.rn)) = _
    rw [tw.1, tw.2]
    simp [rns]
theorem partsF_nil (k : Nat) : partsF k [] = [] := by cases k <;> rfl
def PartsP (w : World) (a : Option Addr) (T : List Rm) (e' : Ending) (w' : World) : Prop :=
  ∃ a' c' S, e' = .returned (.slice a' S.length c') ∧ ROwn encPt 82 w' w.heap.size a' c' S ∧ Hid (S.map (fun q => rns q.l) = partsL (rns T)) ∧
    (∀ q, q ∈ S → RSl encRe w q.a q.l ∧ q.l.length ≤ q.c ∧ (∀ k, Blk q.a k → Blk a k) ∧ (∀ m, m ∈ q.l → m ∈ T)) ∧ Below w.heap.size w w'
set_option maxRecDepth 20000 in
set_option maxHeartbeats 16000000 in
theorem parts_c (a : Option Addr) (c : Nat) (T : List Rm) (w : World) (h : RSl encRe w a T) (hc : T.length ≤ c) (hl : T.length ≤ 100000) :
    Calls Tryz.prog 91 #[.slice a T.length c] w (PartsP w a T) := by
  have HT := hid h
  have HC := hid hc
  clear h hc
  go_enter Tryz.func91, Tryz.ntmps91
  go_wp2_with fail
  go_loopg [0, 3] T.length (fun g lv sv wr => ∃ ar cr rem az cz, ∃ S : List Pt, g = rem.length ∧ lv = .slice ar rem.length cr ∧ sv = .slice az S.length cz ∧ Hid (RSl encRe w ar rem) ∧ Hid (rem.length ≤ cr) ∧ rem.length ≤ T.length ∧ Hid (∀ k, Blk ar k → Blk a k) ∧ Hid (∀ m, m ∈ rem → m ∈ T) ∧
    Hid (ROwn encPt 82 wr w.heap.size az cz S) ∧ Hid (∀ q, q ∈ S → RSl encRe w q.a q.l ∧ q.l.length ≤ q.c ∧ (∀ k, Blk q.a k → Blk a k) ∧ (∀ m, m ∈ q.l → m ∈ T)) ∧ S.length + rem.length ≤ T.length ∧
    Hid (∃ k, rem.length ≤ k ∧ S.map (fun q => rns q.l) ++ partsF k (rns rem) = partsL (rns T)) ∧ Below w.heap.size w wr)
  case atStart => exact ⟨a, c, T, none, 0, [], rfl, rfl, rfl, HT, HC, Nat.le_refl _, hid (fun _ h => h), hid (fun _ h => h), hid (ROwn.nil _ _), hid (fun q h => by cases h), by simp, hid ⟨_, by rw [rns_len]; exact Nat.le_refl _, rfl⟩, by (repeat' (first | exact Below.refl _ _ | assumption | refine bdrewN ?_ _ | refine Below.drew ?_ | refine Below.setCell ?_ (Nat.le_refl _) _ | refine bal ?_ _ | refine bthen ?_ (by assumption)))⟩
  case round =>
    obtain ⟨ar, cr, rem, az, cz, S, rfl, rfl, rfl, Hr, Hcr, hrt, Hb, Hm, Ho, Hg, hsl, Hp, hb⟩ := hrel
    by_cases hz : 0 < rem.length
    · have zr : (0 : Int) < (rem.length : Int) := by omega
      obtain ⟨w1, hw1⟩ : ∃ w1, w1 = wr := ⟨_, rfl⟩
      subst hw1
      obtain ⟨bq, oq, rfl, hcq⟩ := Hr.out.at hz
      have HB := hid hb
      have HCq := hid (fun (w' : World) (hw : Below w.heap.size w w') (i : Nat) (hi : i < rem.length) => show w'.cell? ⟨bq, oq + i * 7 + 1, none⟩ = some (.int .i64 (rgt rem i).deep) from by
        have := (rec_re (hcq i hi)).2.1
        exact (hw.cell (World.block_lt_of_cell? w _ this)).trans this)
      clear hb hcq
      go_wp2_with fail
      go_loopw [4] (fun nv wx => ∃ n : Nat, nv = .int .i64 n ∧ 1 ≤ n ∧ n ≤ rem.length ∧ Hid (∀ i, 1 ≤ i → i < n → (rgt rem 0).deep < (rgt rem i).deep) ∧ Below w1.heap.size w1 wx) (fun nv _ => rem.length - (intOf nv).toNat)
      case atStart => exact ⟨1, rfl, by omega, by omega, hid (fun i h1 h2 => by omega), by (repeat' (first | exact Below.refl _ _ | assumption | refine bdrewN ?_ _ | refine Below.drew ?_ | refine Below.setCell ?_ (Nat.le_refl _) _ | refine bal ?_ _ | refine bthen ?_ (by assumption)))⟩
      case round =>
        obtain ⟨n, rfl, hn1, hn2, Hd, hbx⟩ := hrel
        have HBX := hid (HB.out.trans (hbx.mono HB.out.size))
        have Hbx := hid hbx
        clear hbx
        have c0 := HCq.out _ HBX.out 0 hz
        change World.cell? _ ⟨bq, oq + 1, none⟩ = _ at c0
        by_cases hlt : n < rem.length
        · have z1 : (n : Int) < (rem.length : Int) := by omega
          have z0 : (0 : Int) ≤ (n : Int) := by omega
          have c1 := HCq.out _ HBX.out n hlt
          obtain ⟨d0, hd0⟩ : ∃ d, d = (rgt rem 0).deep := ⟨_, rfl⟩
          obtain ⟨d1, hd1⟩ : ∃ d, d = (rgt rem n).deep := ⟨_, rfl⟩
          rw [← hd0] at c0
          rw [← hd1] at c1
          have D0 := hid hd0
          have D1 := hid hd1
          clear hd0 hd1
          by_cases hdd : d0 < d1
          · have b1 : decide (d0 < d1) = true := by simpa using hdd
            have w1' : IntKind.i64.wrap ((n : Int) + 1) = ((n + 1 : Nat) : Int) := by rw [IntKind.wrap_i64]; omega
            have bz : decide ((n : Int) < (rem.length : Int)) = true := by simpa using hlt
            go_upto_region 4 with fail
            go_quiet (fail)
            go_wp2_with fail
            exact ⟨⟨n + 1, by go_num, by omega, by omega, hid (fun i h1 h2 => by
              rcases Nat.lt_or_ge i n with hi | hi
              · exact Hd.out i h1 hi
              · obtain rfl : i = n := by omega
                rw [← D0.out, ← D1.out]; exact hdd), by have := Hbx.out; (repeat' (first | exact Below.refl _ _ | assumption | refine bdrewN ?_ _ | refine Below.drew ?_ | refine Below.setCell ?_ (Nat.le_refl _) _ | refine bal ?_ _ | refine bthen ?_ (by assumption)))⟩, by simp [intOf]; omega⟩
          · have b1 : decide (d0 < d1) = false := by simpa using hdd
            have bz : decide ((n : Int) < (rem.length : Int)) = true := by simpa using hlt
            have Hst := hid (fun k => parts_step (rem := rem) (n := n) (k := k) hn1 hn2 Hd.out (fun _ => by rw [← D0.out, ← D1.out]; exact hdd))
            obtain ⟨aE, cE, E, HE, sE, hcE, hbE, hrunE⟩ := rslice_toB Tryz.tyRe Hr.out n cr hn2 Hcr.out
            obtain ⟨aD, cD, D, HD, sD, hcD, hbD, hrunD⟩ := rslice_fromB Tryz.tyRe Hr.out n cr hn2 Hcr.out
            have i2 : (n : Int) ≤ (rem.length : Int) := by omega
            have HsE := hid sE
            have HsD := hid sD
            have HcE := hid hcE
            have HcD := hid hcD
            have HbE := hid hbE
            have HbD := hid hbD
            have bb := Hbx.out
            clear sE sD hcE hcD hbE hbD
            go_upto_region 4 with fail
            go_quiet (fail)
            go_wp2_with ((at_builtin; go_loud (refine wpL_rapp Tryz.tyPt rfl (.tmp 26) (.tmp 30) rfl w.heap.size az (some ⟨wr.heap.size, 0, none⟩) S.length 1 cz 1 S [⟨aE, E, cE⟩] rfl (by first | rfl | simp | omega) (Ho.out.grow (by (repeat' (first | exact Below.refl _ _ | assumption | refine bdrewN ?_ _ | refine Below.drew ?_ | refine Below.setCell ?_ (Nat.le_refl _) _ | refine bal ?_ _ | refine bthen ?_ (by assumption))))) rfl (by first | rfl | simp | omega) (RSl.lit (E := encPt) _ ⟨aE, E, cE⟩ 82 wr.heap.size (by first | rfl | simp) #[.slice aE E.length cE] rfl (by decide)) (by show _ ≤ 2199023255552; simp; omega) (by have := HB.out.size; have := bb.size; simp; omega) ?_); intro a2 c2 w2 L2 Hl2 ho2 hb2 hk2 hA2; have HA2 := hid hA2; clear hA2; have Ho2 := hid ho2; clear ho2; have Hk2 := hid hk2; clear hk2; have hz2 := hb2.size))
            have hDl : D.length = rem.length - n := by rw [HD.out]; simp
            have HbW : Hid (Below w.heap.size w w2) := hid (Below.trans (bthen HB.out (by (repeat' (first | exact Below.refl _ _ | assumption | refine bdrewN ?_ _ | refine Below.drew ?_ | refine Below.setCell ?_ (Nat.le_refl _) _ | refine bal ?_ _ | refine bthen ?_ (by assumption))))) hb2)
            have hLl : L2.length = S.length + 1 := by rw [Hl2.out]; simp
            go_roundg (D.length)
            case measure => omega
            case rel =>
              refine ⟨aD, cD, D, a2, c2, L2, rfl, rfl, rfl, HsD, HcD, by omega, hid (fun k hk => Hb.out k (HbD.out k hk)), hid (fun m hm => Hm.out m (by rw [HD.out] at hm; exact List.mem_of_mem_drop hm)), Ho2, hid (fun q hq => ?_), by omega, ?_, HbW.out⟩
              · rw [Hl2.out] at hq
                rcases List.mem_append.1 hq with hq | hq
                · exact Hg.out q hq
                · rw [List.mem_singleton.1 hq]
                  exact ⟨HsE.out, HcE.out, fun k hk => Hb.out k (HbE.out k hk), fun m hm => Hm.out m (by rw [HE.out] at hm; exact List.mem_of_mem_take hm)⟩
              · obtain ⟨k, hk1, hk2⟩ := Hp.out
                obtain ⟨k, rfl⟩ : ∃ k', k = k' + 1 := ⟨k - 1, by omega⟩
                refine hid ⟨k, by omega, ?_⟩
                rw [← hk2, Hst.out k, Hl2.out, HD.out, List.map_append, List.append_assoc]
                show _ ++ ([rns E] ++ _) = _
                rw [HE.out]; rfl
        · have bz : decide ((n : Int) < (rem.length : Int)) = false := by simpa using hlt
          have Hst := hid (fun k => parts_step (rem := rem) (n := n) (k := k) hn1 hn2 Hd.out (fun h => absurd h hlt))
          obtain ⟨aE, cE, E, HE, sE, hcE, hbE, hrunE⟩ := rslice_toB Tryz.tyRe Hr.out n cr hn2 Hcr.out
          obtain ⟨aD, cD, D, HD, sD, hcD, hbD, hrunD⟩ := rslice_fromB Tryz.tyRe Hr.out n cr hn2 Hcr.out
          have i2 : (n : Int) ≤ (rem.length : Int) := by omega
          have HsE := hid sE
          have HsD := hid sD
          have HcE := hid hcE
          have HcD := hid hcD
          have HbE := hid hbE
          have HbD := hid hbD
          have bb := Hbx.out
          clear sE sD hcE hcD hbE hbD
          go_upto_region 4 with fail
          go_quiet (fail)
          go_wp2_with ((at_builtin; go_loud (refine wpL_rapp Tryz.tyPt rfl (.tmp 26) (.tmp 30) rfl w.heap.size az (some ⟨wr.heap.size, 0, none⟩) S.length 1 cz 1 S [⟨aE, E, cE⟩] rfl (by first | rfl | simp | omega) (Ho.out.grow (by (repeat' (first | exact Below.refl _ _ | assumption | refine bdrewN ?_ _ | refine Below.drew ?_ | refine Below.setCell ?_ (Nat.le_refl _) _ | refine bal ?_ _ | refine bthen ?_ (by assumption))))) rfl (by first | rfl | simp | omega) (RSl.lit (E := encPt) _ ⟨aE, E, cE⟩ 82 wr.heap.size (by first | rfl | simp) #[.slice aE E.length cE] rfl (by decide)) (by show _ ≤ 2199023255552; simp; omega) (by have := HB.out.size; have := bb.size; simp; omega) ?_); intro a2 c2 w2 L2 Hl2 ho2 hb2 hk2 hA2; have HA2 := hid hA2; clear hA2; have Ho2 := hid ho2; clear ho2; have Hk2 := hid hk2; clear hk2; have hz2 := hb2.size))
          have hDl : D.length = rem.length - n := by rw [HD.out]; simp
          have HbW : Hid (Below w.heap.size w w2) := hid (Below.trans (bthen HB.out (by (repeat' (first | exact Below.refl _ _ | assumption | refine bdrewN ?_ _ | refine Below.drew ?_ | refine Below.setCell ?_ (Nat.le_refl _) _ | refine bal ?_ _ | refine bthen ?_ (by assumption))))) hb2)
          have hLl : L2.length = S.length + 1 := by rw [Hl2.out]; simp
          go_roundg (D.length)
          case measure => omega
          case rel =>
            refine ⟨aD, cD, D, a2, c2, L2, rfl, rfl, rfl, HsD, HcD, by omega, hid (fun k hk => Hb.out k (HbD.out k hk)), hid (fun m hm => Hm.out m (by rw [HD.out] at hm; exact List.mem_of_mem_drop hm)), Ho2, hid (fun q hq => ?_), by omega, ?_, HbW.out⟩
            · rw [Hl2.out] at hq
              rcases List.mem_append.1 hq with hq | hq
              · exact Hg.out q hq
              · rw [List.mem_singleton.1 hq]
                exact ⟨HsE.out, HcE.out, fun k hk => Hb.out k (HbE.out k hk), fun m hm => Hm.out m (by rw [HE.out] at hm; exact List.mem_of_mem_take hm)⟩
            · obtain ⟨k, hk1, hk2⟩ := Hp.out
              obtain ⟨k, rfl⟩ : ∃ k', k = k' + 1 := ⟨k - 1, by omega⟩
              refine hid ⟨k, by omega, ?_⟩
              rw [← hk2, Hst.out k, Hl2.out, HD.out, List.map_append, List.append_assoc]
              show _ ++ ([rns E] ++ _) = _
              rw [HE.out]; rfl
    · have zr : decide ((0 : Int) < (rem.length : Int)) = false := decide_eq_false (by omega)
      obtain rfl : rem = [] := List.length_eq_zero_iff.1 (by omega)
      have HB := hid hb
      clear hb
      go_wp2_with fail
      go_ret
      obtain ⟨k, _, hk⟩ := Hp.out
      refine ⟨az, cz, S, rfl, Ho.out.grow (by (repeat' (first | exact Below.refl _ _ | assumption | refine bdrewN ?_ _ | refine Below.drew ?_ | refine Below.setCell ?_ (Nat.le_refl _) _ | refine bal ?_ _ | refine bthen ?_ (by assumption)))), ?_, Hg.out, bthen HB.out (by (repeat' (first | exact Below.refl _ _ | assumption | refine bdrewN ?_ _ | refine Below.drew ?_ | refine Below.setCell ?_ (Nat.le_refl _) _ | refine bal ?_ _ | refine bthen ?_ (by assumption))))⟩
      rw [← hk]
      exact hid (by rw [show rns ([] : List Rm) = [] from rfl, partsF_nil, List.append_nil])
end Go.Proofs.YtefgjicegbhcaaaGreat
namespace Go.Proofs.YtefgjicegbhcaaaGreat
open Go.RowKit ReM Go.ChangeShapes Go.WideShapes Go.ChangeAt

set_option maxRecDepth 20000 in
set_option maxHeartbeats 16000000 in
theorem clone_c (a : Option Addr) (c : Nat) (s : List Int) (w : World) (base : Nat) (h : Own w base a c s) :
    Calls Tryz.prog 93 #[.slice a s.length c] w fun e' w' => ∃ a' c', e' = .returned (.slice a' s.length c') ∧ Own w' w.heap.size a' c' s ∧ Below w.heap.size w w' := by
  have qT : ∀ (w : World) (a : Option Addr) (n c n' c' : Nat), (binOp .eql 24 (.slice a n c) (.slice none n' c')).run Tryz.prog w = .ok (.bool a.isNone) w := fun w a n c n' c' => Lib.run_eql_slice_nil w _ _ a n c n' c' Tryz.underlying24
  rcases h.shape with ⟨rfl, rfl, rfl⟩ | ⟨g, rfl, -, -, -⟩
  · go_enter Tryz.func93, Tryz.ntmps93
    go_wp2_with fail
    go_ret
    exact ⟨none, 0, rfl, Own.nil _ _, by (repeat' (first | exact Below.refl _ _ | assumption | refine bdrewN ?_ _ | refine Below.drew ?_ | refine Below.setCell ?_ (Nat.le_refl _) _ | refine bal ?_ _ | refine bthen ?_ (by assumption)))⟩
  · have HS := hid h.sl
    have hl := h.sl.len
    clear h
    go_enter Tryz.func93, Tryz.ntmps93
    go_wp2_with (at_builtin; refine wpL_app rfl (.tmp 5) (.tmp 6) rfl w.heap.size (some ⟨w.heap.size, 0, none⟩) (some ⟨g, 0, none⟩) 0 c [] s rfl (Own.lit' w [] _ _ 0 rfl (Nat.le_refl _) (by decide) (by unfold rng; simp) _ rfl rfl) rfl (HS.out.bel (by (repeat' (first | exact Below.refl _ _ | assumption | refine bdrewN ?_ _ | refine Below.drew ?_ | refine bal ?_ _ | refine bthen ?_ (by assumption))))) (by simpa using hl) (by simp) ?_; intro a1 c1 w1 hown hgrow hb1; simp only [List.nil_append] at hown ⊢; have Ho1 := hid hown; clear hown hgrow)
    have HB : Hid (Below w.heap.size w w1) := hid (Below.trans (by (repeat' (first | exact Below.refl _ _ | assumption | refine bdrewN ?_ _ | refine Below.drew ?_ | refine bal ?_ _ | refine bthen ?_ (by assumption)))) hb1)
    clear hb1
    go_wp2_with fail
    go_ret
    exact ⟨a1, c1, rfl, Ho1.out, HB.out⟩
end Go.Proofs.YtefgjicegbhcaaaGreat
