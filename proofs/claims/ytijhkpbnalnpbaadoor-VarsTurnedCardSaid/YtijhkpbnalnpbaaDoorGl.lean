/- The listed variables: what the condition gives a walk, and a world that meets it. -/
import Derived.Test.YtijhkpbnalnpbaaDoorCore
import Derived.Test.YtijhkpbnalnpbaaDoorTie
import Derived.Test.YtijhkpbnalnpbaaDoorCards
import Derived.ChangeVars
import Derived.JoinedOf
import Derived.Stop.Joined
import Derived.LaidLaws
import Derived.LaidHandle
import Derived.SevenTiedAt
import Derived.Lib.LaidTab
import Derived.Lib.ItoaNum
import Derived.OpenShut
namespace Go.Proofs.YtijhkpbnalnpbaaDoor
open Go.RowKit Go.ChangeShapes Go.WideShapes

def leaf {H : Type} : DataW H → List Value
  | .lit l => [l.value]
  | _ => []
def leaves {H : Type} : DataW H → List Value
  | .agg ds => ds.flatMap leaf
  | d => leaf d
def flat {H : Type} : DataW H → List Value
  | .agg ds => ds.flatMap leaves
  | d => leaf d
theorem chunks {α : Type} (c : Nat) : ∀ (n : Nat) (cs : List α), cs.length = n * c → cs = (List.range n).flatMap fun i => (cs.drop (i * c)).take c
  | 0, cs, h => by
    have : cs = [] := List.eq_nil_of_length_eq_zero (by simpa using h)
    simp [this]
  | n + 1, cs, h => by
    rw [List.range_succ_eq_map, List.flatMap_cons, List.flatMap_map]
    have h1 := chunks c n (cs.drop c) (by rw [List.length_drop, h, Nat.succ_mul]; omega)
    conv => lhs; rw [← List.take_append_drop c cs, h1]
    simp only [Nat.zero_mul, List.drop_zero, List.drop_drop]
    congr 2
    funext i
    rw [Nat.succ_mul, Nat.add_comm c]
theorem fm_congr {α β : Type} {l : List α} {f g : α → List β} (h : ∀ a, a ∈ l → f a = g a) : l.flatMap f = l.flatMap g := by
  induction l with
  | nil => rfl
  | cons a l ih => rw [List.flatMap_cons, List.flatMap_cons, h a (by simp), ih fun b hb => h b (by simp [hb])]
section
variable {H : Type} {enc : TypeId × Value → H} {w : World} {base : Nat} {sp : Nat → Bool} {held : Bool}
theorem leaf_int {t : TypeId} {k : IntKind} (ht : Tryd.prog.underlying t = some (.int k)) {fuel : Nat} {cs : List Value} {x : DataW H × List MemPlace} (h : DataW.trod enc Tryd.prog w base sp held fuel t cs = some x) : cs = leaf x.1 := by
  obtain ⟨n, rfl, rfl, _⟩ := DataW.trod_int ht h
  rfl
theorem leaf_str {t : TypeId} (ht : Tryd.prog.underlying t = some .string) {fuel : Nat} {cs : List Value} {x : DataW H × List MemPlace} (h : DataW.trod enc Tryd.prog w base sp held fuel t cs = some x) : cs = leaf x.1 := by
  obtain ⟨s, rfl, rfl, _⟩ := DataW.trod_string ht h
  simp [leaf, Lit.value]
theorem arr_flat {t e : TypeId} {n c : Nat} (F : DataW H → List Value) (ht : Tryd.prog.underlying t = some (.array n e)) (hce : Tryd.prog.cellsOf e = c) (hct : Tryd.prog.cellsOf t = n * c)
    (hF : ∀ {fuel : Nat} {cs : List Value} {x : DataW H × List MemPlace}, DataW.trod enc Tryd.prog w base sp held fuel e cs = some x → cs = F x.1)
    {fuel : Nat} {cs : List Value} {x : DataW H × List MemPlace} (h : DataW.trod enc Tryd.prog w base sp held fuel t cs = some x) : ∃ ds, x.1 = .agg ds ∧ cs = ds.flatMap F := by
  obtain ⟨xs, m, _, rfl, hl, hn, hi⟩ := DataW.trod_array ht h
  refine ⟨_, rfl, ?_⟩
  rw [hct] at hl
  rw [chunks c n cs hl, List.flatMap_map]
  have e1 : xs = (List.range n).map fun i => xs.getD i (.nil, []) := by
    apply List.ext_getElem
    · simp [hn]
    · intro i h1 h2
      simp [List.getD, List.getElem?_eq_getElem h1]
  conv => rhs; rw [e1, List.flatMap_map]
  refine fm_congr fun i hi' => ?_
  have hlt : i < n := List.mem_range.1 hi'
  have := hi i hlt
  rw [hce] at this
  rw [List.getElem?_eq_getElem (by omega)] at this
  rw [hF this]
  simp [List.getD, List.getElem?_eq_getElem (show i < xs.length by omega)]
theorem leaves_arr {t e : TypeId} {n c : Nat} (ht : Tryd.prog.underlying t = some (.array n e)) (hce : Tryd.prog.cellsOf e = c) (hct : Tryd.prog.cellsOf t = n * c)
    (hF : ∀ {fuel : Nat} {cs : List Value} {x : DataW H × List MemPlace}, DataW.trod enc Tryd.prog w base sp held fuel e cs = some x → cs = leaf x.1)
    {fuel : Nat} {cs : List Value} {x : DataW H × List MemPlace} (h : DataW.trod enc Tryd.prog w base sp held fuel t cs = some x) : cs = leaves x.1 := by
  obtain ⟨ds, hx, hcs⟩ := arr_flat leaf ht hce hct hF h
  rw [hx, hcs]; rfl
theorem flat_arr {t e : TypeId} {n c : Nat} (ht : Tryd.prog.underlying t = some (.array n e)) (hce : Tryd.prog.cellsOf e = c) (hct : Tryd.prog.cellsOf t = n * c)
    (hF : ∀ {fuel : Nat} {cs : List Value} {x : DataW H × List MemPlace}, DataW.trod enc Tryd.prog w base sp held fuel e cs = some x → cs = leaves x.1)
    {fuel : Nat} {cs : List Value} {x : DataW H × List MemPlace} (h : DataW.trod enc Tryd.prog w base sp held fuel t cs = some x) : cs = flat x.1 := by
  obtain ⟨ds, hx, hcs⟩ := arr_flat leaves ht hce hct hF h
  rw [hx, hcs]; rfl
set_option maxRecDepth 100000 in
theorem leaves_row {fuel : Nat} {cs : List Value} {x : DataW H × List MemPlace} (h : DataW.trod enc Tryd.prog w base sp held fuel 48 cs = some x) : cs = leaves x.1 := by
  obtain ⟨xs, n, _, hx, hcl, hlen, hg⟩ := DataW.trod_struct Tryd.underlying48 h
  rw [show Tryd.prog.cellsOf 48 = 3 by kernel_rfl] at hcl
  match xs, hlen with
  | [y0, y1, y2], _ =>
    obtain ⟨e0, e1, e2, rfl⟩ : ∃ e0 e1 e2, cs = [e0, e1, e2] := by
      match cs, hcl with
      | [e0, e1, e2], _ => exact ⟨e0, e1, e2, rfl⟩
    have g0 : DataW.trod enc Tryd.prog w base sp held n 9 (List.take (Tryd.prog.cellsOf 9) [e0, e1, e2]) = some y0 := hg 0 _ rfl
    have g1 : DataW.trod enc Tryd.prog w base sp held n 3 (List.take (Tryd.prog.cellsOf 3) [e1, e2]) = some y1 := hg 1 _ rfl
    have g2 : DataW.trod enc Tryd.prog w base sp held n 3 (List.take (Tryd.prog.cellsOf 3) [e2]) = some y2 := hg 2 _ rfl
    rw [show Tryd.prog.cellsOf 9 = 1 by kernel_rfl] at g0
    rw [show Tryd.prog.cellsOf 3 = 1 by kernel_rfl] at g1 g2
    simp only [List.take_succ_cons, List.take_zero] at g0 g1 g2
    have h0 := leaf_str Tryd.underlying9 g0
    have h1 := leaf_int Tryd.underlying3 g1
    have h2 := leaf_int Tryd.underlying3 g2
    rw [hx]
    simp only [leaves, List.map_cons, List.map_nil, List.flatMap_cons, List.flatMap_nil, ← h0, ← h1, ← h2]
    rfl
end
/-- the variable g holds these cells -/
def Holds (w : World) (g : Nat) (A : Array Value) : Prop := ∃ t fr, w.heap[g]? = some (.cells A t fr)
theorem holds_of {w : World} {n : String} {g : Nat} {cs A : Array Value} (hg : Tryd.prog.globalNamed n = some g) (h : w.var? Tryd.prog n = some cs) (hA : cs = A) : Holds w g A := by
  subst hA
  simp only [World.var?, hg, Option.bind_some] at h
  split at h
  · rename_i c t fr he
    simp only [Option.some.injEq] at h; subst h
    exact ⟨t, fr, he⟩
  · cases h
theorem Holds.cell {w : World} {g : Nat} {A : Array Value} (h : Holds w g A) (i : Nat) : w.cell? ⟨g, i, none⟩ = A[i]? := by
  obtain ⟨t, fr, h⟩ := h
  exact cell_of_row w g i A t fr h
theorem Holds.lt {w : World} {g : Nat} {A : Array Value} (h : Holds w g A) : g < w.heap.size := by
  obtain ⟨t, fr, h⟩ := h
  exact (Array.getElem?_eq_some_iff.1 h).1
theorem Holds.kept {w w' : World} {g : Nat} {A : Array Value} (h : Holds w g A) (hb : w'.heap[g]? = w.heap[g]?) : Holds w' g A := by
  obtain ⟨t, fr, h⟩ := h
  exact ⟨t, fr, hb.trans h⟩
def db32A : Array Value := (flat (Rows.laid_math_bits_deBruijn32tab (H := Unit))).toArray
def db64A : Array Value := (flat (Rows.laid_math_bits_deBruijn64tab (H := Unit))).toArray
def powA : Array Value := (flat (Rows.laid_internal_strconv_uint64pow10 (H := Unit))).toArray
def tabA : Array Value := (flat (Rows.laid_standish_vars_table (H := Unit))).toArray
def moA : Array Value := (flat (Rows.laid_standish_vars_months (H := Unit))).toArray
def dyA : Array Value := (flat (Rows.laid_standish_vars_days (H := Unit))).toArray
def ckA : Array Value := (flat (Rows.laid_standish_vars_clockBounds (H := Unit))).toArray
/-- all listed variables -/
structure Gl (w : World) : Prop where
  d64 : Holds w 7 db64A
  pow : Holds w 5 powA
  tab : Holds w 0 tabA
  mo : Holds w 2 moA
  dy : Holds w 3 dyA
  ck : Holds w 1 ckA
theorem Gl.of (w w' : World) (h : Gl w) (hb : ∀ k, k < 8 → w'.heap[k]? = w.heap[k]?) : Gl w' :=
  ⟨h.d64.kept (hb _ (by decide)), h.pow.kept (hb _ (by decide)), h.tab.kept (hb _ (by decide)), h.mo.kept (hb _ (by decide)), h.dy.kept (hb _ (by decide)), h.ck.kept (hb _ (by decide))⟩
theorem Gl.lt {w : World} (h : Gl w) : 8 ≤ w.heap.size := h.d64.lt
theorem Gl.below {w w' : World} {B : Nat} (h : Gl w) (hb : Below B w w') (hB : 8 ≤ B) : Gl w' := Gl.of w w' h fun k hk => hb.block k (by omega)
theorem Gl.bel {w w' : World} (h : Gl w) (hb : Below w.heap.size w w') : Gl w' := h.below hb h.lt
theorem Gl.drewN {w : World} (h : Gl w) (n : Nat) : Gl (w.drewN n) := ⟨h.d64, h.pow, h.tab, h.mo, h.dy, h.ck⟩
theorem Gl.drew {w : World} (h : Gl w) : Gl w.drew := ⟨h.d64, h.pow, h.tab, h.mo, h.dy, h.ck⟩
theorem Gl.alloc {w : World} (h : Gl w) (o : Obj) : Gl (w.alloc o) := h.bel ((Below.refl _ _).alloc (Nat.le_refl _) o)
def laidRows : List (String × DataW Unit) := [("math/bits.deBruijn32tab", Rows.laid_math_bits_deBruijn32tab), ("math/bits.deBruijn64tab", Rows.laid_math_bits_deBruijn64tab), ("internal/strconv.uint64pow10", Rows.laid_internal_strconv_uint64pow10), ("standish/vars.table", Rows.laid_standish_vars_table), ("standish/vars.months", Rows.laid_standish_vars_months), ("standish/vars.days", Rows.laid_standish_vars_days), ("standish/vars.clockBounds", Rows.laid_standish_vars_clockBounds)]
theorem one_laid {w : World} {n : String} {d : DataW Unit} {g t : Nat} (hg : Tryd.prog.globalNamed n = some g) (hty : (Tryd.prog.globals[g]?).map (·.type) = some t)
    (hF : ∀ {fuel : Nat} {cs : List Value} {p : List MemPlace}, DataW.trod (fun _ => ()) Tryd.prog w 0 (fun _ => true) false fuel t cs = some (d, p) → cs = flat d)
    (h : ∃ g t cs fuel p, Tryd.prog.globalNamed n = some g ∧ (Tryd.prog.globals[g]?).map (·.type) = some t ∧ w.var? Tryd.prog n = some cs ∧ DataW.trod (fun _ => ()) Tryd.prog w 0 (fun _ => true) false fuel t cs.toList = some (d, p)) :
    Holds w g (flat d).toArray := by
  obtain ⟨g', t', cs, fuel, p, hg', ht', hvar, hd⟩ := h
  obtain rfl := Option.some.inj (hg.symm.trans hg')
  obtain rfl := Option.some.inj (hty.symm.trans ht')
  exact holds_of hg hvar (by rw [← hF hd])
set_option maxRecDepth 100000 in
theorem gl_of_laid {w : World} (h : laidMetH Tryd.prog laidRows w) : Gl w := by
  have h' : laidMet Tryd.prog laidRows w := h
  obtain ⟨ps, ⟨g1, t1, c1, f1, p1, q1, a1, b1, v1, d1, ⟨g2, t2, c2, f2, p2, q2, a2, b2, v2, d2, ⟨g3, t3, c3, f3, p3, q3, a3, b3, v3, d3, ⟨g4, t4, c4, f4, p4, q4, a4, b4, v4, d4, ⟨g5, t5, c5, f5, p5, q5, a5, b5, v5, d5, ⟨g6, t6, c6, f6, p6, q6, a6, b6, v6, d6, ⟨g7, t7, c7, f7, p7, q7, a7, b7, v7, d7, _⟩, _⟩, _⟩, _⟩, _⟩, _⟩, _⟩, _⟩ := h'
  refine ⟨?_, ?_, ?_, ?_, ?_, ?_⟩
  · exact one_laid (t := 123) (by kernel_rfl) (by kernel_rfl) (fun h => flat_arr Tryd.underlying123 (c := 1) (by kernel_rfl) (by kernel_rfl) (fun h => by rw [leaf_int Tryd.underlying5 h]; obtain ⟨n, _, hx, _⟩ := DataW.trod_int Tryd.underlying5 h; rw [hx]; rfl) h) ⟨_, _, _, _, _, a2, b2, v2, d2⟩
  · exact one_laid (t := 114) (by kernel_rfl) (by kernel_rfl) (fun h => flat_arr Tryd.underlying114 (c := 1) (by kernel_rfl) (by kernel_rfl) (fun h => by rw [leaf_int Tryd.underlying101 h]; obtain ⟨n, _, hx, _⟩ := DataW.trod_int Tryd.underlying101 h; rw [hx]; rfl) h) ⟨_, _, _, _, _, a3, b3, v3, d3⟩
  · exact one_laid (t := 65) (by kernel_rfl) (by kernel_rfl) (fun h => flat_arr Tryd.underlying65 (c := 3) (by kernel_rfl) (by kernel_rfl) (fun h => leaves_row h) h) ⟨_, _, _, _, _, a4, b4, v4, d4⟩
  · exact one_laid (t := 82) (by kernel_rfl) (by kernel_rfl) (fun h => flat_arr Tryd.underlying82 (c := 1) (by kernel_rfl) (by kernel_rfl) (fun h => by rw [leaf_str Tryd.underlying9 h]; obtain ⟨n, _, hx, _⟩ := DataW.trod_string Tryd.underlying9 h; rw [hx]; rfl) h) ⟨_, _, _, _, _, a5, b5, v5, d5⟩
  · exact one_laid (t := 83) (by kernel_rfl) (by kernel_rfl) (fun h => flat_arr Tryd.underlying83 (c := 1) (by kernel_rfl) (by kernel_rfl) (fun h => by rw [leaf_str Tryd.underlying9 h]; obtain ⟨n, _, hx, _⟩ := DataW.trod_string Tryd.underlying9 h; rw [hx]; rfl) h) ⟨_, _, _, _, _, a6, b6, v6, d6⟩
  · exact one_laid (t := 78) (by kernel_rfl) (by kernel_rfl) (fun h => flat_arr Tryd.underlying78 (c := 2) (by kernel_rfl) (by kernel_rfl) (fun h => leaves_arr Tryd.underlying77 (c := 1) (by kernel_rfl) (by kernel_rfl) (fun h => leaf_int Tryd.underlying3 h) h) h) ⟨_, _, _, _, _, a7, b7, v7, d7⟩
def putA (A : Array Value) : Obj → Obj
  | .cells _ t fr => .cells A t fr
  | o => o
/-- a world that meets the condition -/
noncomputable def laidWorld (os : Os) : World :=
  let w0 := World.holding Tryd.prog os ⟨#[], #[], []⟩
  { w0 with heap := ((((((w0.heap.modify 0 (putA tabA)).modify 1 (putA ckA)).modify 2 (putA moA)).modify 3 (putA dyA)).modify 5 (putA powA)).modify 6 (putA db32A)).modify 7 (putA db64A) }
set_option maxRecDepth 100000 in
theorem laidWorld_met (os : Os) (args : Array Value) : laidMetH Tryd.prog laidRows ((laidWorld os).forCall (fun _ _ => 0) ⟨#[], args, []⟩).memory :=
  laidMet_of_run' 8 (by kernel_rfl) (by kernel_rfl)
theorem no_stand {t : TypeId} {l : Array TypeId} (ht : t ∈ l) (hl : (l.all fun t => !Tryd.prog.wantsStandIn t) = true := by kernel_rfl) : Tryd.prog.wantsStandIn t = false := by
  have := Array.all_eq_true'.1 hl t ht
  simpa using this
end Go.Proofs.YtijhkpbnalnpbaaDoor
