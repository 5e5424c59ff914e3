/- Variables in memory: a fault, a token; results that lie there. -/
import Derived.Test.YtefgjicegbhcaaaCore
import Derived.Laws.ResultCell
namespace Go.Proofs.Ytefgjicegbhcaaa
open Go.RowKit

theorem cell_set1 {w : World} {b o o' : Nat} {v u : Value} (h : w.cell? ⟨b, o', none⟩ = some u) (hn : o ≠ o') : (w.setCell ⟨b, o, none⟩ v).cell? ⟨b, o', none⟩ = some u := by
  rw [World.cell?_setCell_other (h := by intro e; simp only [Addr.mk.injEq, and_true, true_and] at e; exact hn e)]; exact h
/-- a fault in a variable of its own -/
structure FtC (w : World) (b : Nat) (e f : Int) : Prop where
  c0 : w.cell? ⟨b, 0, none⟩ = some (.int .i64 e)
  c1 : w.cell? ⟨b, 1, none⟩ = some (.int .i64 f)
  fz : ∀ o, w.frozen? ⟨b, o, none⟩ = false
theorem FtC.lt {w : World} {b : Nat} {e f : Int} (h : FtC w b e f) : b < w.heap.size := World.block_lt_of_cell? w _ h.c0
theorem FtC.same {w w' : World} {b : Nat} {e f : Int} (h : FtC w b e f) (he : w'.heap[b]? = w.heap[b]?) : FtC w' b e f := by
  have c : ∀ o, w'.cell? ⟨b, o, none⟩ = w.cell? ⟨b, o, none⟩ := fun o => World.cell?_of_block (w := w) (w' := w') (a := ⟨b, o, none⟩) he
  have f' : ∀ o, w'.frozen? ⟨b, o, none⟩ = w.frozen? ⟨b, o, none⟩ := fun o => World.frozen?_of_block (w := w) (w' := w') (a := ⟨b, o, none⟩) he
  exact ⟨by rw [c]; exact h.c0, by rw [c]; exact h.c1, fun o => by rw [f']; exact h.fz o⟩
theorem FtC.bel {w w' : World} {b : Nat} {e f : Int} (h : FtC w b e f) (hb : Below w.heap.size w w') : FtC w' b e f := h.same (hb.block b h.lt)
theorem FtC.kpt {w w' : World} {F : Nat → Prop} {b : Nat} {e f : Int} (h : FtC w b e f) (hk : Kpt F w w') (hn : ¬ F b) : FtC w' b e f := h.same (hk.block b h.lt hn)
theorem FtC.new (w : World) (e f : Int) (T : TypeId) (b : Nat) (hb : b = w.heap.size) : FtC (w.alloc (.cells #[.int .i64 e, .int .i64 f] T)) b e f := by
  subst hb
  refine ⟨by rw [cell_alloc_new]; rfl, by rw [cell_alloc_new]; rfl, fun o => ?_⟩
  simp
theorem FtC.put {w : World} {b : Nat} {e f : Int} (h : FtC w b e f) (e' f' : Int) : FtC ((w.setCell ⟨b, 0, none⟩ (.int .i64 e')).setCell ⟨b, 1, none⟩ (.int .i64 f')) b e' f' := by
  have h1 := cell_set1 (o := 0) (v := .int .i64 e') h.c1 (by decide)
  refine ⟨cell_set1 (by rw [World.cell?_setCell_same (h := h.c0)]) (by decide), by rw [World.cell?_setCell_same (h := h1)], fun o => by simp only [World.frozen?_setCell]; exact h.fz o⟩
theorem ret_ft {fn : Func} {post : Ending → World → Prop} {at_ : Act} {w : World} {R : Nat} {e f : Int} (hr : fn.results = #[ResultVar.cell 2 37]) (ht : at_.tmps[2]?.getD undef = .pointer (some ⟨R, 0, none⟩)) (hd : at_.defers = [])
    (h : FtC w R e f) (hp : post (.returned (.agg #[.int .i64 e, .int .i64 f])) w) : bodyPost Try.prog fn post Exit.ret at_ w :=
  bodyPost_ret (v := .agg #[.int .i64 e, .int .i64 f]) (by simp [results, hr, go_sem, ht, h.c0, h.c1]) hd hp
theorem ret_tf {fn : Func} {post : Ending → World → Prop} {at_ : Act} {w : World} {R : Nat} {e f : Int} {v : Value} (hr : fn.results = #[ResultVar.tmp 2, ResultVar.cell 3 37]) (h2 : at_.tmps[2]?.getD undef = v) (ht : at_.tmps[3]?.getD undef = .pointer (some ⟨R, 0, none⟩)) (hd : at_.defers = [])
    (h : FtC w R e f) (hp : post (.returned (.tuple #[v, .agg #[.int .i64 e, .int .i64 f]])) w) : bodyPost Try.prog fn post Exit.ret at_ w :=
  bodyPost_ret (v := .tuple #[v, .agg #[.int .i64 e, .int .i64 f]]) (by simp [results, hr, go_sem, h2, ht, h.c0, h.c1]) hd hp
/-- a token in a variable of its own -/
structure TkC (w : World) (b : Nat) (k f t : Int) : Prop where
  c0 : w.cell? ⟨b, 0, none⟩ = some (.int .i64 k)
  c1 : w.cell? ⟨b, 1, none⟩ = some (.int .i64 f)
  c2 : w.cell? ⟨b, 2, none⟩ = some (.int .i64 t)
  fz : ∀ o, w.frozen? ⟨b, o, none⟩ = false
theorem TkC.lt {w : World} {b : Nat} {k f t : Int} (h : TkC w b k f t) : b < w.heap.size := World.block_lt_of_cell? w _ h.c0
theorem TkC.same {w w' : World} {b : Nat} {k f t : Int} (h : TkC w b k f t) (he : w'.heap[b]? = w.heap[b]?) : TkC w' b k f t := by
  have c : ∀ o, w'.cell? ⟨b, o, none⟩ = w.cell? ⟨b, o, none⟩ := fun o => World.cell?_of_block (w := w) (w' := w') (a := ⟨b, o, none⟩) he
  have f' : ∀ o, w'.frozen? ⟨b, o, none⟩ = w.frozen? ⟨b, o, none⟩ := fun o => World.frozen?_of_block (w := w) (w' := w') (a := ⟨b, o, none⟩) he
  exact ⟨by rw [c]; exact h.c0, by rw [c]; exact h.c1, by rw [c]; exact h.c2, fun o => by rw [f']; exact h.fz o⟩
theorem TkC.bel {w w' : World} {b : Nat} {k f t : Int} (h : TkC w b k f t) (hb : Below w.heap.size w w') : TkC w' b k f t := h.same (hb.block b h.lt)
theorem TkC.new (w : World) (k f t : Int) (T : TypeId) (b : Nat) (hb : b = w.heap.size) : TkC (w.alloc (.cells #[.int .i64 k, .int .i64 f, .int .i64 t] T)) b k f t := by
  subst hb
  refine ⟨by rw [cell_alloc_new]; rfl, by rw [cell_alloc_new]; rfl, by rw [cell_alloc_new]; rfl, fun o => ?_⟩
  simp
theorem TkC.off {w : World} {b : Nat} {k f t : Int} (h : TkC w b k f t) (p : Addr) (v : Value) (hn : b ≠ p.block) : TkC (w.setCell p v) b k f t := h.same (Below.heap_setCell _ _ _ _ hn)
theorem TkC.to {w : World} {b : Nat} {k f t : Int} (h : TkC w b k f t) (t' : Int) : TkC (w.setCell ⟨b, 2, none⟩ (.int .i64 t')) b k f t' := by
  refine ⟨?_, ?_, by rw [World.cell?_setCell_same (h := h.c2)], fun o => by simp only [World.frozen?_setCell]; exact h.fz o⟩
  · exact cell_set1 h.c0 (by decide)
  · exact cell_set1 h.c1 (by decide)
theorem TkC.put {w : World} {b : Nat} {k f t : Int} (h : TkC w b k f t) (k' f' t' : Int) : TkC (((w.setCell ⟨b, 0, none⟩ (.int .i64 k')).setCell ⟨b, 1, none⟩ (.int .i64 f')).setCell ⟨b, 2, none⟩ (.int .i64 t')) b k' f' t' := by
  have h1 : (w.setCell ⟨b, 0, none⟩ (.int .i64 k')).cell? ⟨b, 1, none⟩ = some (.int .i64 f) := cell_set1 h.c1 (by decide)
  have h2 : ((w.setCell ⟨b, 0, none⟩ (.int .i64 k')).setCell ⟨b, 1, none⟩ (.int .i64 f')).cell? ⟨b, 2, none⟩ = some (.int .i64 t) := cell_set1 (cell_set1 h.c2 (by decide)) (by decide)
  refine ⟨cell_set1 (cell_set1 (by rw [World.cell?_setCell_same (h := h.c0)]) (by decide)) (by decide), cell_set1 (by rw [World.cell?_setCell_same (h := h1)]) (by decide), by rw [World.cell?_setCell_same (h := h2)], fun o => by simp only [World.frozen?_setCell]; exact h.fz o⟩
theorem ret_tk {fn : Func} {post : Ending → World → Prop} {at_ : Act} {w : World} {R : Nat} {k f t : Int} (hr : fn.results = #[ResultVar.cell 4 41]) (ht : at_.tmps[4]?.getD undef = .pointer (some ⟨R, 0, none⟩)) (hd : at_.defers = [])
    (h : TkC w R k f t) (hp : post (.returned (.agg #[.int .i64 k, .int .i64 f, .int .i64 t])) w) : bodyPost Try.prog fn post Exit.ret at_ w :=
  bodyPost_ret (v := .agg #[.int .i64 k, .int .i64 f, .int .i64 t]) (by simp [results, hr, go_sem, ht, h.c0, h.c1, h.c2]) hd hp
end Go.Proofs.Ytefgjicegbhcaaa
