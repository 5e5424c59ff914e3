/- Variables in memory: a fault, a token; results that lie there. -/
import Derived.Test.YtefgjicegbhcaaaGreatCore
import Derived.Laws.ResultCell
namespace Go.Proofs.YtefgjicegbhcaaaGreat
open Go.RowKit

theorem cell_set1 {w : World} {b o o' : Nat} {v u : Value} (h : w.cell? ⟨b, o', none⟩ = some u) (hn : o ≠ o') : (w.setCell ⟨b, o, none⟩ v).cell? ⟨b, o', none⟩ = some u := by
  rw [World.cell?_setCell_other (h := by intro e; simp only [Addr.mk.injEq, and_true, true_and] at e; exact hn e)]; exact h
/-- a fault in a variable of its own -/
structure FtC (w : World) (b : Nat) (e f : Int) : Prop where
  c0 : w.cell? ⟨b, 0, none⟩ = some (.int .i64 e)
  c1 : w.cell? ⟨b, 1, none⟩ = some (.int .i64 f)
  fz : ∀ o, w.frozen? ⟨b, o, none⟩ = false
theorem FtC.lt {w : World} {b : Nat} {e f : Int} (h : FtC w b e f) : b < w.heap.size := World.block_lt_of_cell? w _ h.c0
theorem FtC.same {w w' : World} {b : Nat} {e f : Int} (h : FtC w b e f) (he : w'.heap[b]? = w.heap[b]?) : FtC w' b e f := by
  have c : ∀ o, w'.cell? ⟨b, o, none⟩ = w.cell? ⟨b, o, none⟩ := fun o => World.cell?_of_block (w := w) (w' := w') (a := ⟨b, o, none⟩) he
  have f' : ∀ o, w'.frozen? ⟨b, o, none⟩ = w.frozen? ⟨b, o, none⟩ := fun o => World.frozen?_of_block (w := w) (w' := w') (a := ⟨b, o, none⟩) he
  exact ⟨by rw [c]; exact h.c0, by rw [c]; exact h.c1, fun o => by rw [f']; exact h.fz o⟩
theorem FtC.bel {w w' : World} {b : Nat} {e f : Int} (h : FtC w b e f) (hb : Below w.heap.size w w') : FtC w' b e f := h.same (hb.block b h.lt)
theorem FtC.kpt {w w' : World} {F : Nat → Prop} {b : Nat} {e f : Int} (h : FtC w b e f) (hk : Kpt F w w') (hn : ¬ F b) : FtC w' b e f := h.same (hk.block b h.lt hn)
theorem FtC.new (w : World) (e f : Int) (T : TypeId) (b : Nat) (hb : b = w.heap.size) : FtC (w.alloc (.cells #[.int .i64 e, .int .i64 f] T)) b e f := by
  subst hb
  refine ⟨by rw [cell_alloc_new]; rfl, by rw [cell_alloc_new]; rfl, fun o => ?_⟩
  simp
theorem FtC.put {w : World} {b : Nat} {e f : Int} (h : FtC w b e f) (e' f' : Int) : FtC ((w.setCell ⟨b, 0, none⟩ (.int .i64 e')).setCell ⟨b, 1, none⟩ (.int .i64 f')) b e' f' := by
  have h1 := cell_set1 (o := 0) (v := .int .i64 e') h.c1 (by decide)
  refine ⟨cell_set1 (by rw [World.cell?_setCell_same (h := h.c0)]) (by decide), by rw [World.cell?_setCell_same (h := h1)], fun o => by simp only [World.frozen?_setCell]; exact h.fz o⟩
theorem ret_ft {fn : Func} {post : Ending → World → Prop} {at_ : Act} {w : World} {R : Nat} {e f : Int} (hr : fn.results = #[ResultVar.cell 2 47]) (ht : at_.tmps[2]?.getD undef = .pointer (some ⟨R, 0, none⟩)) (hd : at_.defers = [])
    (h : FtC w R e f) (hp : post (.returned (.agg #[.int .i64 e, .int .i64 f])) w) : bodyPost Tryz.prog fn post Exit.ret at_ w :=
  bodyPost_ret (v := .agg #[.int .i64 e, .int .i64 f]) (by simp [results, hr, go_sem, ht, h.c0, h.c1]) hd hp
theorem ret_tf {fn : Func} {post : Ending → World → Prop} {at_ : Act} {w : World} {R : Nat} {e f : Int} {v : Value} (hr : fn.results = #[ResultVar.tmp 2, ResultVar.cell 3 47]) (h2 : at_.tmps[2]?.getD undef = v) (ht : at_.tmps[3]?.getD undef = .pointer (some ⟨R, 0, none⟩)) (hd : at_.defers = [])
    (h : FtC w R e f) (hp : post (.returned (.tuple #[v, .agg #[.int .i64 e, .int .i64 f]])) w) : bodyPost Tryz.prog fn post Exit.ret at_ w :=
  bodyPost_ret (v := .tuple #[v, .agg #[.int .i64 e, .int .i64 f]]) (by simp [results, hr, go_sem, h2, ht, h.c0, h.c1]) hd hp
end Go.Proofs.YtefgjicegbhcaaaGreat
