/- What stays where one object alone may turn: a tape, a reader. -/
import Derived.Test.YtijhkpbnalnpbaaDoorKeepR
namespace Go.Proofs.YtijhkpbnalnpbaaDoor
open Go.RowKit

/-- the reader's block alone may turn -/
abbrev KR (r : Nat) (w w' : World) : Prop := Kpt (fun k => k = r) w w'
theorem KR.refl (r : Nat) (w : World) : KR r w w := Kpt.refl _ _
theorem Kpt.drewN {F : Nat → Prop} {a w : World} (h : Kpt F a w) (n : Nat) : Kpt F a (w.drewN n) := ⟨h.os, h.tape, h.output, h.size, h.block⟩
theorem Kpt.set {r o : Nat} {a w : World} (h : KR r a w) (v : Value) : KR r a (w.setCell ⟨r, o, none⟩ v) := h.setCell rfl v
theorem Own.stay {w w' : World} {base : Nat} {a : Option Addr} {c : Nat} {l : List Int} (h : Own w base a c l) (hb : ∀ k, base ≤ k → k < w.heap.size → w'.heap[k]? = w.heap[k]?) : Own w' base a c l :=
  h.same fun _ ha hl => hb _ (h.1.lt _ (by rw [ha]; rfl)).1 hl
theorem Own.kr {w w' : World} {base r : Nat} {a : Option Addr} {c : Nat} {l : List Int} (h : Own w base a c l) (k : KR r w w') (hr : r < base) : Own w' base a c l :=
  h.stay fun j hj hl => k.block j hl (by omega)
theorem Kpt.bel {G : Nat → Prop} {a w w' : World} {D : Nat} (h : Kpt G a w) (k : Below D w w') (hD : a.heap.size ≤ D) : Kpt G a w' :=
  ⟨k.os.trans h.os, k.tape.trans h.tape, k.output.trans h.output, Nat.le_trans h.size k.size, fun i hi hn => (k.block i (by omega)).trans (h.block i hi hn)⟩
/-- a literal slice of runes that the call owns -/
theorem Own.lit' (w : World) (l : List Int) (b base c : Nat) (hb : b = w.heap.size) (hB : base ≤ w.heap.size) (hl : l.length ≤ 1000) (hr : Go.Proofs.YtijhkpbnalnpbaaDoor.rng l) (cs : Array Value) (hcs : cs = (l.map (Value.int .i32)).toArray) (hc : c = l.length) :
    Own (w.alloc (.cells cs 21)) base (some ⟨b, 0, none⟩) c l := by
  subst hb; subst hcs; subst hc
  have := World.ownsRow_lit (base := base) (e := 21) (size := 1) w (l.map (Value.int .i32)).toArray l.length hB (by unfold maxLen; omega) (by simp)
  exact ⟨by simpa using this, hr, by omega⟩
end Go.Proofs.YtijhkpbnalnpbaaDoor
