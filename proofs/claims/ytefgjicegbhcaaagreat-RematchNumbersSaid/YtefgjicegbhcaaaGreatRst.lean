/- A reader of patterns in memory (the code's, the document's): its six cells, the text behind it. -/
import Derived.Test.YtefgjicegbhcaaaGreatRes
import Derived.Test.YtefgjicegbhcaaaGreatKeepR
import Derived.Test.YtefgjicegbhcaaaGreatKr
import Derived.Test.YtefgjicegbhcaaaGreatFtc
import Derived.Deep.RegionLaw
namespace Go.Proofs.YtefgjicegbhcaaaGreat
open Go.RowKit

/-- i: the place; x, y: the numbers in the third and fourth cell; e, f: the fault. B: all that the reading makes lies at B or later -/
structure Rdr (B : Nat) (w : World) (r : Nat) (a : Option Addr) (c : Nat) (p : List Int) (i x y : Nat) (e f : Int) : Prop where
  c0 : w.cell? ⟨r, 0, none⟩ = some (.slice a p.length c)
  c1 : w.cell? ⟨r, 1, none⟩ = some (.int .i64 i)
  c2 : w.cell? ⟨r, 2, none⟩ = some (.int .i64 x)
  c3 : w.cell? ⟨r, 3, none⟩ = some (.int .i64 y)
  c4 : w.cell? ⟨r, 4, none⟩ = some (.int .i64 e)
  c5 : w.cell? ⟨r, 5, none⟩ = some (.int .i64 f)
  fz : ∀ o, w.frozen? ⟨r, o, none⟩ = false
  sl : Sl w a p
  off : p = [] ∨ ∃ ad, a = some ad ∧ ad.block < B ∧ ad.block ≠ r
  rB : r < B
  Bw : B ≤ w.heap.size
  cap : p.length ≤ c
theorem Rdr.same {B : Nat} {w w' : World} {r : Nat} {a : Option Addr} {c : Nat} {p : List Int} {i x y : Nat} {e f : Int} (h : Rdr B w r a c p i x y e f)
    (hs : w.heap.size ≤ w'.heap.size) (he : ∀ k, k < B → w'.heap[k]? = w.heap[k]?) : Rdr B w' r a c p i x y e f := by
  have ch : ∀ o, w'.cell? ⟨r, o, none⟩ = w.cell? ⟨r, o, none⟩ := fun o => World.cell?_of_block (w := w) (w' := w') (a := ⟨r, o, none⟩) (he r h.rB)
  have fh : ∀ o, w'.frozen? ⟨r, o, none⟩ = w.frozen? ⟨r, o, none⟩ := fun o => World.frozen?_of_block (w := w) (w' := w') (a := ⟨r, o, none⟩) (he r h.rB)
  refine ⟨by rw [ch]; exact h.c0, by rw [ch]; exact h.c1, by rw [ch]; exact h.c2, by rw [ch]; exact h.c3, by rw [ch]; exact h.c4, by rw [ch]; exact h.c5, fun o => by rw [fh]; exact h.fz o, ?_, h.off, h.rB, Nat.le_trans h.Bw hs, h.cap⟩
  rcases h.off with h0 | ⟨ad, ha, hb, _⟩
  · subst h0; exact Sl.nil _ _
  · exact h.sl.same fun ad' ha' _ => he _ (by rw [ha] at ha'; cases ha'; exact hb)
theorem Rdr.below {B D : Nat} {w w' : World} {r : Nat} {a : Option Addr} {c : Nat} {p : List Int} {i x y : Nat} {e f : Int} (h : Rdr B w r a c p i x y e f)
    (hb : Below D w w') (hD : B ≤ D) : Rdr B w' r a c p i x y e f := h.same hb.size fun k hk => hb.block k (by omega)
theorem Rdr.bel {B : Nat} {w w' : World} {r : Nat} {a : Option Addr} {c : Nat} {p : List Int} {i x y : Nat} {e f : Int} (h : Rdr B w r a c p i x y e f)
    (hb : Below w.heap.size w w') : Rdr B w' r a c p i x y e f := h.below hb h.Bw
theorem Rdr.drew {B : Nat} {w : World} {r : Nat} {a : Option Addr} {c : Nat} {p : List Int} {i x y : Nat} {e f : Int} (h : Rdr B w r a c p i x y e f) : Rdr B w.drew r a c p i x y e f :=
  h.bel (Below.refl _ _).drew
theorem Rdr.drewN {B : Nat} {w : World} {r : Nat} {a : Option Addr} {c : Nat} {p : List Int} {i x y : Nat} {e f : Int} (h : Rdr B w r a c p i x y e f) (n : Nat) : Rdr B (w.drewN n) r a c p i x y e f :=
  h.bel (bdrewN (Below.refl _ _) n)
theorem Rdr.alloc {B : Nat} {w : World} {r : Nat} {a : Option Addr} {c : Nat} {p : List Int} {i x y : Nat} {e f : Int} (h : Rdr B w r a c p i x y e f) (o : Obj) : Rdr B (w.alloc o) r a c p i x y e f :=
  h.bel ((Below.refl _ _).alloc (Nat.le_refl _) _)
theorem Rdr.kpt {B : Nat} {w w' : World} {F : Nat → Prop} {r : Nat} {a : Option Addr} {c : Nat} {p : List Int} {i x y : Nat} {e f : Int} (h : Rdr B w r a c p i x y e f)
    (hk : Kpt F w w') (hF : ∀ k, F k → B ≤ k) : Rdr B w' r a c p i x y e f :=
  h.same hk.size fun k hl => hk.block k (Nat.lt_of_lt_of_le hl h.Bw) (fun hf => by have := hF k hf; omega)
theorem Rdr.lt {B : Nat} {w : World} {r : Nat} {a : Option Addr} {c : Nat} {p : List Int} {i x y : Nat} {e f : Int} (h : Rdr B w r a c p i x y e f) : r < w.heap.size := Nat.lt_of_lt_of_le h.rB h.Bw
/-- the text is none of the reader's block -/
theorem Rdr.slSet {B : Nat} {w : World} {r : Nat} {a : Option Addr} {c : Nat} {p : List Int} {i x y : Nat} {e f : Int} (h : Rdr B w r a c p i x y e f) (o : Nat) (v : Value) : Sl (w.setCell ⟨r, o, none⟩ v) a p := by
  rcases h.off with h0 | ⟨ad, ha, _, hb⟩
  · subst h0; exact Sl.nil _ _
  · exact h.sl.setOther _ _ fun ad' ha' => by rw [ha] at ha'; cases ha'; exact hb
theorem Rdr.set1 {B : Nat} {w : World} {r : Nat} {a : Option Addr} {c : Nat} {p : List Int} {i x y : Nat} {e f : Int} (h : Rdr B w r a c p i x y e f) (j : Nat) : Rdr B (w.setCell ⟨r, 1, none⟩ (.int .i64 j)) r a c p j x y e f :=
  ⟨cell_set1 h.c0 (by decide), by rw [World.cell?_setCell_same (h := h.c1)], cell_set1 h.c2 (by decide), cell_set1 h.c3 (by decide), cell_set1 h.c4 (by decide), cell_set1 h.c5 (by decide), fun o => by rw [World.frozen?_setCell]; exact h.fz o, h.slSet _ _, h.off, h.rB, by have := h.Bw; simpa using this, h.cap⟩
theorem Rdr.set2 {B : Nat} {w : World} {r : Nat} {a : Option Addr} {c : Nat} {p : List Int} {i x y : Nat} {e f : Int} (h : Rdr B w r a c p i x y e f) (j : Nat) : Rdr B (w.setCell ⟨r, 2, none⟩ (.int .i64 j)) r a c p i j y e f :=
  ⟨cell_set1 h.c0 (by decide), cell_set1 h.c1 (by decide), by rw [World.cell?_setCell_same (h := h.c2)], cell_set1 h.c3 (by decide), cell_set1 h.c4 (by decide), cell_set1 h.c5 (by decide), fun o => by rw [World.frozen?_setCell]; exact h.fz o, h.slSet _ _, h.off, h.rB, by have := h.Bw; simpa using this, h.cap⟩
theorem Rdr.set3 {B : Nat} {w : World} {r : Nat} {a : Option Addr} {c : Nat} {p : List Int} {i x y : Nat} {e f : Int} (h : Rdr B w r a c p i x y e f) (j : Nat) : Rdr B (w.setCell ⟨r, 3, none⟩ (.int .i64 j)) r a c p i x j e f :=
  ⟨cell_set1 h.c0 (by decide), cell_set1 h.c1 (by decide), cell_set1 h.c2 (by decide), by rw [World.cell?_setCell_same (h := h.c3)], cell_set1 h.c4 (by decide), cell_set1 h.c5 (by decide), fun o => by rw [World.frozen?_setCell]; exact h.fz o, h.slSet _ _, h.off, h.rB, by have := h.Bw; simpa using this, h.cap⟩
theorem Rdr.set4 {B : Nat} {w : World} {r : Nat} {a : Option Addr} {c : Nat} {p : List Int} {i x y : Nat} {e f : Int} (h : Rdr B w r a c p i x y e f) (j : Int) : Rdr B (w.setCell ⟨r, 4, none⟩ (.int .i64 j)) r a c p i x y j f :=
  ⟨cell_set1 h.c0 (by decide), cell_set1 h.c1 (by decide), cell_set1 h.c2 (by decide), cell_set1 h.c3 (by decide), by rw [World.cell?_setCell_same (h := h.c4)], cell_set1 h.c5 (by decide), fun o => by rw [World.frozen?_setCell]; exact h.fz o, h.slSet _ _, h.off, h.rB, by have := h.Bw; simpa using this, h.cap⟩
theorem Rdr.set5 {B : Nat} {w : World} {r : Nat} {a : Option Addr} {c : Nat} {p : List Int} {i x y : Nat} {e f : Int} (h : Rdr B w r a c p i x y e f) (j : Int) : Rdr B (w.setCell ⟨r, 5, none⟩ (.int .i64 j)) r a c p i x y e j :=
  ⟨cell_set1 h.c0 (by decide), cell_set1 h.c1 (by decide), cell_set1 h.c2 (by decide), cell_set1 h.c3 (by decide), cell_set1 h.c4 (by decide), by rw [World.cell?_setCell_same (h := h.c5)], fun o => by rw [World.frozen?_setCell]; exact h.fz o, h.slSet _ _, h.off, h.rB, by have := h.Bw; simpa using this, h.cap⟩

/-- the sign at a place; -1: none -/
def nx (p : List Int) (i : Nat) : Int := if i < p.length then gt p i else -1
theorem nx_end {p : List Int} {i : Nat} (h : p.length ≤ i) : nx p i = -1 := by unfold nx; rw [if_neg (by omega)]
theorem nx_lt {p : List Int} {i : Nat} (h : i < p.length) : nx p i = gt p i := by unfold nx; rw [if_pos h]
theorem nx_drop {p : List Int} {i : Nat} {r : Int} {s : List Int} (h : p.drop i = r :: s) : i < p.length ∧ nx p i = r ∧ p.drop (i + 1) = s := by
  have hl : i < p.length := by
    rcases Nat.lt_or_ge i p.length with h1 | h1
    · exact h1
    · rw [List.drop_eq_nil_of_le h1] at h; cases h
  rw [List.drop_eq_getElem_cons hl] at h
  cases h
  exact ⟨hl, by rw [nx_lt hl, gt_get hl], rfl⟩
theorem nx_nil {p : List Int} {i : Nat} (h : p.drop i = []) (hi : i ≤ p.length) : i = p.length ∧ nx p i = -1 := by
  have : p.length ≤ i := List.drop_eq_nil_iff.1 h
  exact ⟨by omega, nx_end this⟩
theorem nx_rng {p : List Int} (h : rng p) (i : Nat) : -2147483648 ≤ nx p i ∧ nx p i ≤ 2147483647 := by
  unfold nx; split
  · exact rng_gt h (by assumption)
  · omega
/-- texts of signs that may be, short -/
def Txt1 (p : List Int) : Prop := p.length ≤ 1000 ∧ ∀ x, x ∈ p → 0 ≤ x
theorem Txt1.nxp {p : List Int} (h : Txt1 p) {i : Nat} (hi : i < p.length) : 0 ≤ nx p i := by rw [nx_lt hi]; exact h.2 _ (gt_mem hi)
theorem Txt1.at_end {p : List Int} (h : Txt1 p) {i : Nat} (hi : nx p i = -1) : p.length ≤ i := by
  rcases Nat.lt_or_ge i p.length with h1 | h1
  · have := h.nxp h1; omega
  · exact h1
end Go.Proofs.YtefgjicegbhcaaaGreat
