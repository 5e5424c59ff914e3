/- Environments in memory, loaded whole: one rule for the walk in place of fifteen cells. -/
import Derived.Test.YtijhkpbnalnpbaaDoorKn
import Derived.Deep.MidRow
namespace Go.Proofs.YtijhkpbnalnpbaaDoor
open Go.RowKit

/-- fifteen cells lie in block b -/
def hasE (w : World) (b : Nat) : Prop := ∀ i, i < 15 → (w.cell? ⟨b, i, none⟩).isSome = true
/-- what they hold -/
def envOf (w : World) (b : Nat) : Value := .agg ((List.range 15).map fun i => (w.cell? ⟨b, i, none⟩).getD (.bool false)).toArray
set_option maxRecDepth 100000 in
theorem load_env (w : World) (b : Nat) (h : hasE w b) : (Instr.loadAt 26 (.pointer (some ⟨b, 0, none⟩))).run Tryd.prog w = .ok (envOf w b) w := by
  unfold envOf
  refine run_loadAt_mid (P := Tryd.prog) w b 0 26 _ _ (fun j v hv => ?_) Tryd.underlying26 rfl (by rw [List.length_map, List.length_range]; kernel_rfl)
  rw [Nat.zero_add]
  rw [List.getElem?_map, Option.map_eq_some_iff] at hv
  obtain ⟨i, hi, rfl⟩ := hv
  have hj : j < 15 := by
    have := (List.getElem?_eq_some_iff.1 hi).1
    simpa using this
  have : i = j := by
    have := List.getElem?_range hj
    rw [hi] at this
    exact Option.some.inj this
  subst this
  have h1 := h i hj
  rw [Option.isSome_iff_exists] at h1
  obtain ⟨x, hx⟩ := h1
  rw [hx]; rfl
/-- the block b holds this value -/
def EnvIs (w : World) (b : Nat) (v : Value) : Prop := hasE w b ∧ envOf w b = v
theorem envIs_of {w : World} {b : Nat} {cs : List Value} (hl : cs.length = 15) (h : ∀ i v, cs[i]? = some v → w.cell? ⟨b, i, none⟩ = some v) : EnvIs w b (.agg cs.toArray) := by
  refine ⟨fun i hi => ?_, ?_⟩
  · rw [h i (cs[i]'(by omega)) (List.getElem?_eq_getElem _)]; rfl
  · unfold envOf
    congr 2
    refine List.ext_getElem (by simp [hl]) (fun i h1 h2 => ?_)
    simp only [List.getElem_map, List.getElem_range]
    rw [h i (cs[i]'h2) (List.getElem?_eq_getElem _)]; rfl
theorem BoxAt.envIs {w : World} {b : Nat} {m : En} (h : BoxAt w b m) : EnvIs w b (.agg (enC m)) :=
  envIs_of (cs := (enC m).toList) rfl (fun i v hv => h.c i v (by simpa using hv))
theorem BoxV.envIs {w : World} {b : Nat} {vs : Array Value} (h : BoxV w b vs) (hs : vs.size = 15) : EnvIs w b (.agg vs) := by
  have := envIs_of (w := w) (b := b) (cs := vs.toList) (by simpa using hs) (fun i v hv => h.c i v (by simpa using hv))
  simpa using this
theorem EnvIs.bel {w w' : World} {b : Nat} {v : Value} (h : EnvIs w b v) (hl : b < w.heap.size) (hb : Below w.heap.size w w') : EnvIs w' b v := by
  have e : ∀ i, w'.cell? ⟨b, i, none⟩ = w.cell? ⟨b, i, none⟩ := fun i => hb.cell (p := ⟨b, i, none⟩) hl
  refine ⟨fun i hi => by rw [e]; exact h.1 i hi, ?_⟩
  rw [← h.2]; unfold envOf; simp only [e]
attribute [irreducible] hasE envOf
/-! ## what stays while the box b is written -/
def EnK (b : Nat) (w : World) (m : En) : Prop := ∀ w', KR b w w' → EnOk w' m
def SlK (b : Nat) (w : World) (a : Option Addr) (l : List Int) : Prop := ∀ w', KR b w w' → Sl w' a l
def ISlK (b : Nat) (w : World) (a : Option Addr) (l : List Int) : Prop := ∀ w', KR b w w' → I.Sl w' a l
def GlK (b : Nat) (w : World) : Prop := ∀ w', KR b w w' → Gl w'
theorem EnK.kr {b : Nat} {w v : World} {m : En} (h : EnK b w m) (k : KR b w v) : EnK b v m := fun w' h' => h w' (k.tr h')
theorem SlK.kr {b : Nat} {w v : World} {a : Option Addr} {l : List Int} (h : SlK b w a l) (k : KR b w v) : SlK b v a l := fun w' h' => h w' (k.tr h')
theorem ISlK.kr {b : Nat} {w v : World} {a : Option Addr} {l : List Int} (h : ISlK b w a l) (k : KR b w v) : ISlK b v a l := fun w' h' => h w' (k.tr h')
theorem GlK.kr {b : Nat} {w v : World} (h : GlK b w) (k : KR b w v) : GlK b v := fun w' h' => h w' (k.tr h')
theorem EnK.at {b : Nat} {w : World} {m : En} (h : EnK b w m) : EnOk w m := h w (Kpt.refl _ _)
theorem SlK.at {b : Nat} {w : World} {a : Option Addr} {l : List Int} (h : SlK b w a l) : Sl w a l := h w (Kpt.refl _ _)
theorem GlK.at {b : Nat} {w : World} (h : GlK b w) : Gl w := h w (Kpt.refl _ _)
/-- what lay before the box was made stays -/
theorem KR.old {b : Nat} {w0 w w' : World} (h : Below w0.heap.size w0 w) (hb : w0.heap.size ≤ b) (hw : b ≤ w.heap.size) (k : KR b w w') : Below w0.heap.size w0 w' := h.trans ((k.belowp hw).mono hb)
theorem EnK.of {b : Nat} {w0 w : World} {m : En} (hm : EnOk w0 m) (h : Below w0.heap.size w0 w) (hb : w0.heap.size ≤ b) (hw : b ≤ w.heap.size) : EnK b w m := fun _ k => hm.bel (KR.old h hb hw k)
theorem SlK.of {b : Nat} {w0 w : World} {a : Option Addr} {l : List Int} (hs : Sl w0 a l) (h : Below w0.heap.size w0 w) (hb : w0.heap.size ≤ b) (hw : b ≤ w.heap.size) : SlK b w a l := fun _ k => hs.bel (KR.old h hb hw k)
theorem ISlK.of {b : Nat} {w0 w : World} {a : Option Addr} {l : List Int} (hs : I.Sl w0 a l) (h : Below w0.heap.size w0 w) (hb : w0.heap.size ≤ b) (hw : b ≤ w.heap.size) : ISlK b w a l := fun _ k => hs.bel (KR.old h hb hw k)
theorem GlK.of {b : Nat} {w0 w : World} (hs : Gl w0) (h : Below w0.heap.size w0 w) (hb : w0.heap.size ≤ b) (hw : b ≤ w.heap.size) : GlK b w := fun _ k => hs.bel (KR.old h hb hw k)
/-- what was made later than the box stays -/
theorem SlK.own {b base c : Nat} {w : World} {a : Option Addr} {l : List Int} (h : Own w base a c l) (hb : b < base) : SlK b w a l := fun _ k => h.sl.kpt (fun ad h1 h2 => h.offlt hb ⟨ad, h1, h2⟩) k
theorem ISlK.own {b base c : Nat} {w : World} {a : Option Addr} {l : List Int} (h : I.Own w base a c l) (hb : b < base) : ISlK b w a l := fun _ k => h.sl.kpt (fun ad h1 h2 => h.offlt hb ⟨ad, h1, h2⟩) k
theorem ISlK.drop {b : Nat} {w : World} {a : Option Addr} {l : List Int} (h : ISlK b w a l) : ISlK b w a l := h
theorem BoxV.bel {w w' : World} {b : Nat} {vs : Array Value} (h : BoxV w b vs) (hb : Below w.heap.size w w') : BoxV w' b vs :=
  h.kpt (F := fun _ => False) (fun h => h) (Kpt.of hb)
end Go.Proofs.YtijhkpbnalnpbaaDoor
