/- The tape: an environment off it. -/
import Derived.Test.YtijhkpbnalnpbaaDoorVz
import Derived.Test.YtijhkpbnalnpbaaDoorVa
import Derived.Deep.RegionLaw
namespace Go.Proofs.YtijhkpbnalnpbaaDoor
open Go.RowKit

/-- texts of ones own, side by side -/
def TXS (w : World) (B : Nat) (ts : List (Option Addr × Nat × List Int)) : Prop := ∀ t, t ∈ ts → Own w B t.1 t.2.1 t.2.2
theorem TXS.kpt {w w' : World} {B p : Nat} {ts : List (Option Addr × Nat × List Int)} (h : TXS w B ts) (hp : p < B) (hk : Kpt (fun k => k = p) w w') : TXS w' B ts := fun t ht =>
  (h t ht).same fun ad ha hlt => hk.block _ hlt fun e => (h t ht).offlt (k := p) hp ⟨ad, ha, e⟩
theorem TXS.snoc {w : World} {B : Nat} {ts : List (Option Addr × Nat × List Int)} {a : Option Addr} {c : Nat} {L : List Int} (h : TXS w B ts) (ho : Own w B a c L) : TXS w B (ts ++ [(a, c, L)]) := fun t ht => by
  rcases List.mem_append.1 ht with h1 | h1
  · exact h t h1
  · rw [List.mem_singleton] at h1; subst h1; exact ho
/-- cells written one after another -/
def chainS (W : World) (R j : Nat) : List Value → World
  | [] => W
  | v :: vs => chainS (W.setCell ⟨R, j, none⟩ v) R (j + 1) vs
theorem Kpt.fb {w w' : World} {B : Nat} (h : Below B w w') : Kpt (fun k => B ≤ k) w w' := ⟨h.os, h.tape, h.output, h.size, fun k _ hn => h.block k (by omega)⟩
/-- a struct's cells, that may be written -/
structure BoxV (W : World) (b : Nat) (vs : Array Value) : Prop where
  c : ∀ i v, vs[i]? = some v → W.cell? ⟨b, i, none⟩ = some v
  f : ∀ i, W.frozen? ⟨b, i, none⟩ = false
  lt : b < W.heap.size
theorem BoxV.new (w : World) (vs : Array Value) (T : TypeId) : BoxV (w.alloc (.cells vs T)) w.heap.size vs :=
  ⟨fun i v h => by rw [cell_alloc_new]; exact h, fun i => by unfold World.frozen?; rw [heap_alloc_new]; rfl, by simp⟩
theorem BoxV.kpt {w w' : World} {F : Nat → Prop} {b : Nat} {vs : Array Value} (h : BoxV w b vs) (hn : ¬ F b) (hk : Kpt F w w') : BoxV w' b vs :=
  ⟨fun i v hv => hk.cell (h.c i v hv) hn, fun i => (hk.frozen (p := ⟨b, i, none⟩) h.lt hn).trans (h.f i), Nat.lt_of_lt_of_le h.lt hk.size⟩
theorem BoxV.set {w : World} {b j : Nat} {vs vs' : Array Value} {v : Value} (h : BoxV w b vs) (hj : j < vs.size) (he : vs' = vs.setIfInBounds j v) : BoxV (w.setCell ⟨b, j, none⟩ v) b vs' := by
  refine ⟨fun i u hu => ?_, fun i => by rw [World.frozen?_setCell]; exact h.f i, by simpa using h.lt⟩
  subst he
  rw [Array.getElem?_setIfInBounds] at hu
  split at hu
  · rename_i e; subst e
    simp only [Option.some.injEq] at hu
    subst hu
    exact World.cell?_setCell_same (h := h.c j _ (Array.getElem?_eq_getElem hj)) ..
  · rename_i e
    exact cell_set1 (h.c i u hu) (fun e2 => e (by simpa using e2))
theorem BoxV.off {w : World} {b b2 j : Nat} {vs : Array Value} {v : Value} (h : BoxV w b vs) (hn : b ≠ b2) : BoxV (w.setCell ⟨b2, j, none⟩ v) b vs :=
  h.kpt (F := fun k => k = b2) hn (Kpt.setCell (F := fun k => k = b2) (p := ⟨b2, j, none⟩) (Kpt.refl _ _) rfl v)
theorem chainS_low {R : Nat} : ∀ (vs : List Value) (W : World) (j k : Nat), k < j → (chainS W R j vs).cell? ⟨R, k, none⟩ = W.cell? ⟨R, k, none⟩
  | [], _, _, _, _ => rfl
  | v :: vs, W, j, k, h => by
    show (chainS (W.setCell ⟨R, j, none⟩ v) R (j + 1) vs).cell? ⟨R, k, none⟩ = _
    rw [chainS_low vs _ (j + 1) k (by omega)]
    exact World.cell?_setCell_other (h := by simp <;> omega) ..
theorem chainS_get {R : Nat} : ∀ (vs : List Value) (W : World) (j : Nat), (∀ i, i < vs.length → ∃ u, W.cell? ⟨R, j + i, none⟩ = some u) → ∀ i (h : i < vs.length), (chainS W R j vs).cell? ⟨R, j + i, none⟩ = some (vs[i]'h)
  | [], _, _, _, _, h => absurd h (by simp)
  | v :: vs, W, j, he, 0, _ => by
    show (chainS (W.setCell ⟨R, j, none⟩ v) R (j + 1) vs).cell? ⟨R, j, none⟩ = some v
    rw [chainS_low vs _ (j + 1) j (by omega)]
    obtain ⟨u, hu⟩ := he 0 (by simp)
    exact World.cell?_setCell_same (h := hu) ..
  | v :: vs, W, j, he, i + 1, h => by
    have h2 : i < vs.length := by simpa using h
    have := chainS_get vs (W.setCell ⟨R, j, none⟩ v) (j + 1) (fun k hk => by
      obtain ⟨u, hu⟩ := he (k + 1) (by simpa using hk)
      rw [show j + 1 + k = j + (k + 1) from by omega]
      exact ⟨u, cell_set1 hu (by omega)⟩) i h2
    rw [show j + 1 + i = j + (i + 1) from by omega] at this
    exact this
theorem Own.cap {w : World} {B : Nat} {a : Option Addr} {c : Nat} {l : List Int} (h : Own w B a c l) : l.length ≤ c := by
  rcases h.shape with ⟨_, rfl, rfl⟩ | ⟨_, _, _, _, h4⟩
  · simp
  · exact h4
theorem I.Own.cap {w : World} {B : Nat} {a : Option Addr} {c : Nat} {l : List Int} (h : I.Own w B a c l) : l.length ≤ c := by
  rcases h.shape with ⟨_, rfl, rfl⟩ | ⟨_, _, _, _, h4⟩
  · simp
  · exact h4
def EnvD (m : En) : Prop := m.t0 = [] ∧ m.t1 = [] ∧ m.t2 = [] ∧ m.t3 = [97, 46, 103, 111] ∧ m.t4 = [47, 104, 111, 109, 101] ∧ m.t5 = [] ∧ m.ix = 0 ∧ m.k0 = 0 ∧ m.k1 = 1 ∧ m.k2 = 1 ∧ m.k3 = 0 ∧ m.k4 = 0 ∧ m.k5 = 0 ∧ m.k6 = 0 ∧ m.dl = []
def Env6E (w : World) (p : Nat) (l : List Int) (e : Ending) (w' : World) : Prop := ∃ m, e = .returned (.agg (enC m)) ∧ EnOk w' m ∧ Below p w w' ∧ (l = [] → EnvD m)
/-- the same, and where the draws lie: in memory of their own, made after the texts -/
def Env6O (w : World) (p : Nat) (l : List Int) (e : Ending) (w' : World) : Prop := ∃ m B, e = .returned (.agg (enC m)) ∧ EnOk w' m ∧ Below p w w' ∧ (l = [] → EnvD m) ∧ I.Own w' B m.da m.dc m.dl ∧ B ≤ w'.heap.size ∧ m.dl.length ≤ 9 ∧ p ≤ B ∧
  ∀ w'', Kpt (fun k => B ≤ k) w' w'' → Sl w'' m.a0 m.t0 ∧ Sl w'' m.a1 m.t1 ∧ Sl w'' m.a2 m.t2 ∧ Sl w'' m.a3 m.t3 ∧ Sl w'' m.a4 m.t4 ∧ Sl w'' m.a5 m.t5
set_option maxHeartbeats 8000000 in
set_option maxRecDepth 100000 in
theorem env16_o (p : Nat) (a : Option Addr) (l : List Int) (c i0 : Nat) (w : World) (ht : TapeAt w p a l c i0) (S : Hid (∀ w', Below p w w' → I.Sl w' a l)) :
    Calls Tryd.prog 7 #[.pointer (some ⟨p, 0, none⟩)] w (Env6O w p l) := by
  have hplt := ht.lt
  have HTw := hid ht
  clear ht
  go_enter Tryd.func7, Tryd.ntmps7
  go_wp2_with fail
  generalize hW : World.alloc w _ = W0
  have hb0 : Below w.heap.size w W0 := by rw [← hW]; exact bal (Below.refl _ _) _
  have hzW : W0.heap.size = w.heap.size + 1 := by rw [← hW]; simp
  have BR0 : Hid (∃ vs, BoxV W0 w.heap.size vs ∧ vs.size = 15) := hid (by rw [← hW]; exact ⟨_, BoxV.new w _ _, rfl⟩)
  clear hW
  obtain ⟨rv, BR0', hrv⟩ := BR0.out
  have hpB : p < W0.heap.size := by omega
  have hpR : w.heap.size ≠ p := by omega
  clear BR0
  have BR0 := hid BR0'
  clear BR0'
  have HT0 : Hid (TapeAt W0 p a l c i0) := hid (HTw.out.below hb0 hplt)
  have HB0 : Hid (Below p w W0) := hid (hb0.mono (Nat.le_of_lt hplt))
  have TX0 : Hid (TXS W0 W0.heap.size []) := hid (fun t h => by simp at h)
  have HZ0 : Hid (W0.heap.size ≤ W0.heap.size) := hid (Nat.le_refl _)
  clear hb0 HTw
  refine (text16_c p a l c i0 6 W0 HT0.out (hid fun w' h => S.out w' (HB0.out.trans h)) (by omega)).mono ?_
  rintro e w1 ⟨x0, y0, L0, rfl, hl, hn, ho, hk, i1, ht⟩
  have HL0 := hid hl
  have HN0 := hid hn
  have HT1 := hid ht
  have HB1 : Hid (Below p w w1) := hid (HB0.out.trans (hk.belowp (Nat.le_of_lt HT0.out.lt)))
  have BR1 := hid (BR0.out.kpt hpR hk)
  have TX1 := hid ((TX0.out.kpt hpB hk).snoc (ho.base_le HZ0.out))
  have HZ1 : Hid (W0.heap.size ≤ w1.heap.size) := hid (Nat.le_trans HZ0.out hk.size)
  clear hl hn ht hk ho TX0 HB0 HT0 HZ0
  go_wp2_with fail
  refine (text16_c p a l c i1 8 w1 HT1.out (hid fun w' h => S.out w' (HB1.out.trans h)) (by omega)).mono ?_
  rintro e w2 ⟨x1, y1, L1, rfl, hl, hn, ho, hk, i2, ht⟩
  have HL1 := hid hl
  have HN1 := hid hn
  have HT2 := hid ht
  have HB2 : Hid (Below p w w2) := hid (HB1.out.trans (hk.belowp (Nat.le_of_lt HT1.out.lt)))
  have BR2 := hid (BR1.out.kpt hpR hk)
  have TX2 := hid ((TX1.out.kpt hpB hk).snoc (ho.base_le HZ1.out))
  have HZ2 : Hid (W0.heap.size ≤ w2.heap.size) := hid (Nat.le_trans HZ1.out hk.size)
  clear hl hn ht hk ho TX1 HB1 HT1 HZ1
  go_wp2_with fail
  refine (text16_c p a l c i2 3 w2 HT2.out (hid fun w' h => S.out w' (HB2.out.trans h)) (by omega)).mono ?_
  rintro e w3 ⟨x2, y2, L2, rfl, hl, hn, ho, hk, i3, ht⟩
  have HL2 := hid hl
  have HN2 := hid hn
  have HT3 := hid ht
  have HB3 : Hid (Below p w w3) := hid (HB2.out.trans (hk.belowp (Nat.le_of_lt HT2.out.lt)))
  have BR3 := hid (BR2.out.kpt hpR hk)
  have TX3 := hid ((TX2.out.kpt hpB hk).snoc (ho.base_le HZ2.out))
  have HZ3 : Hid (W0.heap.size ≤ w3.heap.size) := hid (Nat.le_trans HZ2.out hk.size)
  clear hl hn ht hk ho TX2 HB2 HT2 HZ2
  go_wp2_with fail
  generalize hV : World.alloc w3 _ = V3
  have SA3 : Hid (StrAt V3 w3.heap.size [⟨#[97, 46, 103, 111]⟩, ⟨#[120]⟩, ⟨#[46, 114, 99]⟩, ⟨#[98, 46, 116, 97, 114, 46, 103, 122]⟩, ⟨#[]⟩]) := hid (by rw [← hV]; exact StrAt.new w3 [⟨#[97, 46, 103, 111]⟩, ⟨#[120]⟩, ⟨#[46, 114, 99]⟩, ⟨#[98, 46, 116, 97, 114, 46, 103, 122]⟩, ⟨#[]⟩] _ _ rfl)
  have hbk : Below w3.heap.size w3 V3 := by rw [← hV]; exact bal (Below.refl _ _) _
  clear hV
  have HT3' : Hid (TapeAt V3 p a l c i3) := hid (HT3.out.below hbk HT3.out.lt)
  have HB3' : Hid (Below p w V3) := hid (HB3.out.trans (hbk.mono (Nat.le_of_lt HT3.out.lt)))
  have TX3' := hid (TX3.out.kpt hpB (Kpt.of hbk))
  have BR3' := hid (BR3.out.kpt (F := fun k => k = p) hpR (Kpt.of hbk))
  have HZ3' : Hid (W0.heap.size ≤ V3.heap.size) := hid (Nat.le_trans HZ3.out hbk.size)
  have hne3 : Hid (w3.heap.size ≠ p) := hid (by have := HT3.out.lt; omega)
  clear hbk TX3 HB3 HT3 HZ3
  refine (one16_c [⟨#[97, 46, 103, 111]⟩, ⟨#[120]⟩, ⟨#[46, 114, 99]⟩, ⟨#[98, 46, 116, 97, 114, 46, 103, 122]⟩, ⟨#[]⟩] w3.heap.size 5 5 p a l c i3 V3 HT3'.out (S.out _ HB3'.out) rfl (by decide) (by decide) (by decide +kernel) hne3.out SA3.out).mono ?_
  rintro e w4 ⟨s3, x3, y3, L3, hs, hs0, rfl, hL, ho, ⟨i4, ht⟩, hk⟩
  have HL3 := hid hL
  have HN3 := hid hs0
  have HT4 := hid ht
  have HB4 : Hid (Below p w w4) := hid (HB3'.out.trans (hk.belowp (Nat.le_of_lt HT3'.out.lt)))
  have BR4 := hid (BR3'.out.kpt hpR hk)
  have TX4 := hid ((TX3'.out.kpt hpB hk).snoc (ho.base_le HZ3'.out))
  have HZ4 : Hid (W0.heap.size ≤ w4.heap.size) := hid (Nat.le_trans HZ3'.out hk.size)
  clear hs hs0 hL ht hk ho TX3' HB3' HT3' HZ3' SA3 hne3
  go_wp2_with fail
  generalize hV : World.alloc w4 _ = V4
  have SA4 : Hid (StrAt V4 w4.heap.size [⟨#[47, 104, 111, 109, 101]⟩, ⟨#[]⟩, ⟨#[99]⟩]) := hid (by rw [← hV]; exact StrAt.new w4 [⟨#[47, 104, 111, 109, 101]⟩, ⟨#[]⟩, ⟨#[99]⟩] _ _ rfl)
  have hbk : Below w4.heap.size w4 V4 := by rw [← hV]; exact bal (Below.refl _ _) _
  clear hV
  have HT4' : Hid (TapeAt V4 p a l c i4) := hid (HT4.out.below hbk HT4.out.lt)
  have HB4' : Hid (Below p w V4) := hid (HB4.out.trans (hbk.mono (Nat.le_of_lt HT4.out.lt)))
  have TX4' := hid (TX4.out.kpt hpB (Kpt.of hbk))
  have BR4' := hid (BR4.out.kpt (F := fun k => k = p) hpR (Kpt.of hbk))
  have HZ4' : Hid (W0.heap.size ≤ V4.heap.size) := hid (Nat.le_trans HZ4.out hbk.size)
  have hne4 : Hid (w4.heap.size ≠ p) := hid (by have := HT4.out.lt; omega)
  clear hbk TX4 HB4 HT4 HZ4
  refine (one16_c [⟨#[47, 104, 111, 109, 101]⟩, ⟨#[]⟩, ⟨#[99]⟩] w4.heap.size 3 3 p a l c i4 V4 HT4'.out (S.out _ HB4'.out) rfl (by decide) (by decide) (by decide +kernel) hne4.out SA4.out).mono ?_
  rintro e w5 ⟨s4, x4, y4, L4, hs, hs0, rfl, hL, ho, ⟨i5, ht⟩, hk⟩
  have HL4 := hid hL
  have HN4 := hid hs0
  have HT5 := hid ht
  have HB5 : Hid (Below p w w5) := hid (HB4'.out.trans (hk.belowp (Nat.le_of_lt HT4'.out.lt)))
  have BR5 := hid (BR4'.out.kpt hpR hk)
  have TX5 := hid ((TX4'.out.kpt hpB hk).snoc (ho.base_le HZ4'.out))
  have HZ5 : Hid (W0.heap.size ≤ w5.heap.size) := hid (Nat.le_trans HZ4'.out hk.size)
  clear hs hs0 hL ht hk ho TX4' HB4' HT4' HZ4' SA4 hne4
  go_wp2_with fail
  refine (text16_c p a l c i5 5 w5 HT5.out (hid fun w' h => S.out w' (HB5.out.trans h)) (by omega)).mono ?_
  rintro e w6 ⟨x5, y5, L5, rfl, hl, hn, ho, hk, i6, ht⟩
  have HL5 := hid hl
  have HN5 := hid hn
  have HT6 := hid ht
  have HB6 : Hid (Below p w w6) := hid (HB5.out.trans (hk.belowp (Nat.le_of_lt HT5.out.lt)))
  have BR6 := hid (BR5.out.kpt hpR hk)
  have TX6 := hid ((TX5.out.kpt hpB hk).snoc (ho.base_le HZ5.out))
  have HZ6 : Hid (W0.heap.size ≤ w6.heap.size) := hid (Nat.le_trans HZ5.out hk.size)
  clear hl hn ht hk ho TX5 HB5 HT5 HZ5
  go_wp2_with fail
  refine (next16_c p a l c i6 10000 w6 HT6.out (S.out _ HB6.out) (by omega) (by omega)).mono ?_
  rintro e w7 ⟨v6, hv6, hv0, rfl, ⟨i7, ht⟩, hk⟩
  have HN6 := hid hv0
  have HT7 := hid ht
  have HB7 : Hid (Below p w w7) := hid (HB6.out.trans (hk.belowp (Nat.le_of_lt HT6.out.lt)))
  have TX7 := hid (TX6.out.kpt hpB hk)
  have BR7 := hid (BR6.out.kpt hpR hk)
  have HZ7 : Hid (W0.heap.size ≤ w7.heap.size) := hid (Nat.le_trans HZ6.out hk.size)
  clear hv0 ht hk TX6 HB6 HT6 HZ6 BR6
  go_wp2_with fail
  generalize hV : World.alloc w7 _ = V7
  have hbk : Below w7.heap.size w7 V7 := by rw [← hV]; exact bal (Below.refl _ _) _
  obtain ⟨b, hb⟩ : ∃ b, b = w7.heap.size := ⟨_, rfl⟩
  have BX7 : Hid (BoxV V7 b #[.slice x0 L0.length y0, .slice x1 L1.length y1, .slice x2 L2.length y2, .slice x3 L3.length y3, .slice x4 L4.length y4, .slice x5 L5.length y5, .int .i64 (v6 : Int), .int .i64 0, .int .i64 0, .int .i64 0, .int .i64 0, .int .i64 0, .int .i64 0, .int .i64 0, .slice none 0 0]) := hid (by rw [← hV, hb]; exact BoxV.new w7 _ _)
  rw [← hb]
  have hbp : b ≠ p := by have := HT7.out.lt; omega
  have hbR : w.heap.size ≠ b := by have := BR7.out.lt; omega
  have hbB : W0.heap.size ≤ b := by have := HZ7.out; omega
  have HT7' : Hid (TapeAt V7 p a l c i7) := hid (HT7.out.below hbk HT7.out.lt)
  have HB7' : Hid (Below p w V7) := hid (HB7.out.trans (hbk.mono (Nat.le_of_lt HT7.out.lt)))
  have TX7' := hid (TX7.out.kpt hpB (Kpt.of hbk))
  have BR7' := hid (BR7.out.kpt (F := fun k => k = p) hpR (Kpt.of hbk))
  have HZ7' : Hid (W0.heap.size ≤ V7.heap.size) := hid (Nat.le_trans HZ7.out hbk.size)
  have OFB : Hid (∀ t, t ∈ [(x0, y0, L0), (x1, y1, L1), (x2, y2, L2), (x3, y3, L3), (x4, y4, L4), (x5, y5, L5)] → ¬ Blk t.1 b) := hid (fun t h => (TX7.out t h).off (by omega))
  clear hV hbk HT7 HB7 TX7 BR7 HZ7 hb
  have HT7 := HT7'; have HB7 := HB7'; have TX7 := TX7'; have BR7 := BR7'; have HZ7 := HZ7'
  clear HT7' HB7' TX7' BR7' HZ7'
  refine (next16_c p a l c i7 10000 V7 HT7.out (S.out _ HB7.out) (by omega) (by omega)).mono ?_
  rintro e w8 ⟨v7, hv7, hv0, rfl, ⟨i8, ht⟩, hk⟩
  have HN7 := hid hv0
  have HT8 := hid ht
  have HB8 : Hid (Below p w w8) := hid (HB7.out.trans (hk.belowp (Nat.le_of_lt HT7.out.lt)))
  have TX8 := hid (TX7.out.kpt hpB hk)
  have BR8 := hid (BR7.out.kpt hpR hk)
  have BX8 := hid (BX7.out.kpt hbp hk)
  have HZ8 : Hid (W0.heap.size ≤ w8.heap.size) := hid (Nat.le_trans HZ7.out hk.size)
  clear hv0 ht hk TX7 HB7 HT7 HZ7 BR7 BX7
  go_wp2_with fail
  refine (next16_c p a l c i8 12 w8 HT8.out (S.out _ HB8.out) (by omega) (by omega)).mono ?_
  rintro e w9 ⟨v8, hv8, hv0, rfl, ⟨i9, ht⟩, hk⟩
  have HN8 := hid hv0
  have HT9 := hid ht
  have HB9 : Hid (Below p w w9) := hid (HB8.out.trans (hk.belowp (Nat.le_of_lt HT8.out.lt)))
  have TX9 := hid (TX8.out.kpt hpB hk)
  have BR9 := hid (BR8.out.kpt hpR hk)
  have BX9 := hid (BX8.out.kpt hbp hk)
  have HZ9 : Hid (W0.heap.size ≤ w9.heap.size) := hid (Nat.le_trans HZ8.out hk.size)
  clear hv0 ht hk TX8 HB8 HT8 HZ8 BR8 BX8
  go_wp2_with fail
  refine (next16_c p a l c i9 31 w9 HT9.out (S.out _ HB9.out) (by omega) (by omega)).mono ?_
  rintro e w10 ⟨v9, hv9, hv0, rfl, ⟨i10, ht⟩, hk⟩
  have HN9 := hid hv0
  have HT10 := hid ht
  have HB10 : Hid (Below p w w10) := hid (HB9.out.trans (hk.belowp (Nat.le_of_lt HT9.out.lt)))
  have TX10 := hid (TX9.out.kpt hpB hk)
  have BR10 := hid (BR9.out.kpt hpR hk)
  have BX10 := hid (BX9.out.kpt hbp hk)
  have HZ10 : Hid (W0.heap.size ≤ w10.heap.size) := hid (Nat.le_trans HZ9.out hk.size)
  clear hv0 ht hk TX9 HB9 HT9 HZ9 BR9 BX9
  go_wp2_with fail
  refine (next16_c p a l c i10 24 w10 HT10.out (S.out _ HB10.out) (by omega) (by omega)).mono ?_
  rintro e w11 ⟨v10, hv10, hv0, rfl, ⟨i11, ht⟩, hk⟩
  have HN10 := hid hv0
  have HT11 := hid ht
  have HB11 : Hid (Below p w w11) := hid (HB10.out.trans (hk.belowp (Nat.le_of_lt HT10.out.lt)))
  have TX11 := hid (TX10.out.kpt hpB hk)
  have BR11 := hid (BR10.out.kpt hpR hk)
  have BX11 := hid (BX10.out.kpt hbp hk)
  have HZ11 : Hid (W0.heap.size ≤ w11.heap.size) := hid (Nat.le_trans HZ10.out hk.size)
  clear hv0 ht hk TX10 HB10 HT10 HZ10 BR10 BX10
  go_wp2_with fail
  refine (next16_c p a l c i11 60 w11 HT11.out (S.out _ HB11.out) (by omega) (by omega)).mono ?_
  rintro e w12 ⟨v11, hv11, hv0, rfl, ⟨i12, ht⟩, hk⟩
  have HN11 := hid hv0
  have HT12 := hid ht
  have HB12 : Hid (Below p w w12) := hid (HB11.out.trans (hk.belowp (Nat.le_of_lt HT11.out.lt)))
  have TX12 := hid (TX11.out.kpt hpB hk)
  have BR12 := hid (BR11.out.kpt hpR hk)
  have BX12 := hid (BX11.out.kpt hbp hk)
  have HZ12 : Hid (W0.heap.size ≤ w12.heap.size) := hid (Nat.le_trans HZ11.out hk.size)
  clear hv0 ht hk TX11 HB11 HT11 HZ11 BR11 BX11
  go_wp2_with fail
  refine (next16_c p a l c i12 60 w12 HT12.out (S.out _ HB12.out) (by omega) (by omega)).mono ?_
  rintro e w13 ⟨v12, hv12, hv0, rfl, ⟨i13, ht⟩, hk⟩
  have HN12 := hid hv0
  have HT13 := hid ht
  have HB13 : Hid (Below p w w13) := hid (HB12.out.trans (hk.belowp (Nat.le_of_lt HT12.out.lt)))
  have TX13 := hid (TX12.out.kpt hpB hk)
  have BR13 := hid (BR12.out.kpt hpR hk)
  have BX13 := hid (BX12.out.kpt hbp hk)
  have HZ13 : Hid (W0.heap.size ≤ w13.heap.size) := hid (Nat.le_trans HZ12.out hk.size)
  clear hv0 ht hk TX12 HB12 HT12 HZ12 BR12 BX12
  go_wp2_with fail
  refine (next16_c p a l c i13 7 w13 HT13.out (S.out _ HB13.out) (by omega) (by omega)).mono ?_
  rintro e w14 ⟨v13, hv13, hv0, rfl, ⟨i14, ht⟩, hk⟩
  have HN13 := hid hv0
  have HT14 := hid ht
  have HB14 : Hid (Below p w w14) := hid (HB13.out.trans (hk.belowp (Nat.le_of_lt HT13.out.lt)))
  have TX14 := hid (TX13.out.kpt hpB hk)
  have BR14 := hid (BR13.out.kpt hpR hk)
  have BX14 := hid (BX13.out.kpt hbp hk)
  have HZ14 : Hid (W0.heap.size ≤ w14.heap.size) := hid (Nat.le_trans HZ13.out hk.size)
  clear hv0 ht hk TX13 HB13 HT13 HZ13 BR13 BX13
  have q7 := BX14.out.c 7 _ rfl
  have g7 := BX14.out.f 7
  have q8 := BX14.out.c 8 _ rfl
  have g8 := BX14.out.f 8
  have q9 := BX14.out.c 9 _ rfl
  have g9 := BX14.out.f 9
  have q10 := BX14.out.c 10 _ rfl
  have g10 := BX14.out.f 10
  have q11 := BX14.out.c 11 _ rfl
  have g11 := BX14.out.f 11
  have q12 := BX14.out.c 12 _ rfl
  have g12 := BX14.out.f 12
  have q13 := BX14.out.c 13 _ rfl
  have g13 := BX14.out.f 13
  go_wp2_with fail
  generalize hV : World.setCell _ _ _ = V14
  clear q7 g7 q8 g8 q9 g9 q10 g10 q11 g11 q12 g12 q13 g13
  have hVe : V14 = (((((((w14.setCell ⟨b, 7, none⟩ (.int .i64 (v7 : Int))).setCell ⟨b, 8, none⟩ (.int .i64 (1 + (v8 : Int)))).setCell ⟨b, 9, none⟩ (.int .i64 (1 + (v9 : Int)))).setCell ⟨b, 10, none⟩ (.int .i64 (v10 : Int))).setCell ⟨b, 11, none⟩ (.int .i64 (v11 : Int))).setCell ⟨b, 12, none⟩ (.int .i64 (v12 : Int))).setCell ⟨b, 13, none⟩ (.int .i64 (v13 : Int))) := hV.symm
  have kb : Kpt (fun k => k = b) w14 V14 := by
    rw [hVe]; exact ((((((((Kpt.refl _ _).setCell (F := fun k => k = b) (p := ⟨b, 7, none⟩) rfl _).setCell (F := fun k => k = b) (p := ⟨b, 8, none⟩) rfl _).setCell (F := fun k => k = b) (p := ⟨b, 9, none⟩) rfl _).setCell (F := fun k => k = b) (p := ⟨b, 10, none⟩) rfl _).setCell (F := fun k => k = b) (p := ⟨b, 11, none⟩) rfl _).setCell (F := fun k => k = b) (p := ⟨b, 12, none⟩) rfl _).setCell (F := fun k => k = b) (p := ⟨b, 13, none⟩) rfl _)
  have BX14' : Hid (BoxV V14 b #[.slice x0 L0.length y0, .slice x1 L1.length y1, .slice x2 L2.length y2, .slice x3 L3.length y3, .slice x4 L4.length y4, .slice x5 L5.length y5, .int .i64 (v6 : Int), .int .i64 (v7 : Int), .int .i64 (1 + (v8 : Int)), .int .i64 (1 + (v9 : Int)), .int .i64 (v10 : Int), .int .i64 (v11 : Int), .int .i64 (v12 : Int), .int .i64 (v13 : Int), .slice none 0 0]) := hid (by rw [hVe]; exact (((((((BX14.out.set (j := 7) (vs' := #[.slice x0 L0.length y0, .slice x1 L1.length y1, .slice x2 L2.length y2, .slice x3 L3.length y3, .slice x4 L4.length y4, .slice x5 L5.length y5, .int .i64 (v6 : Int), .int .i64 (v7 : Int), .int .i64 0, .int .i64 0, .int .i64 0, .int .i64 0, .int .i64 0, .int .i64 0, .slice none 0 0]) (v := .int .i64 (v7 : Int)) (by simp) rfl).set (j := 8) (vs' := #[.slice x0 L0.length y0, .slice x1 L1.length y1, .slice x2 L2.length y2, .slice x3 L3.length y3, .slice x4 L4.length y4, .slice x5 L5.length y5, .int .i64 (v6 : Int), .int .i64 (v7 : Int), .int .i64 (1 + (v8 : Int)), .int .i64 0, .int .i64 0, .int .i64 0, .int .i64 0, .int .i64 0, .slice none 0 0]) (v := .int .i64 (1 + (v8 : Int))) (by simp) rfl).set (j := 9) (vs' := #[.slice x0 L0.length y0, .slice x1 L1.length y1, .slice x2 L2.length y2, .slice x3 L3.length y3, .slice x4 L4.length y4, .slice x5 L5.length y5, .int .i64 (v6 : Int), .int .i64 (v7 : Int), .int .i64 (1 + (v8 : Int)), .int .i64 (1 + (v9 : Int)), .int .i64 0, .int .i64 0, .int .i64 0, .int .i64 0, .slice none 0 0]) (v := .int .i64 (1 + (v9 : Int))) (by simp) rfl).set (j := 10) (vs' := #[.slice x0 L0.length y0, .slice x1 L1.length y1, .slice x2 L2.length y2, .slice x3 L3.length y3, .slice x4 L4.length y4, .slice x5 L5.length y5, .int .i64 (v6 : Int), .int .i64 (v7 : Int), .int .i64 (1 + (v8 : Int)), .int .i64 (1 + (v9 : Int)), .int .i64 (v10 : Int), .int .i64 0, .int .i64 0, .int .i64 0, .slice none 0 0]) (v := .int .i64 (v10 : Int)) (by simp) rfl).set (j := 11) (vs' := #[.slice x0 L0.length y0, .slice x1 L1.length y1, .slice x2 L2.length y2, .slice x3 L3.length y3, .slice x4 L4.length y4, .slice x5 L5.length y5, .int .i64 (v6 : Int), .int .i64 (v7 : Int), .int .i64 (1 + (v8 : Int)), .int .i64 (1 + (v9 : Int)), .int .i64 (v10 : Int), .int .i64 (v11 : Int), .int .i64 0, .int .i64 0, .slice none 0 0]) (v := .int .i64 (v11 : Int)) (by simp) rfl).set (j := 12) (vs' := #[.slice x0 L0.length y0, .slice x1 L1.length y1, .slice x2 L2.length y2, .slice x3 L3.length y3, .slice x4 L4.length y4, .slice x5 L5.length y5, .int .i64 (v6 : Int), .int .i64 (v7 : Int), .int .i64 (1 + (v8 : Int)), .int .i64 (1 + (v9 : Int)), .int .i64 (v10 : Int), .int .i64 (v11 : Int), .int .i64 (v12 : Int), .int .i64 0, .slice none 0 0]) (v := .int .i64 (v12 : Int)) (by simp) rfl).set (j := 13) (vs' := #[.slice x0 L0.length y0, .slice x1 L1.length y1, .slice x2 L2.length y2, .slice x3 L3.length y3, .slice x4 L4.length y4, .slice x5 L5.length y5, .int .i64 (v6 : Int), .int .i64 (v7 : Int), .int .i64 (1 + (v8 : Int)), .int .i64 (1 + (v9 : Int)), .int .i64 (v10 : Int), .int .i64 (v11 : Int), .int .i64 (v12 : Int), .int .i64 (v13 : Int), .slice none 0 0]) (v := .int .i64 (v13 : Int)) (by simp) rfl))
  have BR14' := hid (BR14.out.kpt (F := fun k => k = b) hbR kb)
  have HT14' : Hid (TapeAt V14 p a l c i14) := hid (HT14.out.below (B := b) (kb.below (fun k h => by omega) (by have := BX14.out.lt; omega)) (by omega))
  have HB14' : Hid (Below p w V14) := hid (HB14.out.trans (kb.below (fun k h => by omega) (by have := HT14.out.lt; omega)))
  have TX14' : Hid (TXS V14 W0.heap.size [(x0, y0, L0), (x1, y1, L1), (x2, y2, L2), (x3, y3, L3), (x4, y4, L4), (x5, y5, L5)]) := hid (fun t h => (TX14.out t h).same fun ad ha hlt => kb.block _ hlt (fun e => OFB.out t h ⟨ad, ha, e⟩))
  have HZ14' : Hid (W0.heap.size ≤ V14.heap.size) := hid (Nat.le_trans HZ14.out kb.size)
  clear hV hVe kb BX14 BR14 HT14 HB14 TX14 HZ14
  have HT14 := HT14'; have HB14 := HB14'; have TX14 := TX14'; have BR14 := BR14'; have BX14 := BX14'; have HZ14 := HZ14'
  clear HT14' HB14' TX14' BR14' HZ14' BX14'
  refine (next16_c p a l c i14 9 V14 HT14.out (S.out _ HB14.out) (by omega) (by omega)).mono ?_
  rintro e w15 ⟨v14, hv14, hv0, rfl, ⟨i15, ht⟩, hk⟩
  have HN14 := hid hv0
  have HT15 := hid ht
  have HB15 : Hid (Below p w w15) := hid (HB14.out.trans (hk.belowp (Nat.le_of_lt HT14.out.lt)))
  have TX15 := hid (TX14.out.kpt hpB hk)
  have BR15 := hid (BR14.out.kpt hpR hk)
  have BX15 := hid (BX14.out.kpt hbp hk)
  have HZ15 : Hid (W0.heap.size ≤ w15.heap.size) := hid (Nat.le_trans HZ14.out hk.size)
  clear hv0 ht hk TX14 HB14 HT14 HZ14 BR14 BX14
  go_wp2_with fail
  have hbL : b < w15.heap.size := BX15.out.lt
  have hpL : p < w15.heap.size := HT15.out.lt
  go_loopw [4] (fun nv wr => ∃ (r i : Nat) (da : Option Addr) (dc : Nat) (dl : List Int), nv = .int .i64 r ∧ dl.length + r ≤ 9 ∧ Hid (l = [] → r = 0 ∧ dl = []) ∧ Hid (BoxV wr b #[.slice x0 L0.length y0, .slice x1 L1.length y1, .slice x2 L2.length y2, .slice x3 L3.length y3, .slice x4 L4.length y4, .slice x5 L5.length y5, .int .i64 (v6 : Int), .int .i64 (v7 : Int), .int .i64 (1 + (v8 : Int)), .int .i64 (1 + (v9 : Int)), .int .i64 (v10 : Int), .int .i64 (v11 : Int), .int .i64 (v12 : Int), .int .i64 (v13 : Int), .slice da dl.length dc]) ∧ Hid (I.Own wr w15.heap.size da dc dl) ∧ Hid (TapeAt wr p a l c i) ∧ Hid (Kpt (fun k => k = p ∨ k = b) w15 wr)) (fun nv _ => (intOf nv).toNat)
  case atStart => exact ⟨v14, i15, none, 0, [], rfl, by simp; omega, hid (fun h => ⟨HN14.out h, rfl⟩), BX15, hid (I.Own.nil _ _), HT15, hid (Kpt.refl _ _)⟩
  case round =>
    obtain ⟨r, i, da, dc, dl, rfl, hrl, hl0, BX, HO, HTr, HK⟩ := hrel
    by_cases hr : 0 < r
    · have b1 : decide (0 < r) = true := by simpa using hr
      have hplr := HTr.out.lt
      have hzL := HK.out.size
      have c14 := BX.out.c 14 _ rfl
      have Hlen := hid hrl
      have cd14 : wr.drew.cell? ⟨b, 14, none⟩ = some (.slice da dl.length dc) := c14
      have HTd : Hid (TapeAt wr.drew p a l c i) := hid (HTr.out.below (Below.refl wr.heap.size wr).drew hplr)
      have hbd : Hid (Below p w wr.drew) := hid ((HB15.out.trans (HK.out.below (fun k h => by rcases h with h | h <;> omega) (Nat.le_of_lt hpL))).drew)
      go_upto_region 6 with fail
      have NX := hid (next16_c p a l c i 16777216 wr.drew HTd.out (S.out _ hbd.out) (by omega) (by omega))
      go_region_law
        (first
          | (go_simp; go_at_call 17; refine NX.out.mono ?_; rintro e wn ⟨vd, hvd, hvd0, rfl, ⟨i', ht'⟩, hk'⟩; have HKn := hid ((Kpt.refl (fun k => k = p) wr).drew.tr hk'); have BXn := hid (BX.out.kpt hbp HKn.out); have cn14 := BXn.out.c 14 _ rfl; have ca14 : ∀ o, (wn.alloc o).cell? ⟨b, 14, none⟩ = some (.slice da dl.length dc) := (fun o => (Below.cell (p := ⟨b, 14, none⟩) (bal (Below.refl wn.heap.size wn) o) BXn.out.lt).trans cn14); have HTn := hid ht'; have hzn := hk'.size; have HOn := hid (HO.out.same fun ad ha hlt => HKn.out.block _ hlt fun e => HO.out.offlt (k := p) hpL ⟨ad, ha, e⟩); clear hk' ht' hvd0)
          | (((refine I.step_appn rfl (.tmp 47) (.tmp 50) rfl w15.heap.size da (some ⟨wn.heap.size, 0, none⟩) dl.length 1 dc 1 dl [(vd : Int)] rfl (by first | rfl | simp | omega) (HOn.out.grow (bal (Below.refl _ _) _)) rfl (by first | rfl | simp | omega) (I.Sl.lit' wn [(vd : Int)] _ _ rfl (by simp) (I.rng_one (by omega)) _ rfl) (by simp; omega) (by have : wr.heap.size ≤ wn.heap.size := hzn; simp; omega) ?_); intro a30 c30 w30 L30 Hl30 ho30 hb30 hk30 hA30; have HA30 := hid hA30; clear hA30; have Ho30 := hid ho30; clear ho30; have Hk30 := hid hk30; clear hk30; have hz30 := hb30.size); have BX30 := hid (BXn.out.kpt (F := fun k => w15.heap.size ≤ k) (by omega) ((Kpt.of (bal (Below.refl _ _) _)).tr (Kpt.fb hb30))); have c30' := BX30.out.c 14 _ rfl; have f30' := BX30.out.f 14))
      all_goals go_wp2
      all_goals go_roundw
      all_goals first
        | exact ⟨r - 1, i', a30, c30, L30, by go_num, by rw [Hl30.out]; simp; omega, hid (fun h => absurd (hl0.out h).1 (by omega)), hid (BX30.out.set (j := 14) (by simp) rfl), hid (Ho30.out.setOther _ _ (fun ad ha e => Ho30.out.offlt (k := b) hbL ⟨ad, ha, e⟩)), hid (((HTn.out.below (bal (Below.refl _ _) _) HTn.out.lt).below hb30 hpL).below ((Below.refl b w30).setCell (Nat.le_refl _) _) (by omega)), hid ((((HK.out.tr (HKn.out.mono (fun k h => .inl h))).alloc _).bl hb30).setCell (F := fun k => k = p ∨ k = b) (p := ⟨b, 14, none⟩) (.inr rfl) _)⟩
        | (simp [intOf]; omega)
    · have b1 : decide (0 < r) = false := by simpa using hr
      have BRr : Hid (BoxV wr w.heap.size rv) := hid (BR15.out.kpt (F := fun k => k = p ∨ k = b) (fun h => by rcases h with h | h; exact hpR h; exact hbR h) HK.out)
      have HWR : Hid (Below p w wr) := hid (HB15.out.trans (HK.out.below (fun k h => by rcases h with h | h <;> omega) (Nat.le_of_lt hpL)))
      have TXr : Hid (TXS wr W0.heap.size [(x0, y0, L0), (x1, y1, L1), (x2, y2, L2), (x3, y3, L3), (x4, y4, L4), (x5, y5, L5)]) := hid (fun t h => (TX15.out t h).same fun ad ha hlt => HK.out.block _ hlt (fun e => by
        rcases e with e | e
        · exact (TX15.out t h).offlt (k := p) hpB ⟨ad, ha, e⟩
        · exact OFB.out t h ⟨ad, ha, e⟩))
      have q0 := BX.out.c 0 _ rfl
      have r0 := BRr.out.c 0 _ (Array.getElem?_eq_getElem (by omega))
      have z0 := BRr.out.f 0
      have q1 := BX.out.c 1 _ rfl
      have r1 := BRr.out.c 1 _ (Array.getElem?_eq_getElem (by omega))
      have z1 := BRr.out.f 1
      have q2 := BX.out.c 2 _ rfl
      have r2 := BRr.out.c 2 _ (Array.getElem?_eq_getElem (by omega))
      have z2 := BRr.out.f 2
      have q3 := BX.out.c 3 _ rfl
      have r3 := BRr.out.c 3 _ (Array.getElem?_eq_getElem (by omega))
      have z3 := BRr.out.f 3
      have q4 := BX.out.c 4 _ rfl
      have r4 := BRr.out.c 4 _ (Array.getElem?_eq_getElem (by omega))
      have z4 := BRr.out.f 4
      have q5 := BX.out.c 5 _ rfl
      have r5 := BRr.out.c 5 _ (Array.getElem?_eq_getElem (by omega))
      have z5 := BRr.out.f 5
      have q6 := BX.out.c 6 _ rfl
      have r6 := BRr.out.c 6 _ (Array.getElem?_eq_getElem (by omega))
      have z6 := BRr.out.f 6
      have q7 := BX.out.c 7 _ rfl
      have r7 := BRr.out.c 7 _ (Array.getElem?_eq_getElem (by omega))
      have z7 := BRr.out.f 7
      have q8 := BX.out.c 8 _ rfl
      have r8 := BRr.out.c 8 _ (Array.getElem?_eq_getElem (by omega))
      have z8 := BRr.out.f 8
      have q9 := BX.out.c 9 _ rfl
      have r9 := BRr.out.c 9 _ (Array.getElem?_eq_getElem (by omega))
      have z9 := BRr.out.f 9
      have q10 := BX.out.c 10 _ rfl
      have r10 := BRr.out.c 10 _ (Array.getElem?_eq_getElem (by omega))
      have z10 := BRr.out.f 10
      have q11 := BX.out.c 11 _ rfl
      have r11 := BRr.out.c 11 _ (Array.getElem?_eq_getElem (by omega))
      have z11 := BRr.out.f 11
      have q12 := BX.out.c 12 _ rfl
      have r12 := BRr.out.c 12 _ (Array.getElem?_eq_getElem (by omega))
      have z12 := BRr.out.f 12
      have q13 := BX.out.c 13 _ rfl
      have r13 := BRr.out.c 13 _ (Array.getElem?_eq_getElem (by omega))
      have z13 := BRr.out.f 13
      have q14 := BX.out.c 14 _ rfl
      have r14 := BRr.out.c 14 _ (Array.getElem?_eq_getElem (by omega))
      have z14 := BRr.out.f 14
      go_wp2
      generalize hV : World.setCell _ _ _ = VF
      clear q0 r0 z0 q1 r1 z1 q2 r2 z2 q3 r3 z3 q4 r4 z4 q5 r5 z5 q6 r6 z6 q7 r7 z7 q8 r8 z8 q9 r9 z9 q10 r10 z10 q11 r11 z11 q12 r12 z12 q13 r13 z13 q14 r14 z14
      have hVe : VF = (((((((((((((((wr.setCell ⟨w.heap.size, 0, none⟩ (.slice x0 L0.length y0)).setCell ⟨w.heap.size, 1, none⟩ (.slice x1 L1.length y1)).setCell ⟨w.heap.size, 2, none⟩ (.slice x2 L2.length y2)).setCell ⟨w.heap.size, 3, none⟩ (.slice x3 L3.length y3)).setCell ⟨w.heap.size, 4, none⟩ (.slice x4 L4.length y4)).setCell ⟨w.heap.size, 5, none⟩ (.slice x5 L5.length y5)).setCell ⟨w.heap.size, 6, none⟩ (.int .i64 (v6 : Int))).setCell ⟨w.heap.size, 7, none⟩ (.int .i64 (v7 : Int))).setCell ⟨w.heap.size, 8, none⟩ (.int .i64 (1 + (v8 : Int)))).setCell ⟨w.heap.size, 9, none⟩ (.int .i64 (1 + (v9 : Int)))).setCell ⟨w.heap.size, 10, none⟩ (.int .i64 (v10 : Int))).setCell ⟨w.heap.size, 11, none⟩ (.int .i64 (v11 : Int))).setCell ⟨w.heap.size, 12, none⟩ (.int .i64 (v12 : Int))).setCell ⟨w.heap.size, 13, none⟩ (.int .i64 (v13 : Int))).setCell ⟨w.heap.size, 14, none⟩ (.slice da dl.length dc)) := hV.symm
      have kR : Hid (Kpt (fun k => k = w.heap.size) wr VF) := hid (by rw [hVe]; exact ((((((((((((((((Kpt.refl _ _).setCell (F := fun k => k = w.heap.size) (p := ⟨w.heap.size, 0, none⟩) rfl _).setCell (F := fun k => k = w.heap.size) (p := ⟨w.heap.size, 1, none⟩) rfl _).setCell (F := fun k => k = w.heap.size) (p := ⟨w.heap.size, 2, none⟩) rfl _).setCell (F := fun k => k = w.heap.size) (p := ⟨w.heap.size, 3, none⟩) rfl _).setCell (F := fun k => k = w.heap.size) (p := ⟨w.heap.size, 4, none⟩) rfl _).setCell (F := fun k => k = w.heap.size) (p := ⟨w.heap.size, 5, none⟩) rfl _).setCell (F := fun k => k = w.heap.size) (p := ⟨w.heap.size, 6, none⟩) rfl _).setCell (F := fun k => k = w.heap.size) (p := ⟨w.heap.size, 7, none⟩) rfl _).setCell (F := fun k => k = w.heap.size) (p := ⟨w.heap.size, 8, none⟩) rfl _).setCell (F := fun k => k = w.heap.size) (p := ⟨w.heap.size, 9, none⟩) rfl _).setCell (F := fun k => k = w.heap.size) (p := ⟨w.heap.size, 10, none⟩) rfl _).setCell (F := fun k => k = w.heap.size) (p := ⟨w.heap.size, 11, none⟩) rfl _).setCell (F := fun k => k = w.heap.size) (p := ⟨w.heap.size, 12, none⟩) rfl _).setCell (F := fun k => k = w.heap.size) (p := ⟨w.heap.size, 13, none⟩) rfl _).setCell (F := fun k => k = w.heap.size) (p := ⟨w.heap.size, 14, none⟩) rfl _))
      have hex : ∀ i, i < 15 → ∃ u, wr.cell? ⟨w.heap.size, 0 + i, none⟩ = some u := fun i hi => ⟨_, by rw [Nat.zero_add]; exact BRr.out.c i _ (Array.getElem?_eq_getElem (by omega))⟩
      have CF : ∀ i (h : i < ([.slice x0 L0.length y0, .slice x1 L1.length y1, .slice x2 L2.length y2, .slice x3 L3.length y3, .slice x4 L4.length y4, .slice x5 L5.length y5, .int .i64 (v6 : Int), .int .i64 (v7 : Int), .int .i64 (1 + (v8 : Int)), .int .i64 (1 + (v9 : Int)), .int .i64 (v10 : Int), .int .i64 (v11 : Int), .int .i64 (v12 : Int), .int .i64 (v13 : Int), .slice da dl.length dc] : List Value).length), VF.cell? ⟨w.heap.size, 0 + i, none⟩ = some (([.slice x0 L0.length y0, .slice x1 L1.length y1, .slice x2 L2.length y2, .slice x3 L3.length y3, .slice x4 L4.length y4, .slice x5 L5.length y5, .int .i64 (v6 : Int), .int .i64 (v7 : Int), .int .i64 (1 + (v8 : Int)), .int .i64 (1 + (v9 : Int)), .int .i64 (v10 : Int), .int .i64 (v11 : Int), .int .i64 (v12 : Int), .int .i64 (v13 : Int), .slice da dl.length dc] : List Value)[i]'h) := by
        rw [hVe]; exact chainS_get [.slice x0 L0.length y0, .slice x1 L1.length y1, .slice x2 L2.length y2, .slice x3 L3.length y3, .slice x4 L4.length y4, .slice x5 L5.length y5, .int .i64 (v6 : Int), .int .i64 (v7 : Int), .int .i64 (1 + (v8 : Int)), .int .i64 (1 + (v9 : Int)), .int .i64 (v10 : Int), .int .i64 (v11 : Int), .int .i64 (v12 : Int), .int .i64 (v13 : Int), .slice da dl.length dc] wr 0 hex
      have e0 : VF.cell? ⟨w.heap.size, 0, none⟩ = some (.slice x0 L0.length y0) := CF 0 (by simp)
      have e1 : VF.cell? ⟨w.heap.size, 1, none⟩ = some (.slice x1 L1.length y1) := CF 1 (by simp)
      have e2 : VF.cell? ⟨w.heap.size, 2, none⟩ = some (.slice x2 L2.length y2) := CF 2 (by simp)
      have e3 : VF.cell? ⟨w.heap.size, 3, none⟩ = some (.slice x3 L3.length y3) := CF 3 (by simp)
      have e4 : VF.cell? ⟨w.heap.size, 4, none⟩ = some (.slice x4 L4.length y4) := CF 4 (by simp)
      have e5 : VF.cell? ⟨w.heap.size, 5, none⟩ = some (.slice x5 L5.length y5) := CF 5 (by simp)
      have e6 : VF.cell? ⟨w.heap.size, 6, none⟩ = some (.int .i64 (v6 : Int)) := CF 6 (by simp)
      have e7 : VF.cell? ⟨w.heap.size, 7, none⟩ = some (.int .i64 (v7 : Int)) := CF 7 (by simp)
      have e8 : VF.cell? ⟨w.heap.size, 8, none⟩ = some (.int .i64 (1 + (v8 : Int))) := CF 8 (by simp)
      have e9 : VF.cell? ⟨w.heap.size, 9, none⟩ = some (.int .i64 (1 + (v9 : Int))) := CF 9 (by simp)
      have e10 : VF.cell? ⟨w.heap.size, 10, none⟩ = some (.int .i64 (v10 : Int)) := CF 10 (by simp)
      have e11 : VF.cell? ⟨w.heap.size, 11, none⟩ = some (.int .i64 (v11 : Int)) := CF 11 (by simp)
      have e12 : VF.cell? ⟨w.heap.size, 12, none⟩ = some (.int .i64 (v12 : Int)) := CF 12 (by simp)
      have e13 : VF.cell? ⟨w.heap.size, 13, none⟩ = some (.int .i64 (v13 : Int)) := CF 13 (by simp)
      have e14 : VF.cell? ⟨w.heap.size, 14, none⟩ = some (.slice da dl.length dc) := CF 14 (by simp)
      clear CF hex hVe hV
      have EN : Hid (EnOk VF ⟨x0, L0, y0, x1, L1, y1, x2, L2, y2, x3, L3, y3, x4, L4, y4, x5, L5, y5, (v6 : Int), (v7 : Int), (1 + (v8 : Int)), (1 + (v9 : Int)), (v10 : Int), (v11 : Int), (v12 : Int), (v13 : Int), da, dl, dc⟩) := hid ⟨(TXr.out (x0, y0, L0) (by simp)).sl.kpt (fun ad ha e => (TXr.out (x0, y0, L0) (by simp)).offlt (k := w.heap.size) (by omega) ⟨ad, ha, e⟩) kR.out, (TXr.out (x1, y1, L1) (by simp)).sl.kpt (fun ad ha e => (TXr.out (x1, y1, L1) (by simp)).offlt (k := w.heap.size) (by omega) ⟨ad, ha, e⟩) kR.out, (TXr.out (x2, y2, L2) (by simp)).sl.kpt (fun ad ha e => (TXr.out (x2, y2, L2) (by simp)).offlt (k := w.heap.size) (by omega) ⟨ad, ha, e⟩) kR.out, (TXr.out (x3, y3, L3) (by simp)).sl.kpt (fun ad ha e => (TXr.out (x3, y3, L3) (by simp)).offlt (k := w.heap.size) (by omega) ⟨ad, ha, e⟩) kR.out, (TXr.out (x4, y4, L4) (by simp)).sl.kpt (fun ad ha e => (TXr.out (x4, y4, L4) (by simp)).offlt (k := w.heap.size) (by omega) ⟨ad, ha, e⟩) kR.out, (TXr.out (x5, y5, L5) (by simp)).sl.kpt (fun ad ha e => (TXr.out (x5, y5, L5) (by simp)).offlt (k := w.heap.size) (by omega) ⟨ad, ha, e⟩) kR.out, HO.out.sl.kpt (fun ad ha e => HO.out.offlt (k := w.heap.size) (by omega) ⟨ad, ha, e⟩) kR.out, (TXr.out (x0, y0, L0) (by simp)).cap, (TXr.out (x1, y1, L1) (by simp)).cap, (TXr.out (x2, y2, L2) (by simp)).cap, (TXr.out (x3, y3, L3) (by simp)).cap, (TXr.out (x4, y4, L4) (by simp)).cap, (TXr.out (x5, y5, L5) (by simp)).cap, HO.out.cap⟩
      have OV : Hid (I.Own VF w15.heap.size da dc dl) := hid (HO.out.same fun ad ha hlt => kR.out.block _ hlt (fun e => HO.out.offlt (k := w.heap.size) (by omega) ⟨ad, ha, e⟩))
      have BF : Hid (Below p w VF) := hid (HWR.out.trans (kR.out.below (fun k h => by omega) (by have := HWR.out.size; omega)))
      have ED : Hid (l = [] → EnvD ⟨x0, L0, y0, x1, L1, y1, x2, L2, y2, x3, L3, y3, x4, L4, y4, x5, L5, y5, (v6 : Int), (v7 : Int), (1 + (v8 : Int)), (1 + (v9 : Int)), (v10 : Int), (v11 : Int), (v12 : Int), (v13 : Int), da, dl, dc⟩) := hid (fun h => by
        have n3 := HN3.out h
        have n4 := HN4.out h
        simp only [List.getElem?_cons_zero, Option.some.injEq] at n3 n4
        exact ⟨HN0.out h, HN1.out h, HN2.out h, by show L3 = _; rw [HL3.out, ← n3]; rfl, by show L4 = _; rw [HL4.out, ← n4]; rfl, HN5.out h, by show (v6 : Int) = 0; rw [HN6.out h]; rfl, by show (v7 : Int) = 0; rw [HN7.out h]; rfl, by show 1 + (v8 : Int) = 1; rw [HN8.out h]; rfl, by show 1 + (v9 : Int) = 1; rw [HN9.out h]; rfl, by show (v10 : Int) = 0; rw [HN10.out h]; rfl, by show (v11 : Int) = 0; rw [HN11.out h]; rfl, by show (v12 : Int) = 0; rw [HN12.out h]; rfl, by show (v13 : Int) = 0; rw [HN13.out h]; rfl, (hl0.out h).2⟩)
      refine bodyPost_ret (v := .agg #[.slice x0 L0.length y0, .slice x1 L1.length y1, .slice x2 L2.length y2, .slice x3 L3.length y3, .slice x4 L4.length y4, .slice x5 L5.length y5, .int .i64 (v6 : Int), .int .i64 (v7 : Int), .int .i64 (1 + (v8 : Int)), .int .i64 (1 + (v9 : Int)), .int .i64 (v10 : Int), .int .i64 (v11 : Int), .int .i64 (v12 : Int), .int .i64 (v13 : Int), .slice da dl.length dc]) (by simp [results, Tryd.results7, go_sem, e0, e1, e2, e3, e4, e5, e6, e7, e8, e9, e10, e11, e12, e13, e14]) rfl ⟨⟨x0, L0, y0, x1, L1, y1, x2, L2, y2, x3, L3, y3, x4, L4, y4, x5, L5, y5, (v6 : Int), (v7 : Int), (1 + (v8 : Int)), (1 + (v9 : Int)), (v10 : Int), (v11 : Int), (v12 : Int), (v13 : Int), da, dl, dc⟩, w15.heap.size, rfl, EN.out, BF.out, ED.out, OV.out, Nat.le_trans HK.out.size kR.out.size, (by have := hrl; simp only at this ⊢; omega), Nat.le_of_lt hpL, fun w'' hk => ⟨EN.out.s0.kpt (fun ad ha hB => (TX15.out (x0, y0, L0) (by simp)).off (k := ad.block) hB ⟨ad, ha, rfl⟩) hk, EN.out.s1.kpt (fun ad ha hB => (TX15.out (x1, y1, L1) (by simp)).off (k := ad.block) hB ⟨ad, ha, rfl⟩) hk, EN.out.s2.kpt (fun ad ha hB => (TX15.out (x2, y2, L2) (by simp)).off (k := ad.block) hB ⟨ad, ha, rfl⟩) hk, EN.out.s3.kpt (fun ad ha hB => (TX15.out (x3, y3, L3) (by simp)).off (k := ad.block) hB ⟨ad, ha, rfl⟩) hk, EN.out.s4.kpt (fun ad ha hB => (TX15.out (x4, y4, L4) (by simp)).off (k := ad.block) hB ⟨ad, ha, rfl⟩) hk, EN.out.s5.kpt (fun ad ha hB => (TX15.out (x5, y5, L5) (by simp)).off (k := ad.block) hB ⟨ad, ha, rfl⟩) hk⟩⟩
theorem env16_c (p : Nat) (a : Option Addr) (l : List Int) (c i0 : Nat) (w : World) (ht : TapeAt w p a l c i0) (S : Hid (∀ w', Below p w w' → I.Sl w' a l)) :
    Calls Tryd.prog 7 #[.pointer (some ⟨p, 0, none⟩)] w (Env6E w p l) :=
  (env16_o p a l c i0 w ht S).mono fun _ _ ⟨m, _, h1, h2, h3, h4, _⟩ => ⟨m, h1, h2, h3, h4⟩
end Go.Proofs.YtijhkpbnalnpbaaDoor
