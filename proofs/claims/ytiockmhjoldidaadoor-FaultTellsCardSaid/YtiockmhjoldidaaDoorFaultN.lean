/- Package fault, by contracts: numbers, Trip, Asks. -/
import Derived.Test.YtiockmhjoldidaaDoorFault
namespace Go.Proofs.YtiockmhjoldidaaDoor
open Go.RowKit

theorem ch_frozen_alloc (w : World) (cs : Array Value) (e : TypeId) (i : Nat) : (w.alloc (.cells cs e)).frozen? ⟨w.heap.size, i, none⟩ = false := by
  simp
/-- a variable of two cells -/
def Two (w : World) (t : Nat) : Prop := (∃ o0, w.cell? ⟨t, 0, none⟩ = some o0) ∧ (∃ o1, w.cell? ⟨t, 1, none⟩ = some o1) ∧ w.frozen? ⟨t, 0, none⟩ = false ∧ w.frozen? ⟨t, 1, none⟩ = false
theorem Two.below {w w' : World} {t B : Nat} (h : Two w t) (hb : Below B w w') (ht : t < B) : Two w' t := by
  obtain ⟨⟨o0, h0⟩, ⟨o1, h1⟩, h2, h3⟩ := h
  exact ⟨⟨o0, by rw [hb.cell (p := ⟨t, 0, none⟩) ht]; exact h0⟩, ⟨o1, by rw [hb.cell (p := ⟨t, 1, none⟩) ht]; exact h1⟩, by rw [hb.frozen (p := ⟨t, 0, none⟩) ht]; exact h2, by rw [hb.frozen (p := ⟨t, 1, none⟩) ht]; exact h3⟩
theorem Two.set {w : World} {t : Nat} {v : Value} {n : Value} (h : Two w t) : ((w.setCell ⟨t, 0, none⟩ v).setCell ⟨t, 1, none⟩ n).cell? ⟨t, 0, none⟩ = some v ∧ ((w.setCell ⟨t, 0, none⟩ v).setCell ⟨t, 1, none⟩ n).cell? ⟨t, 1, none⟩ = some n
    ∧ Two ((w.setCell ⟨t, 0, none⟩ v).setCell ⟨t, 1, none⟩ n) t := by
  obtain ⟨⟨o0, h0⟩, ⟨o1, h1⟩, h2, h3⟩ := h
  have e0 : ((w.setCell ⟨t, 0, none⟩ v).setCell ⟨t, 1, none⟩ n).cell? ⟨t, 0, none⟩ = some v := by
    rw [World.cell?_setCell_other (h := by simp), World.cell?_setCell_same (h := h0)]
  have e1 : ((w.setCell ⟨t, 0, none⟩ v).setCell ⟨t, 1, none⟩ n).cell? ⟨t, 1, none⟩ = some n := by
    rw [World.cell?_setCell_same (u := o1)]
    rw [World.cell?_setCell_other (h := by simp)]; exact h1
  exact ⟨e0, e1, ⟨_, e0⟩, ⟨_, e1⟩, by simp [h2], by simp [h3]⟩
theorem I.Own.setBelow {w : World} {base : Nat} {a : Option Addr} {c : Nat} {l : List Int} (h : I.Own w base a c l) {p : Addr} (hp : p.block < base) (v : Value) : I.Own (w.setCell p v) base a c l :=
  ⟨ownsRow_setCell_below h.1 hp v, h.2⟩

set_option maxHeartbeats 4000000 in
theorem numbers_c (c : Int) (r : List Int) (w : World) (hg : Hid (Handle w)) (hl : r.length ≤ 100) (hr : I.rng r) :
    Calls Tryd.prog 15 #[ch c r] w (I.Makes w r) := by
  have hlt : 0 < w.heap.size := World.block_lt_of_cell? w _ hg.out
  have Hr := hid hr
  clear hr
  go_enter Tryd.func15, Tryd.ntmps15
  go_wp2
  go_loopg [0, 3] r.length (fun g v s wr => ∃ (r' done : List Int) (a3 : Option Addr) (c3 : Nat), r'.length = g ∧ Hid (r = done ++ r') ∧ v = ch c r' ∧ s = .slice a3 done.length c3 ∧ Hid (I.Own wr (w.heap.size + 1) a3 c3 done) ∧ Below w.heap.size w wr ∧ Hid (Two wr w.heap.size))
  case atStart => exact ⟨r, [], none, 0, rfl, rfl, rfl, rfl, I.Own.nil _ _, (Below.refl _ _).alloc (Nat.le_refl _) _, ⟨_, by simp; rfl⟩, ⟨_, by simp; rfl⟩, by simp, by simp⟩
  case round =>
    obtain ⟨r', done, a3, c3, hgk, Hrr, rfl, rfl, Ho, hb, Ht⟩ := hrel
    have Hgk := hid hgk
    clear hgk
    have hgr : Hid (Handle wr) := hg.out.bel hb
    cases r' with
    | nil =>
      rw [show ch c [] = .iface 36 (.int .i64 c) from rfl]
      go_wp2_with fail
      refine (as_n _ _ _ hgr).mono ?_
      rintro e w' ⟨rfl, hb2⟩
      go_wp2
      go_ret
      have e1 : r = done := by rw [Hrr.out]; simp
      rw [e1]
      exact ⟨_, _, rfl, (Ho.out.grow hb2).base_le (by omega), bthen hb hb2⟩
    | cons n r'' =>
      obtain ⟨⟨o0, h0⟩, ⟨o1, h1⟩, h2, h3⟩ := Ht.out
      have has := as_w c n r'' _ o0 o1 wr hgr h0 h1 h2 h3
      have htb := World.block_lt_of_cell? wr _ h0
      obtain ⟨T, x, hx⟩ := ch_iface c r''
      rw [ch_cons, hx] at has ⊢
      have hX := hid hx
      have Has := hid has
      clear h0 h1 h2 h3 has hx
      go_wp2_with fail
      refine Has.out.mono ?_
      rintro e w' ⟨rfl, w2, hb2, rfl⟩
      have T2 := (Ht.out.below hb2 htb).set (v := .iface T x) (n := .int .i64 n)
      have O2 := ((Ho.out.grow hb2).setBelow (p := ⟨w.heap.size, 0, none⟩) (by simp) (.iface T x)).setBelow (p := ⟨w.heap.size, 1, none⟩) (by simp) (.int .i64 n)
      have B2 : Below w.heap.size w ((w2.setCell ⟨w.heap.size, 0, none⟩ (.iface T x)).setCell ⟨w.heap.size, 1, none⟩ (.int .i64 n)) := ((bthen hb hb2).setCell (by simp) _).setCell (by simp) _
      have B3 : w.heap.size + 1 ≤ ((w2.setCell ⟨w.heap.size, 0, none⟩ (.iface T x)).setCell ⟨w.heap.size, 1, none⟩ (.int .i64 n)).heap.size := by
        have := hb2.size
        rw [World.size_setCell, World.size_setCell]
        omega
      generalize ((w2.setCell ⟨w.heap.size, 0, none⟩ (.iface T x)).setCell ⟨w.heap.size, 1, none⟩ (.int .i64 n)) = V at T2 O2 B2 B3 ⊢
      obtain ⟨k0, k1, T3⟩ := T2
      have HO := hid O2; have HT := hid T3
      clear O2 T3 hb2 Ht Ho hgr Has
      have hn : -9223372036854775808 ≤ n ∧ n ≤ 9223372036854775807 := Hr.out n (by rw [Hrr.out]; simp)
      have Hn := hid hn
      have hdl : done.length + (r''.length + 1) = r.length := by rw [Hrr.out]; simp
      have Hdl := hid hdl
      have hd2 : done.length ≤ 100 := by omega
      clear hn hdl
      go_wp2_with (first | ((at_builtin; (refine I.wpL_appn rfl (.tmp 8) (.tmp 11) rfl (w.heap.size + 1) a3 (some ⟨V.heap.size, 0, none⟩) done.length 1 c3 1 done [n] rfl (by first | rfl | simp) (HO.out.grow ((Below.refl _ _).alloc (Nat.le_refl _) _)) rfl (by first | rfl | simp) (I.Sl.lit' V [n] _ _ rfl (by simp) (I.rng_one Hn.out) _ rfl) (by simp; omega) (by simp; omega) ?_); intro a5 c5 w5 L5 Hl5 ho5 hb5; have Ho5 := hid ho5; clear ho5; have hz5 := hb5.size); have k2 : w5.cell? ⟨w.heap.size, 0, none⟩ = some (.iface T x) := (by rw [hb5.cell (p := ⟨w.heap.size, 0, none⟩) (by simp), World.cell?_alloc_lt _ _ _ (by simp; omega)]; exact k0); have k3 : w5.cell? ⟨w.heap.size, 0 + 1, none⟩ = some (.int .i64 n) := (by rw [hb5.cell (p := ⟨w.heap.size, 0 + 1, none⟩) (by simp), World.cell?_alloc_lt _ _ _ (by simp; omega)]; exact k1)) | (go_at_call 22; (with_reducible refine (wunwrap_c _ _ _ _).mono ?_); rintro e w' ⟨rfl, rfl⟩))
      have b5 : Below w.heap.size w w5 := (B2.alloc (by omega) _).trans (hb5.mono (by omega))
      have t5 : Two w5 w.heap.size := (HT.out.below ((Below.refl (w.heap.size + 1) V).alloc B3 _) (by omega)).below hb5 (by omega)
      have e5 : r = L5 ++ r'' := by rw [Hl5.out, Hrr.out]; simp
      have E5 := hid e5
      have B5 := hid b5; have T5 := hid t5
      clear e5 b5 t5 k0 k1 k2 k3
      go_roundg r''.length
      case measure => have := Hgk.out; simp at this; omega
      case rel => exact ⟨r'', L5, a5, c5, rfl, E5, hX.out.symm, rfl, (Ho5.out.grow ((Below.refl _ _).alloc (Nat.le_refl _) _)), B5.out.alloc B5.out.size _, T5.out.below ((Below.refl (w.heap.size + 1) w5).alloc (by have := hb5.size; simp at this; omega) _) (by omega)⟩
end Go.Proofs.YtiockmhjoldidaaDoor
