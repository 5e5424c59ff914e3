/- Contracts of package piece: Copy. -/
import Derived.Test.YtcekoifbgfeahaaPg
import Derived.Deep.RegionHeld3
namespace Go.Proofs.Ytcekoifbgfeahaa
open Go.RowKit

/-- a table that is new, alone -/
def Made1 (w : World) (s : St) (e : Ending) (w' : World) : Prop :=
  ∃ pt, e = .returned (.pointer (some ⟨pt, 0, none⟩)) ∧ Tab w' w.heap.size (New w w') pt s ∧ Below w.heap.size w w'
set_option maxHeartbeats 2000000 in
theorem copy_t (B : Nat) (F : Nat → Prop) (pt : Nat) (s : St) (w : World) (h : Tab w B F pt s) :
    Calls Try.prog 38 #[.pointer (some ⟨pt, 0, none⟩)] w (Made1 w s) := by
  obtain ⟨ao, co, aa, ca, ap, cp, c0, c1, c2, o0, o1, o2, -⟩ := h.cells
  have hpt := (h.lt _ h.ptF).2
  have Hwf := hid h.wf
  have S0 : Hid (∀ w', Below w.heap.size w w' → Sl w' ao s.o) := fun w' hb => o0.sl.bel hb
  have S1 : Hid (∀ w', Below w.heap.size w w' → Sl w' aa s.a) := fun w' hb => o1.sl.bel hb
  have S2 : Hid (∀ w', Below w.heap.size w w' → PSl w' ap s.p) := fun w' hb => o2.sl.bel hb
  have K0 : Hid (∀ w', Below w.heap.size w w' → w'.cell? ⟨pt, 0, none⟩ = some (.slice ao s.o.length co) ∧ w'.cell? ⟨pt, 1, none⟩ = some (.slice aa s.a.length ca) ∧ w'.cell? ⟨pt, 2, none⟩ = some (.slice ap s.p.length cp)) :=
    fun w' hb => ⟨by rw [hb.cell (p := ⟨pt, 0, none⟩) hpt]; exact c0, by rw [hb.cell (p := ⟨pt, 1, none⟩) hpt]; exact c1, by rw [hb.cell (p := ⟨pt, 2, none⟩) hpt]; exact c2⟩
  have hb0 : Below w.heap.size w w := Below.refl _ _
  clear o0 o1 o2 h
  go_enter Try.func38, Try.ntmps38
  go_wp2
  have hb1 : Below w.heap.size w w.drew := hb0.drew
  go_region_held3 (fun w' => Below w.heap.size w w' ∧ w'.cell? ⟨pt, 0, none⟩ = some (.slice ao s.o.length co) ∧ w'.cell? ⟨pt, 1, none⟩ = some (.slice aa s.a.length ca) ∧ w'.cell? ⟨pt, 2, none⟩ = some (.slice ap s.p.length cp)) (first | assumption | exact ⟨by assumption, by assumption, by assumption, by assumption⟩ | (refine ⟨bal (by assumption) _, ?_, ?_, ?_⟩ <;> go_keep) | go_keep)
    (first | (go_at_call 32; refine (rcloned_c ao co s.o _ (S0.out _ (by assumption))).mono ?_; rintro e w1 ⟨a1, k1, rfl, ho1, hb2⟩; have Ho1 := hid ho1; have hx1 : Below w.heap.size w w1 := bthen (by assumption) hb2; have kk := K0.out _ hx1; obtain ⟨kk0, kk1, kk2⟩ := kk; clear ho1)
               | (go_at_call 32; refine (rcloned_c aa ca s.a _ (S1.out _ (by assumption))).mono ?_; rintro e w2 ⟨a2, k2, rfl, ho2, hb3⟩; have Ho2 := hid ho2; have hx2 : Below w.heap.size w w2 := bthen (by assumption) hb3; have kk := K0.out _ hx2; obtain ⟨ll0, ll1, ll2⟩ := kk; clear ho2)
               | (go_at_call 60; refine (pcloned_c ap cp s.p _ (S2.out _ (by assumption))).mono ?_; rintro e w3 ⟨a3, k3, rfl, ho3, hb4⟩; have Ho3 := hid ho3; have hx3 : Below w.heap.size w w3 := bthen (by assumption) hb4; have kk := K0.out _ hx3; obtain ⟨mm0, mm1, mm2⟩ := kk; clear ho3))
  have z1 := hx1.size; have z2 := hb3.size; have z3 := hb4.size; have z4 := hx2.size
  have HX3 := hid hx3
  go_wp2
  go_ret
  have e1 := own_lt Ho1.out; have e2 := own_lt Ho2.out; have e3 := pown_lt Ho3.out; have g2 := own_ge Ho2.out; have g3 := pown_ge Ho3.out
  refine ⟨w3.heap.size, rfl, tab_mk Hwf.out HX3.out.size (fun i => frozen_alloc_new _ _ _ _) a1 a2 a3 k1 k2 k3 (by rw [cell_alloc_new]; rfl) (by rw [cell_alloc_new]; rfl) (by rw [cell_alloc_new]; rfl)
    (((Ho1.out.grow (bthen hb3 hb4)).grow ((Below.refl _ _).alloc (Nat.le_refl _) _)).base_le (by simp)) (((Ho2.out.grow hb4).grow ((Below.refl _ _).alloc (Nat.le_refl _) _)).base_le z1) ((Ho3.out.grow ((Below.refl _ _).alloc (Nat.le_refl _) _)).base_le z4) ?_ ?_ ?_ ?_ ?_, bal HX3.out _⟩
  · intro ad h; have := e1 ad h; omega
  · intro ad h; have := e2 ad h; omega
  · intro ad h; have := e3 ad h; omega
  · intro ad ae h h'; have := e1 ad h; have := g2 ae h'; omega
  · intro ad ae h h'; have := g3 ad h; have := e2 ae h'; omega
set_option maxHeartbeats 1000000 in
theorem copy_nil (w : World) : Calls Try.prog 38 #[.pointer none] w fun e w' => e = .returned (.pointer none) ∧ w = w' := by
  go_enter Try.func38, Try.ntmps38
  go_wp2
  go_ret
  exact ⟨rfl, rfl⟩
end Go.Proofs.Ytcekoifbgfeahaa
