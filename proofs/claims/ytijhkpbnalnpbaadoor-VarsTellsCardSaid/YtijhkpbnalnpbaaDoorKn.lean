/- Layer 16: what is known. -/
import Derived.Test.YtijhkpbnalnpbaaDoorVy
import Derived.Test.YtijhkpbnalnpbaaDoorVo
import Derived.Deep.RegionHeld3
namespace Go.Proofs.YtijhkpbnalnpbaaDoor
open Go.RowKit

/-- the environment that 'known' asks: the third month, two draws -/
def knE (m : En) (X : Nat) : En := ⟨m.a0, m.t0, m.c0, m.a1, m.t1, m.c1, m.a2, m.t2, m.c2, m.a3, m.t3, m.c3, m.a4, m.t4, m.c4, m.a5, m.t5, m.c5, m.ix, m.k0, 3, m.k2, m.k3, m.k4, m.k5, m.k6, some ⟨X, 0, none⟩, [7, 255], 2⟩
theorem kn_may {m : En} (h : EnvD m) (X : Nat) : mayE (knE m X) = true := by
  obtain ⟨a0, t0, c0, a1, t1, c1, a2, t2, c2, a3, t3, c3, a4, t4, c4, a5, t5, c5, ix, k0, k1, k2, k3, k4, k5, k6, da, dl, dc⟩ := m
  obtain ⟨h0, h1, h2, h3, h4, h5, h6, h7, h8, h9, h10, h11, h12, h13, h14⟩ := h
  simp only at h0 h1 h2 h3 h4 h5 h6 h7 h8 h9 h10 h11 h12 h13 h14
  subst h0 h1 h2 h3 h4 h5 h6 h7 h8 h9 h10 h11 h12 h13 h14
  show (txsE [] [] [] [97, 46, 103, 111] [47, 104, 111, 109, 101] [] && (bti 0 0 9999 && (ckE 0 3 1 0 0 0 0 && drE [7, 255]))) = true
  decide +kernel
theorem kn_ok {m : En} (h : EnvD m) (X : Nat) (l : List Int) (u : Int) (hu : bti u 0 1000 = true) : okV (knE m X) l u = rowOf l := by simp [okV, kn_may h X, hu]
theorem kn_1 {m : En} (h : EnvD m) (X : Nat) : valL (knE m X) [67, 85, 82, 82, 69, 78, 84, 95, 77, 79, 78, 84, 72] 0 = [48, 51] ∧ valB (knE m X) [67, 85, 82, 82, 69, 78, 84, 95, 77, 79, 78, 84, 72] 0 = true ∧ valN (knE m X) [67, 85, 82, 82, 69, 78, 84, 95, 77, 79, 78, 84, 72] 0 = 0 := by
  have e := kn_ok h X [67, 85, 82, 82, 69, 78, 84, 95, 77, 79, 78, 84, 72] 0 (by decide)
  rw [show rowOf [67, 85, 82, 82, 69, 78, 84, 95, 77, 79, 78, 84, 72] = some 12 from rowOf_name (k := 12) (by decide)] at e
  refine ⟨?_, ?_, ?_⟩
  · simp only [valL, e]; show digs 10 2 3 = _; decide +kernel
  · simp [valB, e]
  · simp [valN, e, takesN]
theorem kn_2 {m : En} (h : EnvD m) (X : Nat) : valL (knE m X) [82, 65, 78, 68, 79, 77, 95, 72, 69, 88] 1 = [48, 48, 48, 48, 102, 102] ∧ valB (knE m X) [82, 65, 78, 68, 79, 77, 95, 72, 69, 88] 1 = true ∧ valN (knE m X) [82, 65, 78, 68, 79, 77, 95, 72, 69, 88] 1 = 2 := by
  have e := kn_ok h X [82, 65, 78, 68, 79, 77, 95, 72, 69, 88] 1 (by decide)
  rw [show rowOf [82, 65, 78, 68, 79, 77, 95, 72, 69, 88] = some 22 from rowOf_name (k := 22) (by decide)] at e
  refine ⟨?_, ?_, ?_⟩
  · simp only [valL, e]; show digs 16 6 255 = _; decide +kernel
  · simp [valB, e]
  · simp [valN, e, takesN]
theorem kn_3 {m : En} (h : EnvD m) (X : Nat) : valL (knE m X) [120] 4 = [] ∧ valB (knE m X) [120] 4 = false ∧ valN (knE m X) [120] 4 = 4 := by
  have e := kn_ok h X [120] 4 (by decide)
  rw [show rowOf [120] = none by decide +kernel] at e
  refine ⟨?_, ?_, ?_⟩
  · simp only [valL, e]
  · simp [valB, e]
  · simp [valN, e]
set_option maxHeartbeats 8000000 in
set_option maxRecDepth 100000 in
theorem known16_c (w : World) (hg : Hid (Gl w)) : Calls Tryd.prog 10 #[] w fun e w' => e = .returned (.bool true) ∧ Below w.heap.size w w' := by
  go_enter Tryd.func10, Tryd.ntmps10
  go_wp2_with fail
  have hbT : Hid (Below w.heap.size w (w.alloc (.cells #[.slice none 0 0, .int .i64 0] 29))) := hid (bal (Below.refl _ _) _)
  refine (env16_c w.heap.size none [] 0 0 _ ⟨by simp, by rw [cell_alloc_new]; rfl, by rw [cell_alloc_new]; rfl, by simp, Nat.le_refl _⟩ (hid fun w' _ => I.Sl.nil _ _)).mono ?_
  rintro e w1 ⟨m, rfl, hE, hb, hd⟩
  have D := hid (hd rfl)
  have E1 := hid hE
  have B1 := hid (hbT.out.trans hb)
  clear hE hd hb hbT
  simp only [enC]
  go_upto_region 2 with fail
  generalize hV : World.alloc w1 _ = V1
  have X1 : Hid (BoxV V1 w1.heap.size #[.slice m.a0 m.t0.length m.c0, .slice m.a1 m.t1.length m.c1, .slice m.a2 m.t2.length m.c2, .slice m.a3 m.t3.length m.c3, .slice m.a4 m.t4.length m.c4, .slice m.a5 m.t5.length m.c5, .int .i64 m.ix, .int .i64 m.k0, .int .i64 m.k1, .int .i64 m.k2, .int .i64 m.k3, .int .i64 m.k4, .int .i64 m.k5, .int .i64 m.k6, .slice m.da m.dl.length m.dc]) := hid (by rw [← hV]; exact BoxV.new w1 _ _)
  have B2 : Hid (Below w1.heap.size w1 V1) := hid (by rw [← hV]; exact bal (Below.refl _ _) _)
  clear hV
  have q8 := X1.out.c 8 _ rfl
  have z8 := X1.out.f 8
  go_upto_region 3 with fail
  generalize hV : World.setCell V1 _ _ = V2
  have X2 : Hid (BoxV V2 w1.heap.size #[.slice m.a0 m.t0.length m.c0, .slice m.a1 m.t1.length m.c1, .slice m.a2 m.t2.length m.c2, .slice m.a3 m.t3.length m.c3, .slice m.a4 m.t4.length m.c4, .slice m.a5 m.t5.length m.c5, .int .i64 m.ix, .int .i64 m.k0, .int .i64 3, .int .i64 m.k2, .int .i64 m.k3, .int .i64 m.k4, .int .i64 m.k5, .int .i64 m.k6, .slice m.da m.dl.length m.dc]) := hid (by rw [← hV]; exact X1.out.set (by simp) rfl)
  have B3 : Hid (Below w1.heap.size w1 V2) := hid (by rw [← hV]; exact B2.out.setCell (Nat.le_refl _) _)
  clear hV q8 z8 X1 B2
  have hl2 : w1.heap.size < V2.heap.size := X2.out.lt
  have q14 : ∀ o, (V2.alloc o).cell? ⟨w1.heap.size, 14, none⟩ = some (.slice m.da m.dl.length m.dc) := fun o => (Below.cell (p := ⟨w1.heap.size, 14, none⟩) (bal (Below.refl V2.heap.size V2) o) hl2).trans (X2.out.c 14 _ rfl)
  have z14 : ∀ o, (V2.alloc o).frozen? ⟨w1.heap.size, 14, none⟩ = false := fun o => (World.frozen?_of_block (a := ⟨w1.heap.size, 14, none⟩) ((bal (Below.refl V2.heap.size V2) o).block _ hl2)).trans (X2.out.f 14)
  go_upto_region 4 with fail
  generalize hV : World.alloc (World.setCell V2 _ _) _ = W
  obtain ⟨X, hX⟩ : ∃ X, X = V2.heap.size := ⟨_, rfl⟩
  have X3 : Hid (BoxV W w1.heap.size #[.slice m.a0 m.t0.length m.c0, .slice m.a1 m.t1.length m.c1, .slice m.a2 m.t2.length m.c2, .slice m.a3 m.t3.length m.c3, .slice m.a4 m.t4.length m.c4, .slice m.a5 m.t5.length m.c5, .int .i64 m.ix, .int .i64 m.k0, .int .i64 3, .int .i64 m.k2, .int .i64 m.k3, .int .i64 m.k4, .int .i64 m.k5, .int .i64 m.k6, .slice (some ⟨X, 0, none⟩) 2 2]) := hid (by rw [← hV, hX]; exact (X2.out.set (j := 14) (by simp) rfl).kpt (F := fun _ => False) (fun h => h) (Kpt.of (bal (Below.refl _ _) _)))
  have B4 : Hid (Below w1.heap.size w1 W) := hid (by rw [← hV]; exact (B3.out.setCell (Nat.le_refl _) _).trans ((bal (Below.refl _ _) _).mono (by have := B3.out.size; simpa using this)))
  have DL : Hid (I.Sl W (some ⟨X, 0, none⟩) [7, 255]) := hid (by rw [← hV, hX]; exact I.Sl.lit' _ [7, 255] _ _ (by simp) (by simp) (I.rng_cons (by omega) (I.rng_one (by omega))) _ rfl)
  rw [← hX]
  clear hV hX X2 B3 q14 z14
  have EW : Hid (EnOk W (knE m X)) := hid (by
    have E4 := E1.out.bel B4.out
    exact ⟨E4.s0, E4.s1, E4.s2, E4.s3, E4.s4, E4.s5, DL.out, E4.l0, E4.l1, E4.l2, E4.l3, E4.l4, E4.l5, by show 2 ≤ 2; omega⟩)
  have BW : Hid (Below w.heap.size w W) := hid (B1.out.trans (B4.out.mono B1.out.size))
  have GW : Hid (Gl W) := hid (hg.out.bel BW.out)
  have hlW : w1.heap.size < W.heap.size := X3.out.lt
  have BK : Hid (∀ w', Below W.heap.size W w' → w'.cell? ⟨w1.heap.size, 0, none⟩ = some (.slice m.a0 m.t0.length m.c0) ∧ w'.cell? ⟨w1.heap.size, 1, none⟩ = some (.slice m.a1 m.t1.length m.c1) ∧ w'.cell? ⟨w1.heap.size, 2, none⟩ = some (.slice m.a2 m.t2.length m.c2) ∧ w'.cell? ⟨w1.heap.size, 3, none⟩ = some (.slice m.a3 m.t3.length m.c3) ∧ w'.cell? ⟨w1.heap.size, 4, none⟩ = some (.slice m.a4 m.t4.length m.c4) ∧ w'.cell? ⟨w1.heap.size, 5, none⟩ = some (.slice m.a5 m.t5.length m.c5) ∧ w'.cell? ⟨w1.heap.size, 6, none⟩ = some (.int .i64 m.ix) ∧ w'.cell? ⟨w1.heap.size, 7, none⟩ = some (.int .i64 m.k0) ∧ w'.cell? ⟨w1.heap.size, 8, none⟩ = some (.int .i64 3) ∧ w'.cell? ⟨w1.heap.size, 9, none⟩ = some (.int .i64 m.k2) ∧ w'.cell? ⟨w1.heap.size, 10, none⟩ = some (.int .i64 m.k3) ∧ w'.cell? ⟨w1.heap.size, 11, none⟩ = some (.int .i64 m.k4) ∧ w'.cell? ⟨w1.heap.size, 12, none⟩ = some (.int .i64 m.k5) ∧ w'.cell? ⟨w1.heap.size, 13, none⟩ = some (.int .i64 m.k6) ∧ w'.cell? ⟨w1.heap.size, 14, none⟩ = some (.slice (some ⟨X, 0, none⟩) 2 2)) := hid fun w' h => ⟨(h.cell (p := ⟨w1.heap.size, 0, none⟩) hlW).trans (X3.out.c 0 _ rfl), (h.cell (p := ⟨w1.heap.size, 1, none⟩) hlW).trans (X3.out.c 1 _ rfl), (h.cell (p := ⟨w1.heap.size, 2, none⟩) hlW).trans (X3.out.c 2 _ rfl), (h.cell (p := ⟨w1.heap.size, 3, none⟩) hlW).trans (X3.out.c 3 _ rfl), (h.cell (p := ⟨w1.heap.size, 4, none⟩) hlW).trans (X3.out.c 4 _ rfl), (h.cell (p := ⟨w1.heap.size, 5, none⟩) hlW).trans (X3.out.c 5 _ rfl), (h.cell (p := ⟨w1.heap.size, 6, none⟩) hlW).trans (X3.out.c 6 _ rfl), (h.cell (p := ⟨w1.heap.size, 7, none⟩) hlW).trans (X3.out.c 7 _ rfl), (h.cell (p := ⟨w1.heap.size, 8, none⟩) hlW).trans (X3.out.c 8 _ rfl), (h.cell (p := ⟨w1.heap.size, 9, none⟩) hlW).trans (X3.out.c 9 _ rfl), (h.cell (p := ⟨w1.heap.size, 10, none⟩) hlW).trans (X3.out.c 10 _ rfl), (h.cell (p := ⟨w1.heap.size, 11, none⟩) hlW).trans (X3.out.c 11 _ rfl), (h.cell (p := ⟨w1.heap.size, 12, none⟩) hlW).trans (X3.out.c 12 _ rfl), (h.cell (p := ⟨w1.heap.size, 13, none⟩) hlW).trans (X3.out.c 13 _ rfl), (h.cell (p := ⟨w1.heap.size, 14, none⟩) hlW).trans (X3.out.c 14 _ rfl)⟩
  have VAL1 : Hid (∀ w' a c l, Below W.heap.size W w' → Hid (l = [67, 85, 82, 82, 69, 78, 84, 95, 77, 79, 78, 84, 72]) → Hid (Sl w' a l) → Calls Tryd.prog 13 #[.agg #[.slice m.a0 m.t0.length m.c0, .slice m.a1 m.t1.length m.c1, .slice m.a2 m.t2.length m.c2, .slice m.a3 m.t3.length m.c3, .slice m.a4 m.t4.length m.c4, .slice m.a5 m.t5.length m.c5, .int .i64 m.ix, .int .i64 m.k0, .int .i64 3, .int .i64 m.k2, .int .i64 m.k3, .int .i64 m.k4, .int .i64 m.k5, .int .i64 m.k6, .slice (some ⟨X, 0, none⟩) 2 2], .slice a l.length c, .int .i64 0] w' fun e w'' => ∃ a2 c2 L2, e = .returned (.tuple #[.slice a2 L2.length c2, .bool true, .int .i64 0]) ∧ Hid (L2 = [48, 51]) ∧ Own w'' w'.heap.size a2 c2 L2 ∧ Below w'.heap.size w' w'') := hid fun w' a c l hw hl hs => by
    refine (value_c (knE m X) a c l 0 w' (hid (EW.out.bel hw)) hs (by unfold i64; omega) (hid (GW.out.bel hw))).mono fun e w'' h => ?_
    obtain ⟨a2, c2, rfl, ho, hb⟩ := h.vals
    have kk := kn_1 D.out X
    rw [← hl.out] at kk
    rw [kk.2.1, kk.2.2]
    exact ⟨a2, c2, _, rfl, kk.1, ho, hb⟩
  have VAL2 : Hid (∀ w' a c l, Below W.heap.size W w' → Hid (l = [82, 65, 78, 68, 79, 77, 95, 72, 69, 88]) → Hid (Sl w' a l) → Calls Tryd.prog 13 #[.agg #[.slice m.a0 m.t0.length m.c0, .slice m.a1 m.t1.length m.c1, .slice m.a2 m.t2.length m.c2, .slice m.a3 m.t3.length m.c3, .slice m.a4 m.t4.length m.c4, .slice m.a5 m.t5.length m.c5, .int .i64 m.ix, .int .i64 m.k0, .int .i64 3, .int .i64 m.k2, .int .i64 m.k3, .int .i64 m.k4, .int .i64 m.k5, .int .i64 m.k6, .slice (some ⟨X, 0, none⟩) 2 2], .slice a l.length c, .int .i64 1] w' fun e w'' => ∃ a2 c2 L2, e = .returned (.tuple #[.slice a2 L2.length c2, .bool true, .int .i64 2]) ∧ Hid (L2 = [48, 48, 48, 48, 102, 102]) ∧ Own w'' w'.heap.size a2 c2 L2 ∧ Below w'.heap.size w' w'') := hid fun w' a c l hw hl hs => by
    refine (value_c (knE m X) a c l 1 w' (hid (EW.out.bel hw)) hs (by unfold i64; omega) (hid (GW.out.bel hw))).mono fun e w'' h => ?_
    obtain ⟨a2, c2, rfl, ho, hb⟩ := h.vals
    have kk := kn_2 D.out X
    rw [← hl.out] at kk
    rw [kk.2.1, kk.2.2]
    exact ⟨a2, c2, _, rfl, kk.1, ho, hb⟩
  have VAL3 : Hid (∀ w' a c l, Below W.heap.size W w' → Hid (l = [120]) → Hid (Sl w' a l) → Calls Tryd.prog 13 #[.agg #[.slice m.a0 m.t0.length m.c0, .slice m.a1 m.t1.length m.c1, .slice m.a2 m.t2.length m.c2, .slice m.a3 m.t3.length m.c3, .slice m.a4 m.t4.length m.c4, .slice m.a5 m.t5.length m.c5, .int .i64 m.ix, .int .i64 m.k0, .int .i64 3, .int .i64 m.k2, .int .i64 m.k3, .int .i64 m.k4, .int .i64 m.k5, .int .i64 m.k6, .slice (some ⟨X, 0, none⟩) 2 2], .slice a l.length c, .int .i64 4] w' fun e w'' => ∃ a2 c2 L2, e = .returned (.tuple #[.slice a2 L2.length c2, .bool false, .int .i64 4]) ∧ Hid (L2 = []) ∧ Own w'' w'.heap.size a2 c2 L2 ∧ Below w'.heap.size w' w'') := hid fun w' a c l hw hl hs => by
    refine (value_c (knE m X) a c l 4 w' (hid (EW.out.bel hw)) hs (by unfold i64; omega) (hid (GW.out.bel hw))).mono fun e w'' h => ?_
    obtain ⟨a2, c2, rfl, ho, hb⟩ := h.vals
    have kk := kn_3 D.out X
    rw [← hl.out] at kk
    rw [kk.2.1, kk.2.2]
    exact ⟨a2, c2, _, rfl, kk.1, ho, hb⟩
  have Y0 : Hid (Below W.heap.size W W) := hid (Below.refl _ _)
  clear DL X3 B4 E1 B1
  go_upto_region 4 with fail
  have BK0 : Hid (∀ w', Below W.heap.size W w' → w'.cell? ⟨w1.heap.size, 0, none⟩ = some (.slice m.a0 m.t0.length m.c0) ∧ w'.cell? ⟨w1.heap.size, 1, none⟩ = some (.slice m.a1 m.t1.length m.c1) ∧ w'.cell? ⟨w1.heap.size, 2, none⟩ = some (.slice m.a2 m.t2.length m.c2) ∧ w'.cell? ⟨w1.heap.size, 3, none⟩ = some (.slice m.a3 m.t3.length m.c3) ∧ w'.cell? ⟨w1.heap.size, 4, none⟩ = some (.slice m.a4 m.t4.length m.c4) ∧ w'.cell? ⟨w1.heap.size, 5, none⟩ = some (.slice m.a5 m.t5.length m.c5) ∧ w'.cell? ⟨w1.heap.size, 6, none⟩ = some (.int .i64 m.ix) ∧ w'.cell? ⟨w1.heap.size, 7, none⟩ = some (.int .i64 m.k0) ∧ w'.cell? ⟨w1.heap.size, 8, none⟩ = some (.int .i64 3) ∧ w'.cell? ⟨w1.heap.size, 9, none⟩ = some (.int .i64 m.k2) ∧ w'.cell? ⟨w1.heap.size, 10, none⟩ = some (.int .i64 m.k3) ∧ w'.cell? ⟨w1.heap.size, 11, none⟩ = some (.int .i64 m.k4) ∧ w'.cell? ⟨w1.heap.size, 12, none⟩ = some (.int .i64 m.k5) ∧ w'.cell? ⟨w1.heap.size, 13, none⟩ = some (.int .i64 m.k6) ∧ w'.cell? ⟨w1.heap.size, 14, none⟩ = some (.slice (some ⟨X, 0, none⟩) 2 2)) := hid fun w' h => BK.out w' (Y0.out.trans (h.mono Y0.out.size))
  have VK0 := hid fun w' a c l (h : Below W.heap.size W w') => VAL1.out w' a c l (Y0.out.trans (h.mono Y0.out.size))
  have xd : Below W.heap.size W W.drew := (Below.refl _ _).drew
  obtain ⟨d0, d1, d2, d3, d4, d5, d6, d7, d8, d9, d10, d11, d12, d13, d14⟩ := BK0.out W.drew xd
  go_region_held3 (fun w' => w'.cell? ⟨w1.heap.size, 0, none⟩ = some (.slice m.a0 m.t0.length m.c0) ∧ w'.cell? ⟨w1.heap.size, 1, none⟩ = some (.slice m.a1 m.t1.length m.c1) ∧ w'.cell? ⟨w1.heap.size, 2, none⟩ = some (.slice m.a2 m.t2.length m.c2) ∧ w'.cell? ⟨w1.heap.size, 3, none⟩ = some (.slice m.a3 m.t3.length m.c3) ∧ w'.cell? ⟨w1.heap.size, 4, none⟩ = some (.slice m.a4 m.t4.length m.c4) ∧ w'.cell? ⟨w1.heap.size, 5, none⟩ = some (.slice m.a5 m.t5.length m.c5) ∧ w'.cell? ⟨w1.heap.size, 6, none⟩ = some (.int .i64 m.ix) ∧ w'.cell? ⟨w1.heap.size, 7, none⟩ = some (.int .i64 m.k0) ∧ w'.cell? ⟨w1.heap.size, 8, none⟩ = some (.int .i64 3) ∧ w'.cell? ⟨w1.heap.size, 9, none⟩ = some (.int .i64 m.k2) ∧ w'.cell? ⟨w1.heap.size, 10, none⟩ = some (.int .i64 m.k3) ∧ w'.cell? ⟨w1.heap.size, 11, none⟩ = some (.int .i64 m.k4) ∧ w'.cell? ⟨w1.heap.size, 12, none⟩ = some (.int .i64 m.k5) ∧ w'.cell? ⟨w1.heap.size, 13, none⟩ = some (.int .i64 m.k6) ∧ w'.cell? ⟨w1.heap.size, 14, none⟩ = some (.slice (some ⟨X, 0, none⟩) 2 2) ∧ Below W.heap.size W w') (first | (with_reducible assumption) | exact ⟨by with_reducible assumption, by with_reducible assumption, by with_reducible assumption, by with_reducible assumption, by with_reducible assumption, by with_reducible assumption, by with_reducible assumption, by with_reducible assumption, by with_reducible assumption, by with_reducible assumption, by with_reducible assumption, by with_reducible assumption, by with_reducible assumption, by with_reducible assumption, by with_reducible assumption, by with_reducible assumption⟩)
    (first | (go_at_call 12; refine (plain_c ⟨#[67, 85, 82, 82, 69, 78, 84, 95, 77, 79, 78, 84, 72]⟩ _ (by decide)).mono ?_; rintro e v0a ⟨pa0, pc0, pL0, rfl, hpL, ho, hb1⟩; have y0a : Below W.heap.size W v0a := bthen (by (repeat' (first | exact Below.refl _ _ | assumption | refine bdrewN ?_ _ | refine Below.drew ?_ | refine Below.setCell ?_ (Nat.le_refl _) _ | refine bal ?_ _ | refine bthen ?_ (by assumption)))) hb1; have P0 := hid ho.sl; have PL0 : Hid (pL0 = [67, 85, 82, 82, 69, 78, 84, 95, 77, 79, 78, 84, 72]) := hid (hpL.out.trans (by rfl)); clear hpL ho hb1; have kk := BK0.out _ y0a; obtain ⟨e0, e1, e2, e3, e4, e5, e6, e7, e8, e9, e10, e11, e12, e13, e14⟩ := kk)
           | (go_at_call 13; refine (VK0.out _ pa0 pc0 pL0 (by (repeat' (first | exact Below.refl _ _ | assumption | refine bdrewN ?_ _ | refine Below.drew ?_ | refine Below.setCell ?_ (Nat.le_refl _) _ | refine bal ?_ _ | refine bthen ?_ (by assumption)))) PL0 P0).mono ?_; rintro e v0b ⟨ra0, rc0, rL0, rfl, hrL, ho, hb1⟩; have y0b : Below W.heap.size W v0b := bthen (by (repeat' (first | exact Below.refl _ _ | assumption | refine bdrewN ?_ _ | refine Below.drew ?_ | refine Below.setCell ?_ (Nat.le_refl _) _ | refine bal ?_ _ | refine bthen ?_ (by assumption)))) hb1; have RL0 := hid hrL.out; have R0 := hid ho.sl; clear hrL ho hb1; have kk := BK0.out _ y0b; obtain ⟨f0, f1, f2, f3, f4, f5, f6, f7, f8, f9, f10, f11, f12, f13, f14⟩ := kk))
  have Y1 : Hid (Below W.heap.size W v0b) := hid (Y0.out.trans (y0b.mono Y0.out.size))
  clear BK0 VK0 VAL1 xd y0a y0b P0 PL0
  clear d0 d1 d2 d3 d4 d5 d6 d7 d8 d9 d10 d11 d12 d13 d14 e0 f0 e1 f1 e2 f2 e3 f3 e4 f4 e5 f5 e6 f6 e7 f7 e8 f8 e9 f9 e10 f10 e11 f11 e12 f12 e13 f13 e14 f14
  go_upto_region 5 with fail
  have BK1 : Hid (∀ w', Below v0b.heap.size v0b w' → w'.cell? ⟨w1.heap.size, 0, none⟩ = some (.slice m.a0 m.t0.length m.c0) ∧ w'.cell? ⟨w1.heap.size, 1, none⟩ = some (.slice m.a1 m.t1.length m.c1) ∧ w'.cell? ⟨w1.heap.size, 2, none⟩ = some (.slice m.a2 m.t2.length m.c2) ∧ w'.cell? ⟨w1.heap.size, 3, none⟩ = some (.slice m.a3 m.t3.length m.c3) ∧ w'.cell? ⟨w1.heap.size, 4, none⟩ = some (.slice m.a4 m.t4.length m.c4) ∧ w'.cell? ⟨w1.heap.size, 5, none⟩ = some (.slice m.a5 m.t5.length m.c5) ∧ w'.cell? ⟨w1.heap.size, 6, none⟩ = some (.int .i64 m.ix) ∧ w'.cell? ⟨w1.heap.size, 7, none⟩ = some (.int .i64 m.k0) ∧ w'.cell? ⟨w1.heap.size, 8, none⟩ = some (.int .i64 3) ∧ w'.cell? ⟨w1.heap.size, 9, none⟩ = some (.int .i64 m.k2) ∧ w'.cell? ⟨w1.heap.size, 10, none⟩ = some (.int .i64 m.k3) ∧ w'.cell? ⟨w1.heap.size, 11, none⟩ = some (.int .i64 m.k4) ∧ w'.cell? ⟨w1.heap.size, 12, none⟩ = some (.int .i64 m.k5) ∧ w'.cell? ⟨w1.heap.size, 13, none⟩ = some (.int .i64 m.k6) ∧ w'.cell? ⟨w1.heap.size, 14, none⟩ = some (.slice (some ⟨X, 0, none⟩) 2 2)) := hid fun w' h => BK.out w' (Y1.out.trans (h.mono Y1.out.size))
  have VK1 := hid fun w' a c l (h : Below v0b.heap.size v0b w') => VAL2.out w' a c l (Y1.out.trans (h.mono Y1.out.size))
  have xd : Below v0b.heap.size v0b v0b.drew := (Below.refl _ _).drew
  obtain ⟨d0, d1, d2, d3, d4, d5, d6, d7, d8, d9, d10, d11, d12, d13, d14⟩ := BK1.out v0b.drew xd
  go_region_held3 (fun w' => w'.cell? ⟨w1.heap.size, 0, none⟩ = some (.slice m.a0 m.t0.length m.c0) ∧ w'.cell? ⟨w1.heap.size, 1, none⟩ = some (.slice m.a1 m.t1.length m.c1) ∧ w'.cell? ⟨w1.heap.size, 2, none⟩ = some (.slice m.a2 m.t2.length m.c2) ∧ w'.cell? ⟨w1.heap.size, 3, none⟩ = some (.slice m.a3 m.t3.length m.c3) ∧ w'.cell? ⟨w1.heap.size, 4, none⟩ = some (.slice m.a4 m.t4.length m.c4) ∧ w'.cell? ⟨w1.heap.size, 5, none⟩ = some (.slice m.a5 m.t5.length m.c5) ∧ w'.cell? ⟨w1.heap.size, 6, none⟩ = some (.int .i64 m.ix) ∧ w'.cell? ⟨w1.heap.size, 7, none⟩ = some (.int .i64 m.k0) ∧ w'.cell? ⟨w1.heap.size, 8, none⟩ = some (.int .i64 3) ∧ w'.cell? ⟨w1.heap.size, 9, none⟩ = some (.int .i64 m.k2) ∧ w'.cell? ⟨w1.heap.size, 10, none⟩ = some (.int .i64 m.k3) ∧ w'.cell? ⟨w1.heap.size, 11, none⟩ = some (.int .i64 m.k4) ∧ w'.cell? ⟨w1.heap.size, 12, none⟩ = some (.int .i64 m.k5) ∧ w'.cell? ⟨w1.heap.size, 13, none⟩ = some (.int .i64 m.k6) ∧ w'.cell? ⟨w1.heap.size, 14, none⟩ = some (.slice (some ⟨X, 0, none⟩) 2 2) ∧ Below v0b.heap.size v0b w') (first | (with_reducible assumption) | exact ⟨by with_reducible assumption, by with_reducible assumption, by with_reducible assumption, by with_reducible assumption, by with_reducible assumption, by with_reducible assumption, by with_reducible assumption, by with_reducible assumption, by with_reducible assumption, by with_reducible assumption, by with_reducible assumption, by with_reducible assumption, by with_reducible assumption, by with_reducible assumption, by with_reducible assumption, by with_reducible assumption⟩)
    (first | (go_at_call 12; refine (plain_c ⟨#[82, 65, 78, 68, 79, 77, 95, 72, 69, 88]⟩ _ (by decide)).mono ?_; rintro e v1a ⟨pa1, pc1, pL1, rfl, hpL, ho, hb1⟩; have y1a : Below v0b.heap.size v0b v1a := bthen (by (repeat' (first | exact Below.refl _ _ | assumption | refine bdrewN ?_ _ | refine Below.drew ?_ | refine Below.setCell ?_ (Nat.le_refl _) _ | refine bal ?_ _ | refine bthen ?_ (by assumption)))) hb1; have P1 := hid ho.sl; have PL1 : Hid (pL1 = [82, 65, 78, 68, 79, 77, 95, 72, 69, 88]) := hid (hpL.out.trans (by rfl)); clear hpL ho hb1; have kk := BK1.out _ y1a; obtain ⟨e0, e1, e2, e3, e4, e5, e6, e7, e8, e9, e10, e11, e12, e13, e14⟩ := kk)
           | (go_at_call 13; refine (VK1.out _ pa1 pc1 pL1 (by (repeat' (first | exact Below.refl _ _ | assumption | refine bdrewN ?_ _ | refine Below.drew ?_ | refine Below.setCell ?_ (Nat.le_refl _) _ | refine bal ?_ _ | refine bthen ?_ (by assumption)))) PL1 P1).mono ?_; rintro e v1b ⟨ra1, rc1, rL1, rfl, hrL, ho, hb1⟩; have y1b : Below v0b.heap.size v0b v1b := bthen (by (repeat' (first | exact Below.refl _ _ | assumption | refine bdrewN ?_ _ | refine Below.drew ?_ | refine Below.setCell ?_ (Nat.le_refl _) _ | refine bal ?_ _ | refine bthen ?_ (by assumption)))) hb1; have RL1 := hid hrL.out; have R1 := hid ho.sl; clear hrL ho hb1; have kk := BK1.out _ y1b; obtain ⟨f0, f1, f2, f3, f4, f5, f6, f7, f8, f9, f10, f11, f12, f13, f14⟩ := kk))
  have Y2 : Hid (Below W.heap.size W v1b) := hid (Y1.out.trans (y1b.mono Y1.out.size))
  have Q0 := hid (R0.out.bel y1b)
  clear BK1 VK1 VAL2 xd y1a y1b P1 PL1
  clear d0 d1 d2 d3 d4 d5 d6 d7 d8 d9 d10 d11 d12 d13 d14 e0 f0 e1 f1 e2 f2 e3 f3 e4 f4 e5 f5 e6 f6 e7 f7 e8 f8 e9 f9 e10 f10 e11 f11 e12 f12 e13 f13 e14 f14
  go_upto_region 6 with fail
  have BK2 : Hid (∀ w', Below v1b.heap.size v1b w' → w'.cell? ⟨w1.heap.size, 0, none⟩ = some (.slice m.a0 m.t0.length m.c0) ∧ w'.cell? ⟨w1.heap.size, 1, none⟩ = some (.slice m.a1 m.t1.length m.c1) ∧ w'.cell? ⟨w1.heap.size, 2, none⟩ = some (.slice m.a2 m.t2.length m.c2) ∧ w'.cell? ⟨w1.heap.size, 3, none⟩ = some (.slice m.a3 m.t3.length m.c3) ∧ w'.cell? ⟨w1.heap.size, 4, none⟩ = some (.slice m.a4 m.t4.length m.c4) ∧ w'.cell? ⟨w1.heap.size, 5, none⟩ = some (.slice m.a5 m.t5.length m.c5) ∧ w'.cell? ⟨w1.heap.size, 6, none⟩ = some (.int .i64 m.ix) ∧ w'.cell? ⟨w1.heap.size, 7, none⟩ = some (.int .i64 m.k0) ∧ w'.cell? ⟨w1.heap.size, 8, none⟩ = some (.int .i64 3) ∧ w'.cell? ⟨w1.heap.size, 9, none⟩ = some (.int .i64 m.k2) ∧ w'.cell? ⟨w1.heap.size, 10, none⟩ = some (.int .i64 m.k3) ∧ w'.cell? ⟨w1.heap.size, 11, none⟩ = some (.int .i64 m.k4) ∧ w'.cell? ⟨w1.heap.size, 12, none⟩ = some (.int .i64 m.k5) ∧ w'.cell? ⟨w1.heap.size, 13, none⟩ = some (.int .i64 m.k6) ∧ w'.cell? ⟨w1.heap.size, 14, none⟩ = some (.slice (some ⟨X, 0, none⟩) 2 2)) := hid fun w' h => BK.out w' (Y2.out.trans (h.mono Y2.out.size))
  have VK2 := hid fun w' a c l (h : Below v1b.heap.size v1b w') => VAL3.out w' a c l (Y2.out.trans (h.mono Y2.out.size))
  have xd : Below v1b.heap.size v1b v1b.drew := (Below.refl _ _).drew
  obtain ⟨d0, d1, d2, d3, d4, d5, d6, d7, d8, d9, d10, d11, d12, d13, d14⟩ := BK2.out v1b.drew xd
  go_region_held3 (fun w' => w'.cell? ⟨w1.heap.size, 0, none⟩ = some (.slice m.a0 m.t0.length m.c0) ∧ w'.cell? ⟨w1.heap.size, 1, none⟩ = some (.slice m.a1 m.t1.length m.c1) ∧ w'.cell? ⟨w1.heap.size, 2, none⟩ = some (.slice m.a2 m.t2.length m.c2) ∧ w'.cell? ⟨w1.heap.size, 3, none⟩ = some (.slice m.a3 m.t3.length m.c3) ∧ w'.cell? ⟨w1.heap.size, 4, none⟩ = some (.slice m.a4 m.t4.length m.c4) ∧ w'.cell? ⟨w1.heap.size, 5, none⟩ = some (.slice m.a5 m.t5.length m.c5) ∧ w'.cell? ⟨w1.heap.size, 6, none⟩ = some (.int .i64 m.ix) ∧ w'.cell? ⟨w1.heap.size, 7, none⟩ = some (.int .i64 m.k0) ∧ w'.cell? ⟨w1.heap.size, 8, none⟩ = some (.int .i64 3) ∧ w'.cell? ⟨w1.heap.size, 9, none⟩ = some (.int .i64 m.k2) ∧ w'.cell? ⟨w1.heap.size, 10, none⟩ = some (.int .i64 m.k3) ∧ w'.cell? ⟨w1.heap.size, 11, none⟩ = some (.int .i64 m.k4) ∧ w'.cell? ⟨w1.heap.size, 12, none⟩ = some (.int .i64 m.k5) ∧ w'.cell? ⟨w1.heap.size, 13, none⟩ = some (.int .i64 m.k6) ∧ w'.cell? ⟨w1.heap.size, 14, none⟩ = some (.slice (some ⟨X, 0, none⟩) 2 2) ∧ Below v1b.heap.size v1b w') (first | (with_reducible assumption) | exact ⟨by with_reducible assumption, by with_reducible assumption, by with_reducible assumption, by with_reducible assumption, by with_reducible assumption, by with_reducible assumption, by with_reducible assumption, by with_reducible assumption, by with_reducible assumption, by with_reducible assumption, by with_reducible assumption, by with_reducible assumption, by with_reducible assumption, by with_reducible assumption, by with_reducible assumption, by with_reducible assumption⟩)
    (first | (go_at_call 12; refine (plain_c ⟨#[120]⟩ _ (by decide)).mono ?_; rintro e v2a ⟨pa2, pc2, pL2, rfl, hpL, ho, hb1⟩; have y2a : Below v1b.heap.size v1b v2a := bthen (by (repeat' (first | exact Below.refl _ _ | assumption | refine bdrewN ?_ _ | refine Below.drew ?_ | refine Below.setCell ?_ (Nat.le_refl _) _ | refine bal ?_ _ | refine bthen ?_ (by assumption)))) hb1; have P2 := hid ho.sl; have PL2 : Hid (pL2 = [120]) := hid (hpL.out.trans (by rfl)); clear hpL ho hb1; have kk := BK2.out _ y2a; obtain ⟨e0, e1, e2, e3, e4, e5, e6, e7, e8, e9, e10, e11, e12, e13, e14⟩ := kk)
           | (go_at_call 13; refine (VK2.out _ pa2 pc2 pL2 (by (repeat' (first | exact Below.refl _ _ | assumption | refine bdrewN ?_ _ | refine Below.drew ?_ | refine Below.setCell ?_ (Nat.le_refl _) _ | refine bal ?_ _ | refine bthen ?_ (by assumption)))) PL2 P2).mono ?_; rintro e v2b ⟨ra2, rc2, rL2, rfl, hrL, ho, hb1⟩; have y2b : Below v1b.heap.size v1b v2b := bthen (by (repeat' (first | exact Below.refl _ _ | assumption | refine bdrewN ?_ _ | refine Below.drew ?_ | refine Below.setCell ?_ (Nat.le_refl _) _ | refine bal ?_ _ | refine bthen ?_ (by assumption)))) hb1; have RL2 := hid hrL.out; have R2 := hid ho.sl; clear hrL ho hb1; have kk := BK2.out _ y2b; obtain ⟨f0, f1, f2, f3, f4, f5, f6, f7, f8, f9, f10, f11, f12, f13, f14⟩ := kk))
  have Y3 : Hid (Below W.heap.size W v2b) := hid (Y2.out.trans (y2b.mono Y2.out.size))
  have Q0' := hid (Q0.out.bel y2b)
  have Q1' := hid (R1.out.bel y2b)
  clear BK2 VK2 VAL3 xd y2a y2b P2 PL2
  clear d0 d1 d2 d3 d4 d5 d6 d7 d8 d9 d10 d11 d12 d13 d14 e0 f0 e1 f1 e2 f2 e3 f3 e4 f4 e5 f5 e6 f6 e7 f7 e8 f8 e9 f9 e10 f10 e11 f11 e12 f12 e13 f13 e14 f14
  have MAYW : Hid (∀ w', Below W.heap.size W w' → Calls Tryd.prog 19 #[.agg #[.slice m.a0 m.t0.length m.c0, .slice m.a1 m.t1.length m.c1, .slice m.a2 m.t2.length m.c2, .slice m.a3 m.t3.length m.c3, .slice m.a4 m.t4.length m.c4, .slice m.a5 m.t5.length m.c5, .int .i64 m.ix, .int .i64 m.k0, .int .i64 3, .int .i64 m.k2, .int .i64 m.k3, .int .i64 m.k4, .int .i64 m.k5, .int .i64 m.k6, .slice (some ⟨X, 0, none⟩) 2 2]] w' (MayP w' true)) := hid fun w' h => by
    have := may_e (knE m X) w' (hid (EW.out.bel h)) (hid (GW.out.bel h))
    rw [kn_may D.out X] at this
    exact this
  have MAYZ : Hid (∀ w', Hid (Gl w') → Calls Tryd.prog 19 #[.agg #[.slice none 0 0, .slice none 0 0, .slice none 0 0, .slice none 0 0, .slice none 0 0, .slice none 0 0, .int .i64 0, .int .i64 0, .int .i64 0, .int .i64 0, .int .i64 0, .int .i64 0, .int .i64 0, .int .i64 0, .slice none 0 0]] w' (MayP w' false)) := hid fun w' h =>
    may_e ⟨none, [], 0, none, [], 0, none, [], 0, none, [], 0, none, [], 0, none, [], 0, 0, 0, 0, 0, 0, 0, 0, 0, none, [], 0⟩ w' (hid ⟨Sl.nil _ _, Sl.nil _ _, Sl.nil _ _, Sl.nil _ _, Sl.nil _ _, Sl.nil _ _, I.Sl.nil _ _, by simp, by simp, by simp, by simp, by simp, by simp, by simp⟩) h
  obtain ⟨d0, d1, d2, d3, d4, d5, d6, d7, d8, d9, d10, d11, d12, d13, d14⟩ := BK.out v2b Y3.out
  go_wp2_with fail
  refine (MAYW.out v2b Y3.out).mono ?_
  rintro e v3 ⟨rfl, hb3⟩
  have Y4 : Hid (Below W.heap.size W v3) := hid (Y3.out.trans (hb3.mono Y3.out.size))
  have T0 := hid (Q0'.out.bel hb3)
  have T1 := hid (Q1'.out.bel hb3)
  clear d0 d1 d2 d3 d4 d5 d6 d7 d8 d9 d10 d11 d12 d13 d14 hb3
  have he0 : eqM rL0 [48, 51] = true := by rw [RL0.out]; decide
  go_wp2_with fail
  refine (rsame_c ra0 (some ⟨v3.heap.size, 0, none⟩) rc0 2 rL0 [48, 51] _ (T0.out.alloc _) (Sl.lit' _ [48, 51] _ _ (by simp) (by simp) (by simp [rng]) _ rfl)).mono ?_
  rintro e v4 ⟨rfl, n4, hn4⟩
  rw [he0]
  have x4 : Below v3.heap.size v3 v4 := by rw [hn4]; exact bdrewN (bal (Below.refl _ _) _) _
  have Y5 : Hid (Below W.heap.size W v4) := hid (Y4.out.trans (x4.mono Y4.out.size))
  have U1 := hid (T1.out.bel x4)
  clear hn4 x4
  go_wp2_with fail
  refine (plain_c ⟨#[48, 48, 48, 48, 102, 102]⟩ v4 (by decide)).mono ?_
  rintro e v5 ⟨pa, pc, pL, rfl, hpL, ho, hb5⟩
  have PS := hid ho.sl
  have Y6 : Hid (Below W.heap.size W v5) := hid (Y5.out.trans (hb5.mono Y5.out.size))
  have V1 := hid (U1.out.bel hb5)
  have he1 : eqM rL1 pL = true := by rw [RL1.out, hpL.out]; decide +kernel
  clear ho hb5 hpL
  go_wp2_with fail
  refine (rsame_c ra1 pa rc1 pc rL1 pL v5 V1.out PS.out).mono ?_
  rintro e v6 ⟨rfl, n6, hn6⟩
  rw [he1]
  have Y7 : Hid (Below W.heap.size W v6) := hid (Y6.out.trans (by rw [hn6]; exact (bdrewN (Below.refl _ _) _).mono Y6.out.size))
  clear hn6
  go_wp2_with fail
  refine (MAYZ.out v6 (hid (GW.out.bel Y7.out))).mono ?_
  rintro e v7 ⟨rfl, hb7⟩
  have HZ := hid ((BW.out.trans (Y7.out.mono BW.out.size)).trans (hb7.mono (Nat.le_trans BW.out.size Y7.out.size)))
  clear hb7
  go_wp2
  go_ret
  exact ⟨rfl, HZ.out⟩
end Go.Proofs.YtijhkpbnalnpbaaDoor
