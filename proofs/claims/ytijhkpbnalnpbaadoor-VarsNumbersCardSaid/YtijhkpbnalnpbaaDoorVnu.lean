/- Layer 16: VarsNumbers' walk. -/
import Derived.Test.YtijhkpbnalnpbaaDoorVd
import Derived.Deep.CutBlock
import Derived.Deep.DeepCutAuto
namespace Go.Proofs.YtijhkpbnalnpbaaDoor
open Go.RowKit

/-- the box's state: an environment that stays readable while the box is written -/
structure NB (b : Nat) (w0 w : World) (mf : En) : Prop where
  X : BoxV w b (enC mf)
  E : EnK b w mf
  B : Below b w0 w
theorem NB.step {b : Nat} {w0 w v : World} {mf mg : En} (h : NB b w0 w mf) (k : KR b w v) (X : BoxV v b (enC mg)) (e : ∀ w', KR b v w' → EnOk w' mf → EnOk w' mg) : NB b w0 v mg :=
  ⟨X, fun w' k' => e w' k' (h.E w' (k.tr k')), h.B.trans (k.belowp (Nat.le_of_lt h.X.lt))⟩
theorem NB.bel {b : Nat} {w0 w v : World} {mf : En} (h : NB b w0 w mf) (k : Below w.heap.size w v) : NB b w0 v mf := ⟨h.X.bel k, h.E.kr (Kpt.of k), h.B.trans (k.mono (Nat.le_of_lt h.X.lt))⟩
def clk (mf : En) (v0 v1 v2 v3 v4 v5 v6 : Int) : En := ⟨mf.a0, mf.t0, mf.c0, mf.a1, mf.t1, mf.c1, mf.a2, mf.t2, mf.c2, mf.a3, mf.t3, mf.c3, mf.a4, mf.t4, mf.c4, mf.a5, mf.t5, mf.c5, mf.ix, v0, v1, v2, v3, v4, v5, v6, mf.da, mf.dl, mf.dc⟩
theorem NB.clock {b : Nat} {w0 w : World} {mf : En} (h : NB b w0 w mf) (v0 v1 v2 v3 v4 v5 v6 : Int) : NB b w0 (((((((w.setCell ⟨b, 7, none⟩ (.int .i64 v0)).setCell ⟨b, 8, none⟩ (.int .i64 v1)).setCell ⟨b, 9, none⟩ (.int .i64 v2)).setCell ⟨b, 10, none⟩ (.int .i64 v3)).setCell ⟨b, 11, none⟩ (.int .i64 v4)).setCell ⟨b, 12, none⟩ (.int .i64 v5)).setCell ⟨b, 13, none⟩ (.int .i64 v6)) (clk mf v0 v1 v2 v3 v4 v5 v6) :=
  h.step ((((((((Kpt.refl _ _).set _).set _).set _).set _).set _).set _).set _) (by
    have x0 := h.X.set (j := 7) (v := .int .i64 v0) (vs' := enC ⟨mf.a0, mf.t0, mf.c0, mf.a1, mf.t1, mf.c1, mf.a2, mf.t2, mf.c2, mf.a3, mf.t3, mf.c3, mf.a4, mf.t4, mf.c4, mf.a5, mf.t5, mf.c5, mf.ix, v0, mf.k1, mf.k2, mf.k3, mf.k4, mf.k5, mf.k6, mf.da, mf.dl, mf.dc⟩) (by simp [enC]) rfl
    have x1 := x0.set (j := 8) (v := .int .i64 v1) (vs' := enC ⟨mf.a0, mf.t0, mf.c0, mf.a1, mf.t1, mf.c1, mf.a2, mf.t2, mf.c2, mf.a3, mf.t3, mf.c3, mf.a4, mf.t4, mf.c4, mf.a5, mf.t5, mf.c5, mf.ix, v0, v1, mf.k2, mf.k3, mf.k4, mf.k5, mf.k6, mf.da, mf.dl, mf.dc⟩) (by simp [enC]) rfl
    have x2 := x1.set (j := 9) (v := .int .i64 v2) (vs' := enC ⟨mf.a0, mf.t0, mf.c0, mf.a1, mf.t1, mf.c1, mf.a2, mf.t2, mf.c2, mf.a3, mf.t3, mf.c3, mf.a4, mf.t4, mf.c4, mf.a5, mf.t5, mf.c5, mf.ix, v0, v1, v2, mf.k3, mf.k4, mf.k5, mf.k6, mf.da, mf.dl, mf.dc⟩) (by simp [enC]) rfl
    have x3 := x2.set (j := 10) (v := .int .i64 v3) (vs' := enC ⟨mf.a0, mf.t0, mf.c0, mf.a1, mf.t1, mf.c1, mf.a2, mf.t2, mf.c2, mf.a3, mf.t3, mf.c3, mf.a4, mf.t4, mf.c4, mf.a5, mf.t5, mf.c5, mf.ix, v0, v1, v2, v3, mf.k4, mf.k5, mf.k6, mf.da, mf.dl, mf.dc⟩) (by simp [enC]) rfl
    have x4 := x3.set (j := 11) (v := .int .i64 v4) (vs' := enC ⟨mf.a0, mf.t0, mf.c0, mf.a1, mf.t1, mf.c1, mf.a2, mf.t2, mf.c2, mf.a3, mf.t3, mf.c3, mf.a4, mf.t4, mf.c4, mf.a5, mf.t5, mf.c5, mf.ix, v0, v1, v2, v3, v4, mf.k5, mf.k6, mf.da, mf.dl, mf.dc⟩) (by simp [enC]) rfl
    have x5 := x4.set (j := 12) (v := .int .i64 v5) (vs' := enC ⟨mf.a0, mf.t0, mf.c0, mf.a1, mf.t1, mf.c1, mf.a2, mf.t2, mf.c2, mf.a3, mf.t3, mf.c3, mf.a4, mf.t4, mf.c4, mf.a5, mf.t5, mf.c5, mf.ix, v0, v1, v2, v3, v4, v5, mf.k6, mf.da, mf.dl, mf.dc⟩) (by simp [enC]) rfl
    have x6 := x5.set (j := 13) (v := .int .i64 v6) (vs' := enC ⟨mf.a0, mf.t0, mf.c0, mf.a1, mf.t1, mf.c1, mf.a2, mf.t2, mf.c2, mf.a3, mf.t3, mf.c3, mf.a4, mf.t4, mf.c4, mf.a5, mf.t5, mf.c5, mf.ix, v0, v1, v2, v3, v4, v5, v6, mf.da, mf.dl, mf.dc⟩) (by simp [enC]) rfl
    exact x6) (fun _ _ e => ⟨e.s0, e.s1, e.s2, e.s3, e.s4, e.s5, e.sd, e.l0, e.l1, e.l2, e.l3, e.l4, e.l5, e.ld⟩)
theorem NB.three {b : Nat} {w0 w : World} {mf : En} (h : NB b w0 w mf) (v1 v2 v6 : Int) : NB b w0 (((w.setCell ⟨b, 8, none⟩ (.int .i64 v1)).setCell ⟨b, 9, none⟩ (.int .i64 v2)).setCell ⟨b, 13, none⟩ (.int .i64 v6)) (clk mf mf.k0 v1 v2 mf.k3 mf.k4 mf.k5 v6) :=
  h.step ((((Kpt.refl _ _).set _).set _).set _) (by
    have x0 := h.X.set (j := 8) (v := .int .i64 v1) (vs' := enC ⟨mf.a0, mf.t0, mf.c0, mf.a1, mf.t1, mf.c1, mf.a2, mf.t2, mf.c2, mf.a3, mf.t3, mf.c3, mf.a4, mf.t4, mf.c4, mf.a5, mf.t5, mf.c5, mf.ix, mf.k0, v1, mf.k2, mf.k3, mf.k4, mf.k5, mf.k6, mf.da, mf.dl, mf.dc⟩) (by simp [enC]) rfl
    have x1 := x0.set (j := 9) (v := .int .i64 v2) (vs' := enC ⟨mf.a0, mf.t0, mf.c0, mf.a1, mf.t1, mf.c1, mf.a2, mf.t2, mf.c2, mf.a3, mf.t3, mf.c3, mf.a4, mf.t4, mf.c4, mf.a5, mf.t5, mf.c5, mf.ix, mf.k0, v1, v2, mf.k3, mf.k4, mf.k5, mf.k6, mf.da, mf.dl, mf.dc⟩) (by simp [enC]) rfl
    have x2 := x1.set (j := 13) (v := .int .i64 v6) (vs' := enC ⟨mf.a0, mf.t0, mf.c0, mf.a1, mf.t1, mf.c1, mf.a2, mf.t2, mf.c2, mf.a3, mf.t3, mf.c3, mf.a4, mf.t4, mf.c4, mf.a5, mf.t5, mf.c5, mf.ix, mf.k0, v1, v2, mf.k3, mf.k4, mf.k5, v6, mf.da, mf.dl, mf.dc⟩) (by simp [enC]) rfl
    exact x2) (fun _ _ e => ⟨e.s0, e.s1, e.s2, e.s3, e.s4, e.s5, e.sd, e.l0, e.l1, e.l2, e.l3, e.l4, e.l5, e.ld⟩)
theorem NB.index {b : Nat} {w0 w : World} {mf : En} (h : NB b w0 w mf) (v : Int) : NB b w0 (w.setCell ⟨b, 6, none⟩ (.int .i64 v)) ⟨mf.a0, mf.t0, mf.c0, mf.a1, mf.t1, mf.c1, mf.a2, mf.t2, mf.c2, mf.a3, mf.t3, mf.c3, mf.a4, mf.t4, mf.c4, mf.a5, mf.t5, mf.c5, v, mf.k0, mf.k1, mf.k2, mf.k3, mf.k4, mf.k5, mf.k6, mf.da, mf.dl, mf.dc⟩ :=
  h.step ((Kpt.refl _ _).set _) (h.X.set (by simp [enC]) rfl) (fun _ _ e => ⟨e.s0, e.s1, e.s2, e.s3, e.s4, e.s5, e.sd, e.l0, e.l1, e.l2, e.l3, e.l4, e.l5, e.ld⟩)
theorem NB.file {b base c : Nat} {a : Option Addr} {l : List Int} {w0 w : World} {mf : En} (h : NB b w0 w mf) (ho : Own w base a c l) (hb : b < base) : NB b w0 (w.setCell ⟨b, 3, none⟩ (.slice a l.length c)) ⟨mf.a0, mf.t0, mf.c0, mf.a1, mf.t1, mf.c1, mf.a2, mf.t2, mf.c2, a, l, c, mf.a4, mf.t4, mf.c4, mf.a5, mf.t5, mf.c5, mf.ix, mf.k0, mf.k1, mf.k2, mf.k3, mf.k4, mf.k5, mf.k6, mf.da, mf.dl, mf.dc⟩ :=
  h.step ((Kpt.refl _ _).set _) (h.X.set (by simp [enC]) rfl) (fun w' k e => ⟨e.s0, e.s1, e.s2, SlK.own ho hb w' (((Kpt.refl _ _).set _).tr k), e.s4, e.s5, e.sd, e.l0, e.l1, e.l2, ho.cap, e.l4, e.l5, e.ld⟩)
set_option maxHeartbeats 32000000 in
set_option maxRecDepth 100000 in
theorem vnumbers_c (w : World) (hg : Hid (Gl w)) :
    Calls Tryd.prog 5 #[] w fun e w' => e = .returned (.bool true) ∧ Below w.heap.size w w' := by
  have hbT : Hid (Below w.heap.size w (w.alloc (.cells #[.slice none 0 0, .int .i64 0] 29))) := hid (bal (Below.refl _ _) _)
  have HTA : Hid (TapeAt (w.alloc (.cells #[.slice none 0 0, .int .i64 0] 29)) w.heap.size none [] 0 0) := hid ⟨by simp, by rw [cell_alloc_new]; rfl, by rw [cell_alloc_new]; rfl, by unfold World.frozen?; rw [heap_alloc_new]; rfl, Nat.zero_le _⟩
  go_enter Tryd.func5, Tryd.ntmps5
  go_wp2_with fail
  refine (env16_c w.heap.size none [] 0 0 _ HTA.out (hid fun _ _ => I.Sl.nil _ _)).mono ?_
  rintro e w1 ⟨m, rfl, hE, hb1, _⟩
  have N1 := hid hE
  have B1 : Hid (Below w.heap.size w w1) := hid (hbT.out.trans hb1)
  clear hE hb1 hbT HTA
  simp only [enC]
  go_upto_region 2 with fail
  generalize hV : World.alloc w1 _ = W
  have X1 : Hid (BoxV W w1.heap.size (enC m)) := hid (by rw [← hV]; exact BoxV.new w1 _ _)
  have B2 : Hid (Below w1.heap.size w1 W) := hid (by rw [← hV]; exact bal (Below.refl _ _) _)
  have hl1 : w1.heap.size < W.heap.size := by rw [← hV]; simp
  clear hV
  have E1 : Hid (EnK w1.heap.size W m) := hid (EnK.of N1.out B2.out (Nat.le_refl _) (Nat.le_of_lt hl1))
  have XA : ∀ o, BoxV (W.alloc o) w1.heap.size (enC m) := fun o => X1.out.bel (bal (Below.refl _ _) _)
  have HXA := hid XA
  have qq : ∀ o, (W.alloc o).cell? ⟨w1.heap.size, 14, none⟩ = some (.slice m.da m.dl.length m.dc) := fun o => (XA o).c 14 _ rfl
  have zz : ∀ o, (W.alloc o).frozen? ⟨w1.heap.size, 14, none⟩ = false := fun o => (XA o).f 14
  clear XA N1
  go_upto_block 0 with fail
  generalize hV : World.alloc (World.setCell W _ _) _ = W2
  have k2 : KR w1.heap.size W W2 := by rw [← hV]; exact ((Kpt.refl _ _).set _).alloc _
  have SD : I.Sl W2 (some ⟨W.heap.size, 0, none⟩) [0, 1, 16777215, 999999, 1000000, 11259375] := by
    rw [← hV]; exact I.Sl.lit' _ [0, 1, 16777215, 999999, 1000000, 11259375] _ _ (by simp) (by simp) (by intro x hx; simp at hx; omega) _ rfl
  have NB2 : Hid (NB w1.heap.size w1 W2 (withD m (some ⟨W.heap.size, 0, none⟩) [0, 1, 16777215, 999999, 1000000, 11259375] 6)) := hid ⟨by
      rw [← hV]; exact (X1.out.set (by simp [enC]) rfl).bel (bal (Below.refl _ _) _), (E1.out.kr k2).withD (fun w' k' => SD.kpt (F := fun k => k = w1.heap.size) (fun ad h1 h2 => by obtain rfl := Option.some.inj h1; simp at h2; omega) k') (by simp), B2.out.trans (k2.belowp (Nat.le_of_lt hl1))⟩
  clear hV qq zz HXA X1 E1 k2 SD
  go_wp2_with fail
  go_loopw [2] (fun iv wr => ∃ (j : Nat) (mf : En), j ≤ 28 ∧ iv = .int .i64 j ∧ Hid (NB w1.heap.size w1 wr mf)) (fun iv _ => 28 - (intOf iv).toNat)
  case atStart => exact ⟨0, _, by omega, rfl, NB2⟩
  case round =>
    rename World => U
    obtain ⟨j, mf, hj, rfl, hN⟩ := hrel
    by_cases hlt : j < 28
    · have b0 : decide (j < 28) = true := by simpa using hlt
      have b0i : decide ((j : Int) < 28) = true := by simp; omega
      go_wp2_with fail
      go_loopw [3] (fun mv wr => ∃ (k : Nat) (mg : En), k ≤ 14 ∧ mv = .int .i64 k ∧ Hid (NB w1.heap.size w1 wr mg)) (fun mv _ => 14 - (intOf mv).toNat)
      case atStart => exact ⟨0, mf, by omega, rfl, hN⟩
      case round =>
        rename World => P
        obtain ⟨k, mg, hk, rfl, hP⟩ := hrel
        clear hN
        by_cases hk13 : k ≤ 13
        · have b1 : decide (k ≤ 13) = true := by simpa using hk13
          have b1i : decide ((k : Int) ≤ 13) = true := by simp; omega
          have q7 := hP.out.X.c 7 _ rfl
          have z7 := hP.out.X.f 7
          have q8 := hP.out.X.c 8 _ rfl
          have z8 := hP.out.X.f 8
          have q9 := hP.out.X.c 9 _ rfl
          have z9 := hP.out.X.f 9
          have q10 := hP.out.X.c 10 _ rfl
          have z10 := hP.out.X.f 10
          have q11 := hP.out.X.c 11 _ rfl
          have z11 := hP.out.X.f 11
          have q12 := hP.out.X.c 12 _ rfl
          have z12 := hP.out.X.f 12
          have q13 := hP.out.X.c 13 _ rfl
          have z13 := hP.out.X.f 13
          go_upto_region 10 with fail
          generalize hV : World.setCell _ _ _ = P1
          obtain ⟨v0, v1, v2, v3, v4, v5, v6, hN9⟩ : ∃ v0 v1 v2 v3 v4 v5 v6 : Int, NB w1.heap.size w1 P1 (clk mg v0 v1 v2 v3 v4 v5 v6) := ⟨_, _, _, _, _, _, _, by rw [← hV]; exact hP.out.clock _ _ _ _ _ _ _⟩
          have HN9 := hid hN9
          have q6 := hN9.X.c 6 _ rfl
          have z6 := hN9.X.f 6
          clear hV hP hN9 q7 z7 q8 z8 q9 z9 q10 z10 q11 z11 q12 z12 q13 z13
          go_upto_region 11 with fail
          generalize hV : World.setCell _ _ _ = P2
          obtain ⟨ma, hNa⟩ : ∃ ma : En, NB w1.heap.size w1 P2 ma := ⟨_, by rw [← hV]; exact HN9.out.index _⟩
          have HNa := hid hNa
          clear hV HN9 q6 z6 hNa
          go_cut [10] (fun sv wc => sv = .bool true ∧ ∃ mh : En, Hid (NB w1.heap.size w1 wc mh))
          case first =>
            have hb7 := band_le (k : Int) 7 (by decide)
            rw [show ((7 : Nat) : Int) = 7 from rfl] at hb7
            rcases (show bits .and .i64 (k : Int) 7 = 0 ∨ bits .and .i64 (k : Int) 7 = 1 ∨ bits .and .i64 (k : Int) 7 = 2 ∨ bits .and .i64 (k : Int) 7 = 3 ∨ bits .and .i64 (k : Int) 7 = 4 ∨ bits .and .i64 (k : Int) 7 = 5 ∨ bits .and .i64 (k : Int) 7 = 6 ∨ bits .and .i64 (k : Int) 7 = 7 by omega) with hz | hz | hz | hz | hz | hz | hz | hz
            all_goals clear hb7
            all_goals go_wp2_with (first | (go_at_call 12; refine (plain_c _ _ (by decide)).mono ?_; rintro e v ⟨pa, pc, pL, rfl, _, ho, hb1⟩; have NV := hid (HNa.out.bel (bthen (by (repeat' (first | exact Below.refl _ _ | assumption | refine bdrewN ?_ _ | refine Below.drew ?_ | refine Below.setCell ?_ (Nat.le_refl _) _ | refine bal ?_ _ | refine bthen ?_ (by assumption)))) hb1)); have HO := hid ho; have q3 := NV.out.X.c 3 _ rfl; have z3 := NV.out.X.f 3; clear ho hb1))
            all_goals go_meet
            all_goals exact ⟨rfl, _, hid (NV.out.file HO.out (by have := HNa.out.X.lt; simp; omega))⟩
          case rest =>
          obtain ⟨rfl, mh, hNh⟩ := hcut
          rename World => P3
          go_upto_region 12 with fail
          obtain ⟨x0, x1, x2, x3, x4, x5, x6, x7, x8, x9, x10, x11, x12, x13, x14, hAh⟩ : ∃ x0 x1 x2 x3 x4 x5 x6 x7 x8 x9 x10 x11 x12 x13 x14 : Value, Hid (enC mh = #[x0, x1, x2, x3, x4, x5, x6, x7, x8, x9, x10, x11, x12, x13, x14]) := ⟨_, _, _, _, _, _, _, _, _, _, _, _, _, _, _, rfl⟩
          have BKh : Hid (∀ w', Below P3.heap.size P3 w' → w'.cell? ⟨w1.heap.size, 0, none⟩ = some x0 ∧ w'.cell? ⟨w1.heap.size, 1, none⟩ = some x1 ∧ w'.cell? ⟨w1.heap.size, 2, none⟩ = some x2 ∧ w'.cell? ⟨w1.heap.size, 3, none⟩ = some x3 ∧ w'.cell? ⟨w1.heap.size, 4, none⟩ = some x4 ∧ w'.cell? ⟨w1.heap.size, 5, none⟩ = some x5 ∧ w'.cell? ⟨w1.heap.size, 6, none⟩ = some x6 ∧ w'.cell? ⟨w1.heap.size, 7, none⟩ = some x7 ∧ w'.cell? ⟨w1.heap.size, 8, none⟩ = some x8 ∧ w'.cell? ⟨w1.heap.size, 9, none⟩ = some x9 ∧ w'.cell? ⟨w1.heap.size, 10, none⟩ = some x10 ∧ w'.cell? ⟨w1.heap.size, 11, none⟩ = some x11 ∧ w'.cell? ⟨w1.heap.size, 12, none⟩ = some x12 ∧ w'.cell? ⟨w1.heap.size, 13, none⟩ = some x13 ∧ w'.cell? ⟨w1.heap.size, 14, none⟩ = some x14) := hid fun w' h => by
            have g := hNh.out.X
            rw [hAh.out] at g
            have g0 := (g.bel h).c
            exact ⟨g0 0 _ rfl, g0 1 _ rfl, g0 2 _ rfl, g0 3 _ rfl, g0 4 _ rfl, g0 5 _ rfl, g0 6 _ rfl, g0 7 _ rfl, g0 8 _ rfl, g0 9 _ rfl, g0 10 _ rfl, g0 11 _ rfl, g0 12 _ rfl, g0 13 _ rfl, g0 14 _ rfl⟩
          have SMh : Hid (∀ w' a' c' l' u, i64 u → Below P3.heap.size P3 w' → Hid (Sl w' a' l') → Calls Tryd.prog 8 #[.agg #[x0, x1, x2, x3, x4, x5, x6, x7, x8, x9, x10, x11, x12, x13, x14], .slice a' l'.length c', .int .i64 u] w' fun e w'' => e = .returned (.bool true) ∧ Below w'.heap.size w' w'') := hid fun w' a' c' l' u h1 h2 h3 => by
            rw [← hAh.out]
            have NN := hNh.out.bel h2
            exact same16_c mh a' c' l' u w' (hid (NN.E.at)) h3 h1 (hid (hg.out.bel (B1.out.trans (NN.B.mono B1.out.size))))
          obtain ⟨d0, d1, d2, d3, d4, d5, d6, d7, d8, d9, d10, d11, d12, d13, d14⟩ := BKh.out P3.drew (Below.refl _ _).drew
          have xd : Below P3.heap.size P3 P3.drew := (Below.refl _ _).drew
          go_region_held3 (fun w' => w'.cell? ⟨w1.heap.size, 0, none⟩ = some x0 ∧ w'.cell? ⟨w1.heap.size, 1, none⟩ = some x1 ∧ w'.cell? ⟨w1.heap.size, 2, none⟩ = some x2 ∧ w'.cell? ⟨w1.heap.size, 3, none⟩ = some x3 ∧ w'.cell? ⟨w1.heap.size, 4, none⟩ = some x4 ∧ w'.cell? ⟨w1.heap.size, 5, none⟩ = some x5 ∧ w'.cell? ⟨w1.heap.size, 6, none⟩ = some x6 ∧ w'.cell? ⟨w1.heap.size, 7, none⟩ = some x7 ∧ w'.cell? ⟨w1.heap.size, 8, none⟩ = some x8 ∧ w'.cell? ⟨w1.heap.size, 9, none⟩ = some x9 ∧ w'.cell? ⟨w1.heap.size, 10, none⟩ = some x10 ∧ w'.cell? ⟨w1.heap.size, 11, none⟩ = some x11 ∧ w'.cell? ⟨w1.heap.size, 12, none⟩ = some x12 ∧ w'.cell? ⟨w1.heap.size, 13, none⟩ = some x13 ∧ w'.cell? ⟨w1.heap.size, 14, none⟩ = some x14 ∧ Below P3.heap.size P3 w') (first | (with_reducible assumption) | exact ⟨by with_reducible assumption, by with_reducible assumption, by with_reducible assumption, by with_reducible assumption, by with_reducible assumption, by with_reducible assumption, by with_reducible assumption, by with_reducible assumption, by with_reducible assumption, by with_reducible assumption, by with_reducible assumption, by with_reducible assumption, by with_reducible assumption, by with_reducible assumption, by with_reducible assumption, by with_reducible assumption⟩)
            (first | (go_at_call 9; refine (name16_c _ _).mono ?_; rintro e v ⟨na, nc, nL, rfl, ho, hb1⟩; have y : Below P3.heap.size P3 v := bthen (by (repeat' (first | exact Below.refl _ _ | assumption | refine bdrewN ?_ _ | refine Below.drew ?_ | refine Below.setCell ?_ (Nat.le_refl _) _ | refine bal ?_ _ | refine bthen ?_ (by assumption)))) hb1; have NS := hid ho.sl; clear ho hb1; clear d0 d1 d2 d3 d4 d5 d6 d7 d8 d9 d10 d11 d12 d13 d14; have kk := BKh.out _ y; obtain ⟨d0, d1, d2, d3, d4, d5, d6, d7, d8, d9, d10, d11, d12, d13, d14⟩ := kk)
                   | (go_at_call 8; refine (SMh.out _ na nc nL _ ?_ ?_ ?_).mono ?_; (focus (unfold i64; first | omega | (rw [IntKind.wrap_i64]; omega))); (focus (repeat' (first | exact Below.refl _ _ | assumption | refine bdrewN ?_ _ | refine Below.drew ?_ | refine Below.setCell ?_ (Nat.le_refl _) _ | refine bal ?_ _ | refine bthen ?_ (by assumption)))); (focus (exact NS)); rintro e v ⟨rfl, hb1⟩; have y : Below P3.heap.size P3 v := bthen (by (repeat' (first | exact Below.refl _ _ | assumption | refine bdrewN ?_ _ | refine Below.drew ?_ | refine Below.setCell ?_ (Nat.le_refl _) _ | refine bal ?_ _ | refine bthen ?_ (by assumption)))) hb1; clear hb1; clear d0 d1 d2 d3 d4 d5 d6 d7 d8 d9 d10 d11 d12 d13 d14; have kk := BKh.out _ y; obtain ⟨d0, d1, d2, d3, d4, d5, d6, d7, d8, d9, d10, d11, d12, d13, d14⟩ := kk))

          have Y := hid y
          clear d0 d1 d2 d3 d4 d5 d6 d7 d8 d9 d10 d11 d12 d13 d14 y xd SMh BKh hAh
          rename World => P4
          have hN4 : Hid (NB w1.heap.size w1 P4 mh) := hid (hNh.out.bel Y.out)
          have q8 := hN4.out.X.c 8 _ rfl
          have z8 := hN4.out.X.f 8
          have q9 := hN4.out.X.c 9 _ rfl
          have z9 := hN4.out.X.f 9
          have q13 := hN4.out.X.c 13 _ rfl
          have z13 := hN4.out.X.f 13
          go_upto_region 15 with fail
          generalize hV : World.setCell _ _ _ = P5
          obtain ⟨mt, hNT⟩ : ∃ mt : En, NB w1.heap.size w1 P5 mt := ⟨_, by rw [← hV]; exact hN4.out.three _ _ _⟩
          have hNt := hid hNT
          clear hV hNT hN4 q8 z8 q9 z9 q13 z13 hNh Y
          obtain ⟨z0, z1, z2, z3, z4, z5, z6, z7, z8, z9, z10, z11, z12, z13, z14, hAt⟩ : ∃ z0 z1 z2 z3 z4 z5 z6 z7 z8 z9 z10 z11 z12 z13 z14 : Value, Hid (enC mt = #[z0, z1, z2, z3, z4, z5, z6, z7, z8, z9, z10, z11, z12, z13, z14]) := ⟨_, _, _, _, _, _, _, _, _, _, _, _, _, _, _, rfl⟩
          have BKt : Hid (∀ w', Below P5.heap.size P5 w' → w'.cell? ⟨w1.heap.size, 0, none⟩ = some z0 ∧ w'.cell? ⟨w1.heap.size, 1, none⟩ = some z1 ∧ w'.cell? ⟨w1.heap.size, 2, none⟩ = some z2 ∧ w'.cell? ⟨w1.heap.size, 3, none⟩ = some z3 ∧ w'.cell? ⟨w1.heap.size, 4, none⟩ = some z4 ∧ w'.cell? ⟨w1.heap.size, 5, none⟩ = some z5 ∧ w'.cell? ⟨w1.heap.size, 6, none⟩ = some z6 ∧ w'.cell? ⟨w1.heap.size, 7, none⟩ = some z7 ∧ w'.cell? ⟨w1.heap.size, 8, none⟩ = some z8 ∧ w'.cell? ⟨w1.heap.size, 9, none⟩ = some z9 ∧ w'.cell? ⟨w1.heap.size, 10, none⟩ = some z10 ∧ w'.cell? ⟨w1.heap.size, 11, none⟩ = some z11 ∧ w'.cell? ⟨w1.heap.size, 12, none⟩ = some z12 ∧ w'.cell? ⟨w1.heap.size, 13, none⟩ = some z13 ∧ w'.cell? ⟨w1.heap.size, 14, none⟩ = some z14) := hid fun w' h => by
            have g := hNt.out.X
            rw [hAt.out] at g
            have g0 := (g.bel h).c
            exact ⟨g0 0 _ rfl, g0 1 _ rfl, g0 2 _ rfl, g0 3 _ rfl, g0 4 _ rfl, g0 5 _ rfl, g0 6 _ rfl, g0 7 _ rfl, g0 8 _ rfl, g0 9 _ rfl, g0 10 _ rfl, g0 11 _ rfl, g0 12 _ rfl, g0 13 _ rfl, g0 14 _ rfl⟩
          have SMt : Hid (∀ w' a' c' l' u, i64 u → Below P5.heap.size P5 w' → Hid (Sl w' a' l') → Calls Tryd.prog 8 #[.agg #[z0, z1, z2, z3, z4, z5, z6, z7, z8, z9, z10, z11, z12, z13, z14], .slice a' l'.length c', .int .i64 u] w' fun e w'' => e = .returned (.bool true) ∧ Below w'.heap.size w' w'') := hid fun w' a' c' l' u h1 h2 h3 => by
            rw [← hAt.out]
            have NN := hNt.out.bel h2
            exact same16_c mt a' c' l' u w' (hid (NN.E.at)) h3 h1 (hid (hg.out.bel (B1.out.trans (NN.B.mono B1.out.size))))
          obtain ⟨d0, d1, d2, d3, d4, d5, d6, d7, d8, d9, d10, d11, d12, d13, d14⟩ := BKt.out P5.drew (Below.refl _ _).drew
          have xd : Below P5.heap.size P5 P5.drew := (Below.refl _ _).drew
          go_region_held3 (fun w' => w'.cell? ⟨w1.heap.size, 0, none⟩ = some z0 ∧ w'.cell? ⟨w1.heap.size, 1, none⟩ = some z1 ∧ w'.cell? ⟨w1.heap.size, 2, none⟩ = some z2 ∧ w'.cell? ⟨w1.heap.size, 3, none⟩ = some z3 ∧ w'.cell? ⟨w1.heap.size, 4, none⟩ = some z4 ∧ w'.cell? ⟨w1.heap.size, 5, none⟩ = some z5 ∧ w'.cell? ⟨w1.heap.size, 6, none⟩ = some z6 ∧ w'.cell? ⟨w1.heap.size, 7, none⟩ = some z7 ∧ w'.cell? ⟨w1.heap.size, 8, none⟩ = some z8 ∧ w'.cell? ⟨w1.heap.size, 9, none⟩ = some z9 ∧ w'.cell? ⟨w1.heap.size, 10, none⟩ = some z10 ∧ w'.cell? ⟨w1.heap.size, 11, none⟩ = some z11 ∧ w'.cell? ⟨w1.heap.size, 12, none⟩ = some z12 ∧ w'.cell? ⟨w1.heap.size, 13, none⟩ = some z13 ∧ w'.cell? ⟨w1.heap.size, 14, none⟩ = some z14 ∧ Below P5.heap.size P5 w') (first | (with_reducible assumption) | exact ⟨by with_reducible assumption, by with_reducible assumption, by with_reducible assumption, by with_reducible assumption, by with_reducible assumption, by with_reducible assumption, by with_reducible assumption, by with_reducible assumption, by with_reducible assumption, by with_reducible assumption, by with_reducible assumption, by with_reducible assumption, by with_reducible assumption, by with_reducible assumption, by with_reducible assumption, by with_reducible assumption⟩)
            (first | (go_at_call 9; refine (name16_c _ _).mono ?_; rintro e v ⟨na, nc, nL, rfl, ho, hb1⟩; have y : Below P5.heap.size P5 v := bthen (by (repeat' (first | exact Below.refl _ _ | assumption | refine bdrewN ?_ _ | refine Below.drew ?_ | refine Below.setCell ?_ (Nat.le_refl _) _ | refine bal ?_ _ | refine bthen ?_ (by assumption)))) hb1; have NS := hid ho.sl; clear ho hb1; clear d0 d1 d2 d3 d4 d5 d6 d7 d8 d9 d10 d11 d12 d13 d14; have kk := BKt.out _ y; obtain ⟨d0, d1, d2, d3, d4, d5, d6, d7, d8, d9, d10, d11, d12, d13, d14⟩ := kk)
                   | (go_at_call 8; refine (SMt.out _ na nc nL _ ?_ ?_ ?_).mono ?_; (focus (unfold i64; first | omega | (rw [IntKind.wrap_i64]; omega))); (focus (repeat' (first | exact Below.refl _ _ | assumption | refine bdrewN ?_ _ | refine Below.drew ?_ | refine Below.setCell ?_ (Nat.le_refl _) _ | refine bal ?_ _ | refine bthen ?_ (by assumption)))); (focus (exact NS)); rintro e v ⟨rfl, hb1⟩; have y : Below P5.heap.size P5 v := bthen (by (repeat' (first | exact Below.refl _ _ | assumption | refine bdrewN ?_ _ | refine Below.drew ?_ | refine Below.setCell ?_ (Nat.le_refl _) _ | refine bal ?_ _ | refine bthen ?_ (by assumption)))) hb1; clear hb1; clear d0 d1 d2 d3 d4 d5 d6 d7 d8 d9 d10 d11 d12 d13 d14; have kk := BKt.out _ y; obtain ⟨d0, d1, d2, d3, d4, d5, d6, d7, d8, d9, d10, d11, d12, d13, d14⟩ := kk))

          have Y := hid y
          clear d0 d1 d2 d3 d4 d5 d6 d7 d8 d9 d10 d11 d12 d13 d14 y xd SMt BKt hAt
          go_wp2
          go_roundw
          case rel => exact ⟨k + 1, mt, by omega, by go_num, hid (hNt.out.bel Y.out)⟩
          case measure => simp [intOf]; omega
        · have b1 : decide (k ≤ 13) = false := by simpa using hk13
          go_wp2
          go_roundw
          case rel => exact ⟨j + 1, mg, by omega, by go_num, hP⟩
          case measure => simp [intOf]; omega
    · have b0 : decide (j < 28) = false := by simpa using hlt
      go_wp2_with (first | (go_at_call 10; refine (known16_c _ (hid (hg.out.bel (B1.out.trans (hN.out.B.mono B1.out.size))))).mono ?_; rintro e v2 ⟨rfl, hb2⟩))
      go_ret
      exact ⟨rfl, bthen (B1.out.trans (hN.out.B.mono B1.out.size)) (by assumption)⟩
end Go.Proofs.YtijhkpbnalnpbaaDoor
