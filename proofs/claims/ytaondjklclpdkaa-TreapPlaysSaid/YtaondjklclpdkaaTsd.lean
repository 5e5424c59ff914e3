/- The walk of play: any deeds on both sets. -/
import Derived.Test.YtaondjklclpdkaaTsc
import Derived.Test.YtaondjklclpdkaaMko
namespace Go.Proofs.Ytaondjklclpdkaa
open Go.RowKit

theorem addL_gd {L : List Mk} (g : Gd L) {m : Mk} (h : MkIr m) : Gd (addL L m) := g.add ⟨h.1, h.2.2.2⟩
set_option maxRecDepth 20000 in
set_option maxHeartbeats 60000000 in
theorem play_c {B : Nat} (s r : Nat) (a : Option Addr) (c : Nat) (l : List Td) (w : World) (h : Two B (fun _ => False) w s r [] [])
    (hl : ∀ w', Below B w w' → TSl w' a l) (_hlen : l.length ≤ 1000000000000000) (hB : B ≤ w.heap.size) :
    Calls Try.prog 10 #[.pointer (some ⟨s, 0, none⟩), .pointer (some ⟨r, 0, none⟩), .slice a l.length c] w fun e w' => e = .returned (.bool true) ∧ Below B w w' := by
  have H0 := hid h
  have HL := hid hl
  clear h hl
  go_enter Try.func10, Try.ntmps10
  go_wp2
  go_loopw [7] (fun iv wr => ∃ (k : Nat) (L : List Mk), k ≤ l.length ∧ k ≤ 60 ∧ iv = .int .i64 k ∧ Hid (Two B (fun _ => False) wr s r L L) ∧ Hid (Gd L) ∧ Below B w wr) (fun iv _ => l.length - (intOf iv).toNat)
  case atStart => exact ⟨0, [], Nat.zero_le _, by omega, rfl, H0.out, Gd.nil, Below.refl _ _⟩
  case round =>
    obtain ⟨k, L, hk, hk6, rfl, hT, hG, hb⟩ := hrel
    by_cases hlt : k < l.length
    · have hd1 : decide (k < l.length) = true := by simpa using hlt
      by_cases h6 : k < 60
      · have hd2 : decide ((k : Int) < 60) = true := by simp; omega
        obtain ⟨bb, off, rfl, hcs⟩ := (HL.out _ hb).at hlt
        obtain ⟨c0, c1, c2, c3, c4⟩ := hcs k hlt
        have hir := (HL.out _ hb).ok _ (List.getElem_mem hlt)
        obtain ⟨td, htd⟩ : ∃ td, td = l[k] := ⟨_, rfl⟩
        rw [← htd] at c0 c1 c2 c3 c4 hir
        have Htd := hid htd
        clear htd hcs
        obtain ⟨how, m⟩ := td
        obtain ⟨-, hmi⟩ := hir
        have HMk := hid hmi
        dsimp only at c0 c1 c2 c3 c4 hmi
        have hbl := World.block_lt_of_cell? wr _ c0
        obtain ⟨x1, y1⟩ := band_le how 7 (by decide)
        rw [show ((7 : Nat) : Int) = 7 from rfl] at x1 y1
        obtain ⟨hv, hbits⟩ := Int.eq_ofNat_of_zero_le x1
        rw [hbits] at y1
        clear x1 hmi
        obtain ⟨V, hV⟩ : ∃ V, V = wr.alloc (.cells #[.int .i64 m.id, .int .i64 m.fr, .int .i64 m.to, .int .i64 m.pr] 33) := ⟨_, rfl⟩
        have bV : Below wr.heap.size wr V := by subst hV; exact (Below.refl _ _).alloc (Nat.le_refl _) _
        have KV : Bx V wr.heap.size m := by subst hV; exact Bx.new wr m _
        have HKV := hid KV
        have hBr : B ≤ wr.heap.size := Nat.le_trans hB hb.size
        have xV : Below B w V := hb.trans (bV.mono hBr)
        have TV := hid (hT.out.fresh bV)
        have PV : Hid (wr.heap.size ≤ wr.heap.size ∧ wr.heap.size < V.heap.size) := ⟨Nat.le_refl _, World.block_lt_of_cell? V _ KV.1⟩
        have xd : Below V.heap.size V V.drew := (Below.refl _ _).drew
        have yd : Below B w V.drew := xV.drew
        clear KV
        rcases (show hv = 0 ∨ hv = 1 ∨ hv = 2 ∨ hv = 3 ∨ hv = 4 ∨ 5 ≤ hv by omega) with hcase | hcase | hcase | hcase | hcase | hcase
        · have hbv : bits .and .i64 how 7 = 0 := by rw [hbits]; omega
          obtain ⟨xe, hxe⟩ : ∃ xe, addE L m = xe := ⟨_, rfl⟩
          obtain ⟨L2, hL2⟩ : ∃ L2, addL L m = L2 := ⟨_, rfl⟩
          have Hxe := hid hxe
          have HL2 := hid hL2
          have hG2 : Hid (Gd L2) := by rw [← hL2]; exact addL_gd hG.out HMk.out
          clear hxe hL2 hbits hcase
          go_upto_region 8 with fail
          rw [← hV]
          clear hV
          have kk := HKV.out.bel xd
          obtain ⟨q0, q1, q2, q3⟩ := kk
          go_region_held3 (fun w' => (w'.cell? ⟨wr.heap.size, 0, none⟩ = some (.int .i64 m.id) ∧ w'.cell? ⟨wr.heap.size, 1, none⟩ = some (.int .i64 m.fr) ∧ w'.cell? ⟨wr.heap.size, 2, none⟩ = some (.int .i64 m.to) ∧ w'.cell? ⟨wr.heap.size, 3, none⟩ = some (.int .i64 m.pr))) (first | (with_reducible assumption) | exact ⟨by with_reducible assumption, by with_reducible assumption, by with_reducible assumption, by with_reducible assumption⟩)
            (first | (go_at_call 14; refine (two_add m (TV.out.bel xd) hG.out ⟨HMk.out.1, HMk.out.2.2.2⟩ Hxe.out HL2.out).mono ?_; rintro e v1 ⟨rfl, hT1, hb1, hf1⟩; have T1 := hid hT1; have x1 := yd.trans hb1; have K1 := hid (bx_held (HKV.out.bel xd) PV.out hf1); have kk := K1.out; obtain ⟨r0, r1, r2, r3⟩ := kk; clear hT1 hf1)
                   | (go_at_call 22; refine (two_radd m T1.out hG.out Hxe.out HL2.out).mono ?_; rintro e v2 ⟨rfl, hT2, hb2, hf2⟩; have T2 := hid hT2; have x2 := x1.trans hb2; have K2 := hid (bx_held K1.out PV.out hf2); have kk := K2.out; obtain ⟨t0, t1, t2, t3⟩ := kk; clear hT2 hf2))
          clear q0 q1 q2 q3 r0 r1 r2 r3 t0 t1 t2 t3
          have T5 := hid (T2.out).none
          have G5 : Hid (Gd (L2)) := hG2
          go_wp2_with fail
          refine (same_c s r (L2) _ T5.out G5.out).mono ?_
          rintro e w9 ⟨rfl, b9⟩
          have x9 := x2.trans (b9.mono (by have := x2.size; omega))
          go_wp2_with fail
          go_roundw
          case rel => exact ⟨k + 1, L2, by omega, by omega, by go_num, hid (T5.out.bel b9), G5, x9⟩
          case measure => simp [intOf]; omega
        · have hbv : bits .and .i64 how 7 = 1 := by rw [hbits]; omega
          obtain ⟨xe, hxe⟩ : ∃ xe, remE L m.id = xe := ⟨_, rfl⟩
          obtain ⟨L2, hL2⟩ : ∃ L2, remL L m.id = L2 := ⟨_, rfl⟩
          have Hxe := hid hxe
          have HL2 := hid hL2
          have hG2 : Hid (Gd L2) := by rw [← hL2]; exact hG.out.rem _
          clear hxe hL2 hbits hcase
          go_upto_region 10 with fail
          rw [← hV]
          clear hV
          have kk := HKV.out.bel xd
          obtain ⟨q0, q1, q2, q3⟩ := kk
          go_region_held3 (fun w' => (w'.cell? ⟨wr.heap.size, 0, none⟩ = some (.int .i64 m.id) ∧ w'.cell? ⟨wr.heap.size, 1, none⟩ = some (.int .i64 m.fr) ∧ w'.cell? ⟨wr.heap.size, 2, none⟩ = some (.int .i64 m.to) ∧ w'.cell? ⟨wr.heap.size, 3, none⟩ = some (.int .i64 m.pr))) (first | (with_reducible assumption) | exact ⟨by with_reducible assumption, by with_reducible assumption, by with_reducible assumption, by with_reducible assumption⟩)
            (first | (go_at_call 15; refine (two_remove m.id (TV.out.bel xd) hG.out Hxe.out HL2.out).mono ?_; rintro e v1 ⟨rfl, hT1, hb1, hf1⟩; have T1 := hid hT1; have x1 := yd.trans hb1; have K1 := hid (bx_held (HKV.out.bel xd) PV.out hf1); have kk := K1.out; obtain ⟨r0, r1, r2, r3⟩ := kk; clear hT1 hf1)
                   | (go_at_call 25; refine (two_rremove m.id T1.out hG.out Hxe.out HL2.out).mono ?_; rintro e v2 ⟨rfl, hT2, hb2, hf2⟩; have T2 := hid hT2; have x2 := x1.trans hb2; have K2 := hid (bx_held K1.out PV.out hf2); have kk := K2.out; obtain ⟨t0, t1, t2, t3⟩ := kk; clear hT2 hf2))
          clear q0 q1 q2 q3 r0 r1 r2 r3 t0 t1 t2 t3
          have T5 := hid (T2.out).none
          have G5 : Hid (Gd (L2)) := hG2
          go_wp2_with fail
          refine (same_c s r (L2) _ T5.out G5.out).mono ?_
          rintro e w9 ⟨rfl, b9⟩
          have x9 := x2.trans (b9.mono (by have := x2.size; omega))
          go_wp2_with fail
          go_roundw
          case rel => exact ⟨k + 1, L2, by omega, by omega, by go_num, hid (T5.out.bel b9), G5, x9⟩
          case measure => simp [intOf]; omega
        · have hbv : bits .and .i64 how 7 = 2 := by rw [hbits]; omega
          obtain ⟨xe, hxe⟩ : ∃ xe, movE L m.id m.fr m.to = xe := ⟨_, rfl⟩
          obtain ⟨L2, hL2⟩ : ∃ L2, movL L m.id m.fr m.to = L2 := ⟨_, rfl⟩
          have Hxe := hid hxe
          have HL2 := hid hL2
          have hG2 : Hid (Gd L2) := by rw [← hL2]; exact hG.out.mov _ _ _
          clear hxe hL2 hbits hcase
          go_upto_region 12 with fail
          rw [← hV]
          clear hV
          have kk := HKV.out.bel xd
          obtain ⟨q0, q1, q2, q3⟩ := kk
          go_region_held3 (fun w' => (w'.cell? ⟨wr.heap.size, 0, none⟩ = some (.int .i64 m.id) ∧ w'.cell? ⟨wr.heap.size, 1, none⟩ = some (.int .i64 m.fr) ∧ w'.cell? ⟨wr.heap.size, 2, none⟩ = some (.int .i64 m.to) ∧ w'.cell? ⟨wr.heap.size, 3, none⟩ = some (.int .i64 m.pr))) (first | (with_reducible assumption) | exact ⟨by with_reducible assumption, by with_reducible assumption, by with_reducible assumption, by with_reducible assumption⟩)
            (first | (go_at_call 26; refine (two_move m.id m.fr m.to (TV.out.bel xd) hG.out Hxe.out HL2.out).mono ?_; rintro e v1 ⟨rfl, hT1, hb1, hf1⟩; have T1 := hid hT1; have x1 := yd.trans hb1; have K1 := hid (bx_held (HKV.out.bel xd) PV.out hf1); have kk := K1.out; obtain ⟨r0, r1, r2, r3⟩ := kk; clear hT1 hf1)
                   | (go_at_call 27; refine (two_rmove m.id m.fr m.to T1.out hG.out Hxe.out HL2.out).mono ?_; rintro e v2 ⟨rfl, hT2, hb2, hf2⟩; have T2 := hid hT2; have x2 := x1.trans hb2; have K2 := hid (bx_held K1.out PV.out hf2); have kk := K2.out; obtain ⟨t0, t1, t2, t3⟩ := kk; clear hT2 hf2))
          clear q0 q1 q2 q3 r0 r1 r2 r3 t0 t1 t2 t3
          have T5 := hid (T2.out).none
          have G5 : Hid (Gd (L2)) := hG2
          go_wp2_with fail
          refine (same_c s r (L2) _ T5.out G5.out).mono ?_
          rintro e w9 ⟨rfl, b9⟩
          have x9 := x2.trans (b9.mono (by have := x2.size; omega))
          go_wp2_with fail
          go_roundw
          case rel => exact ⟨k + 1, L2, by omega, by omega, by go_num, hid (T5.out.bel b9), G5, x9⟩
          case measure => simp [intOf]; omega
        · have hbv : bits .and .i64 how 7 = 3 := by rw [hbits]; omega
          obtain ⟨gm, hgm⟩ : ∃ gm, getV L m.id = gm := ⟨_, rfl⟩
          obtain ⟨gb, hgb⟩ : ∃ gb, decide (pos L m.id < L.length) = gb := ⟨_, rfl⟩
          obtain ⟨fv, hfv⟩ : ∃ fv, fndV L m.id = fv := ⟨_, rfl⟩
          obtain ⟨dv, hdv⟩ : ∃ dv, depL L m.id = dv := ⟨_, rfl⟩
          have hge : decide ((0 : Int) ≤ fv) = gb := by
            rw [← hfv, ← hgb]
            apply decide_eq_decide.2
            unfold fndV
            split
            · rename_i h; exact ⟨fun _ => h, fun _ => by omega⟩
            · rename_i h; exact ⟨fun h2 => by omega, fun h2 => absurd h2 h⟩
          have Hgm := hid hgm
          have Hgb := hid hgb
          have Hfv := hid hfv
          have Hdv := hid hdv
          clear hbits hcase hgm hgb hfv hdv
          go_upto_region 15 with fail
          rw [← hV]
          clear hV
          obtain ⟨m0, m1, m2, m3⟩ := HKV.out
          go_wp2_with fail
          refine (two_get m.id TV.out hG.out Hgm.out Hgb.out).mono ?_
          rintro e w3 ⟨rfl, b3⟩
          have x3 : Below B w w3 := xV.trans (b3.mono (Nat.le_trans hB xV.size))
          have K3 := hid (HKV.out.bel b3)
          have T3 := hid (TV.out.bel b3)
          clear m0 m1 m2 m3
          go_upto_region 16 with fail
          obtain ⟨V3, hV3⟩ : ∃ V3, V3 = w3.alloc (.cells #[.int .i64 gm.id, .int .i64 gm.fr, .int .i64 gm.to, .int .i64 gm.pr] 33) := ⟨_, rfl⟩
          rw [← hV3]
          have bV3 : Below w3.heap.size w3 V3 := by subst hV3; exact (Below.refl _ _).alloc (Nat.le_refl _) _
          have x4 : Below B w V3 := x3.trans (bV3.mono (Nat.le_trans hB x3.size))
          have T4 := hid (fun w' (hb : Below V3.heap.size V3 w') => (T3.out.bel bV3).bel hb)
          have K4 := hid (fun w' (hb : Below V3.heap.size V3 w') => (K3.out.bel bV3).bel hb)
          have xd3 : Below V3.heap.size V3 V3.drew := (Below.refl _ _).drew
          clear hV3
          have kk := K4.out _ xd3
          obtain ⟨m0, m1, m2, m3⟩ := kk
          go_region_held3 (fun w' => (w'.cell? ⟨wr.heap.size, 0, none⟩ = some (.int .i64 m.id) ∧ w'.cell? ⟨wr.heap.size, 1, none⟩ = some (.int .i64 m.fr) ∧ w'.cell? ⟨wr.heap.size, 2, none⟩ = some (.int .i64 m.to) ∧ w'.cell? ⟨wr.heap.size, 3, none⟩ = some (.int .i64 m.pr))) (first | (with_reducible assumption) | exact ⟨by with_reducible assumption, by with_reducible assumption, by with_reducible assumption, by with_reducible assumption⟩)
            (first | (go_at_call 29; refine (asked_c s r L m.fr m.to _ (T4.out _ xd3) hG.out).mono ?_; rintro e v1 ⟨rfl, bu1⟩; have z1 := bthen xd3 bu1; have kk := K4.out _ z1; obtain ⟨r0, r1, r2, r3⟩ := kk)
                   | (go_at_call 30; refine (two_rfind m.id (T4.out _ z1) hG.out Hfv.out).mono ?_; rintro e v2 ⟨rfl, rfl⟩)
                   | (go_at_call 16; refine (two_depth m.id (T4.out _ z1) hG.out Hdv.out).mono ?_; rintro e v3 ⟨rfl, bu3⟩; have z3 := bthen z1 bu3; have kk := K4.out _ z3; obtain ⟨t0, t1, t2, t3⟩ := kk)
                   | (go_at_call 24; refine (two_rdepth m.id (T4.out _ z3) hG.out Hdv.out).mono ?_; rintro e v4 ⟨rfl, bu4⟩; have z4 := bthen z3 bu4; have kk := K4.out _ z4; obtain ⟨q0, q1, q2, q3⟩ := kk))
          have x5 : Below B w v4 := x4.trans (z4.mono (Nat.le_trans hB x4.size))
          clear m0 m1 m2 m3 r0 r1 r2 r3 t0 t1 t2 t3 q0 q1 q2 q3
          have T5 := hid ((T4.out v4 z4)).none
          have G5 : Hid (Gd (L)) := hG
          go_wp2_with fail
          refine (same_c s r (L) _ T5.out G5.out).mono ?_
          rintro e w9 ⟨rfl, b9⟩
          have x9 := x5.trans (b9.mono (by have := x5.size; omega))
          go_wp2_with fail
          go_roundw
          case rel => exact ⟨k + 1, L, by omega, by omega, by go_num, hid (T5.out.bel b9), G5, x9⟩
          case measure => simp [intOf]; omega
        · have hbv : bits .and .i64 how 7 = 4 := by rw [hbits]; omega
          obtain ⟨gm, hgm⟩ : ∃ gm, getV L m.id = gm := ⟨_, rfl⟩
          obtain ⟨gb, hgb⟩ : ∃ gb, decide (pos L m.id < L.length) = gb := ⟨_, rfl⟩
          obtain ⟨fv, hfv⟩ : ∃ fv, fndV L m.id = fv := ⟨_, rfl⟩
          obtain ⟨dv, hdv⟩ : ∃ dv, depL L m.id = dv := ⟨_, rfl⟩
          have hge : decide ((0 : Int) ≤ fv) = gb := by
            rw [← hfv, ← hgb]
            apply decide_eq_decide.2
            unfold fndV
            split
            · rename_i h; exact ⟨fun _ => h, fun _ => by omega⟩
            · rename_i h; exact ⟨fun h2 => by omega, fun h2 => absurd h2 h⟩
          have Hgm := hid hgm
          have Hgb := hid hgb
          have Hfv := hid hfv
          have Hdv := hid hdv
          clear hbits hcase hgm hgb hfv hdv
          go_upto_region 15 with fail
          rw [← hV]
          clear hV
          obtain ⟨m0, m1, m2, m3⟩ := HKV.out
          go_wp2_with fail
          refine (two_get m.id TV.out hG.out Hgm.out Hgb.out).mono ?_
          rintro e w3 ⟨rfl, b3⟩
          have x3 : Below B w w3 := xV.trans (b3.mono (Nat.le_trans hB xV.size))
          have K3 := hid (HKV.out.bel b3)
          have T3 := hid (TV.out.bel b3)
          clear m0 m1 m2 m3
          go_upto_region 16 with fail
          obtain ⟨V3, hV3⟩ : ∃ V3, V3 = w3.alloc (.cells #[.int .i64 gm.id, .int .i64 gm.fr, .int .i64 gm.to, .int .i64 gm.pr] 33) := ⟨_, rfl⟩
          rw [← hV3]
          have bV3 : Below w3.heap.size w3 V3 := by subst hV3; exact (Below.refl _ _).alloc (Nat.le_refl _) _
          have x4 : Below B w V3 := x3.trans (bV3.mono (Nat.le_trans hB x3.size))
          have T4 := hid (fun w' (hb : Below V3.heap.size V3 w') => (T3.out.bel bV3).bel hb)
          have K4 := hid (fun w' (hb : Below V3.heap.size V3 w') => (K3.out.bel bV3).bel hb)
          have xd3 : Below V3.heap.size V3 V3.drew := (Below.refl _ _).drew
          clear hV3
          have kk := K4.out _ xd3
          obtain ⟨m0, m1, m2, m3⟩ := kk
          go_region_held3 (fun w' => (w'.cell? ⟨wr.heap.size, 0, none⟩ = some (.int .i64 m.id) ∧ w'.cell? ⟨wr.heap.size, 1, none⟩ = some (.int .i64 m.fr) ∧ w'.cell? ⟨wr.heap.size, 2, none⟩ = some (.int .i64 m.to) ∧ w'.cell? ⟨wr.heap.size, 3, none⟩ = some (.int .i64 m.pr))) (first | (with_reducible assumption) | exact ⟨by with_reducible assumption, by with_reducible assumption, by with_reducible assumption, by with_reducible assumption⟩)
            (first | (go_at_call 29; refine (asked_c s r L m.fr m.to _ (T4.out _ xd3) hG.out).mono ?_; rintro e v1 ⟨rfl, bu1⟩; have z1 := bthen xd3 bu1; have kk := K4.out _ z1; obtain ⟨r0, r1, r2, r3⟩ := kk)
                   | (go_at_call 30; refine (two_rfind m.id (T4.out _ z1) hG.out Hfv.out).mono ?_; rintro e v2 ⟨rfl, rfl⟩)
                   | (go_at_call 16; refine (two_depth m.id (T4.out _ z1) hG.out Hdv.out).mono ?_; rintro e v3 ⟨rfl, bu3⟩; have z3 := bthen z1 bu3; have kk := K4.out _ z3; obtain ⟨t0, t1, t2, t3⟩ := kk)
                   | (go_at_call 24; refine (two_rdepth m.id (T4.out _ z3) hG.out Hdv.out).mono ?_; rintro e v4 ⟨rfl, bu4⟩; have z4 := bthen z3 bu4; have kk := K4.out _ z4; obtain ⟨q0, q1, q2, q3⟩ := kk))
          have x5 : Below B w v4 := x4.trans (z4.mono (Nat.le_trans hB x4.size))
          clear m0 m1 m2 m3 r0 r1 r2 r3 t0 t1 t2 t3 q0 q1 q2 q3
          have T5 := hid ((T4.out v4 z4)).none
          have G5 : Hid (Gd (L)) := hG
          go_wp2_with fail
          refine (same_c s r (L) _ T5.out G5.out).mono ?_
          rintro e w9 ⟨rfl, b9⟩
          have x9 := x5.trans (b9.mono (by have := x5.size; omega))
          go_wp2_with fail
          go_roundw
          case rel => exact ⟨k + 1, L, by omega, by omega, by go_num, hid (T5.out.bel b9), G5, x9⟩
          case measure => simp [intOf]; omega
        · have z0 : ((hv : Int) == 0) = false := beq_eq_false_iff_ne.2 (by omega)
          have z1 : ((hv : Int) == 1) = false := beq_eq_false_iff_ne.2 (by omega)
          have z2 : ((hv : Int) == 2) = false := beq_eq_false_iff_ne.2 (by omega)
          have z3 : ((hv : Int) == 3) = false := beq_eq_false_iff_ne.2 (by omega)
          have z4 : ((hv : Int) == 4) = false := beq_eq_false_iff_ne.2 (by omega)
          have z0' : (hv == 0) = false := beq_eq_false_iff_ne.2 (by omega)
          have z1' : (hv == 1) = false := beq_eq_false_iff_ne.2 (by omega)
          have z2' : (hv == 2) = false := beq_eq_false_iff_ne.2 (by omega)
          have z3' : (hv == 3) = false := beq_eq_false_iff_ne.2 (by omega)
          have z4' : (hv == 4) = false := beq_eq_false_iff_ne.2 (by omega)
          clear hcase
          go_upto_region 18 with fail
          rw [← hV]
          clear hV
          have T5 := hid (TV.out).none
          have G5 : Hid (Gd (L)) := hG
          go_wp2_with fail
          refine (same_c s r (L) _ T5.out G5.out).mono ?_
          rintro e w9 ⟨rfl, b9⟩
          have x9 := xV.trans (b9.mono (by have := xV.size; omega))
          go_wp2_with fail
          go_roundw
          case rel => exact ⟨k + 1, L, by omega, by omega, by go_num, hid (T5.out.bel b9), G5, x9⟩
          case measure => simp [intOf]; omega
      · have hd2 : decide ((k : Int) < 60) = false := by simp; omega
        go_wp2_with fail
        go_ret
        exact ⟨rfl, hb⟩
    · have hd1 : decide (k < l.length) = false := by simpa using hlt
      go_wp2_with fail
      go_ret
      exact ⟨rfl, hb⟩
end Go.Proofs.Ytaondjklclpdkaa
