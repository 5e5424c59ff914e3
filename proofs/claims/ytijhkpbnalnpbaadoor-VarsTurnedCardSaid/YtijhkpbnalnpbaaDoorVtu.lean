/- Layer 16: VarsTurned's walk. -/
import Derived.Test.YtijhkpbnalnpbaaDoorVd
import Derived.Deep.CutBlock
import Derived.Deep.OwnRows
import Derived.Deep.DeepCutAuto
namespace Go.Proofs.YtijhkpbnalnpbaaDoor
open Go.RowKit


set_option maxHeartbeats 16000000 in
set_option maxRecDepth 100000 in
theorem vturned_c (ai : Option Addr) (ci : Nat) (li : List Int) (how n : Int) (a : Option Addr) (c : Nat) (l : List Int) (k : Int) (w : World) (hi : Hid (I.Sl w ai li)) (hs : Hid (Sl w a l)) (hlc : l.length ≤ c) (hn : i64 n) (hg : Hid (Gl w)) :
    Calls Tryd.prog 4 #[.slice ai li.length ci, .int .i64 how, .int .i64 n, .slice a l.length c, .int .i64 k] w fun e w' => e = .returned (.bool true) ∧ Below w.heap.size w w' := by
  obtain ⟨tg, htg, ht15⟩ : ∃ tg : Nat, bits .and .i64 how 15 = (tg : Int) ∧ tg ≤ 15 := by
    have := band_le how 15 (by decide)
    rw [show ((15 : Nat) : Int) = 15 from rfl] at this
    obtain ⟨t, ht⟩ := Int.eq_ofNat_of_zero_le this.1
    exact ⟨t, ht, by omega⟩
  have hbT : Hid (Below w.heap.size w (w.alloc (.cells #[.slice ai li.length ci, .int .i64 0] 29))) := hid (bal (Below.refl _ _) _)
  have TA : TapeAt (w.alloc (.cells #[.slice ai li.length ci, .int .i64 0] 29)) w.heap.size ai li ci 0 := ⟨by simp, by rw [cell_alloc_new]; rfl, by rw [cell_alloc_new]; rfl, by unfold World.frozen?; rw [heap_alloc_new]; rfl, Nat.zero_le _⟩
  have SI : Hid (∀ w', Below w.heap.size (w.alloc (.cells #[.slice ai li.length ci, .int .i64 0] 29)) w' → I.Sl w' ai li) := hid fun w' h => hi.out.bel (hbT.out.trans h)
  have HTA := hid TA
  clear TA
  go_enter Tryd.func4, Tryd.ntmps4
  go_wp2_with fail
  refine (env16_o w.heap.size ai li ci 0 _ HTA.out SI).mono ?_
  rintro e w1 ⟨m, dB, rfl, hE, hb1, _, hDo, hdB, hd9, hpB, hTx⟩
  have N1 := hid hE
  have DO := hid hDo
  have TX := hid hTx
  have B1 : Hid (Below w.heap.size w w1) := hid (hbT.out.trans hb1)
  clear hE hb1 hbT SI HTA hDo hTx
  simp only [enC]
  go_upto_block 0 with fail
  generalize hV : World.alloc w1 _ = W
  have X1 : Hid (BoxV W w1.heap.size (enC m)) := hid (by rw [← hV]; exact BoxV.new w1 _ _)
  have B2 : Hid (Below w1.heap.size w1 W) := hid (by rw [← hV]; exact bal (Below.refl _ _) _)
  have hl1 : w1.heap.size < W.heap.size := by rw [← hV]; simp
  clear hV
  have BW : Hid (Below w.heap.size w W) := hid (B1.out.trans (B2.out.mono B1.out.size))
  have E1 : Hid (EnK w1.heap.size W m) := hid (EnK.of N1.out B2.out (Nat.le_refl _) (Nat.le_of_lt hl1))
  have S1 : Hid (SlK w1.heap.size W a l) := hid (SlK.of hs.out BW.out B1.out.size (Nat.le_of_lt hl1))
  have G1 : Hid (GlK w1.heap.size W) := hid (GlK.of hg.out BW.out B1.out.size (Nat.le_of_lt hl1))
  go_cut [] (fun wc => ∃ mf : En, Hid (BoxV wc w1.heap.size (enC mf)) ∧ Hid (EnOk wc mf) ∧ Hid (Below w.heap.size w wc))
  case first =>
    have HT15 := hid ht15
    rcases (show tg = 0 ∨ tg = 1 ∨ tg = 2 ∨ tg = 3 ∨ tg = 4 ∨ tg = 5 ∨ tg = 6 ∨ tg = 7 ∨ tg = 8 ∨ tg = 9 ∨ tg = 10 ∨ tg = 11 ∨ tg = 12 ∨ tg = 13 ∨ tg = 14 ∨ tg = 15 by omega) with h | h | h | h | h | h | h | h | h | h | h | h | h | h | h | h <;> subst h
    · -- 0
      have qq := X1.out.c 0 _ rfl
      have zz := X1.out.f 0
      go_wp2
      generalize hV : World.setCell W _ _ = W2
      have k2 : KR w1.heap.size W W2 := by rw [← hV]; exact (Kpt.refl _ _).set _
      have X2 : BoxV W2 w1.heap.size (enC ⟨a, l, c, m.a1, m.t1, m.c1, m.a2, m.t2, m.c2, m.a3, m.t3, m.c3, m.a4, m.t4, m.c4, m.a5, m.t5, m.c5, m.ix, m.k0, m.k1, m.k2, m.k3, m.k4, m.k5, m.k6, m.da, m.dl, m.dc⟩) := by rw [← hV]; exact X1.out.set (by simp [enC]) rfl
      clear hV qq zz
      go_meet
      refine ⟨⟨a, l, c, m.a1, m.t1, m.c1, m.a2, m.t2, m.c2, m.a3, m.t3, m.c3, m.a4, m.t4, m.c4, m.a5, m.t5, m.c5, m.ix, m.k0, m.k1, m.k2, m.k3, m.k4, m.k5, m.k6, m.da, m.dl, m.dc⟩, hid X2, hid ?_, hid (BW.out.trans ((k2.belowp (Nat.le_of_lt hl1)).mono B1.out.size))⟩
      have e := E1.out _ k2
      exact ⟨S1.out _ k2, e.s1, e.s2, e.s3, e.s4, e.s5, e.sd, hlc, e.l1, e.l2, e.l3, e.l4, e.l5, e.ld⟩
    · -- 1
      have qq := X1.out.c 1 _ rfl
      have zz := X1.out.f 1
      go_wp2
      generalize hV : World.setCell W _ _ = W2
      have k2 : KR w1.heap.size W W2 := by rw [← hV]; exact (Kpt.refl _ _).set _
      have X2 : BoxV W2 w1.heap.size (enC ⟨m.a0, m.t0, m.c0, a, l, c, m.a2, m.t2, m.c2, m.a3, m.t3, m.c3, m.a4, m.t4, m.c4, m.a5, m.t5, m.c5, m.ix, m.k0, m.k1, m.k2, m.k3, m.k4, m.k5, m.k6, m.da, m.dl, m.dc⟩) := by rw [← hV]; exact X1.out.set (by simp [enC]) rfl
      clear hV qq zz
      go_meet
      refine ⟨⟨m.a0, m.t0, m.c0, a, l, c, m.a2, m.t2, m.c2, m.a3, m.t3, m.c3, m.a4, m.t4, m.c4, m.a5, m.t5, m.c5, m.ix, m.k0, m.k1, m.k2, m.k3, m.k4, m.k5, m.k6, m.da, m.dl, m.dc⟩, hid X2, hid ?_, hid (BW.out.trans ((k2.belowp (Nat.le_of_lt hl1)).mono B1.out.size))⟩
      have e := E1.out _ k2
      exact ⟨e.s0, S1.out _ k2, e.s2, e.s3, e.s4, e.s5, e.sd, e.l0, hlc, e.l2, e.l3, e.l4, e.l5, e.ld⟩
    · -- 2
      have qq := X1.out.c 2 _ rfl
      have zz := X1.out.f 2
      go_wp2
      generalize hV : World.setCell W _ _ = W2
      have k2 : KR w1.heap.size W W2 := by rw [← hV]; exact (Kpt.refl _ _).set _
      have X2 : BoxV W2 w1.heap.size (enC ⟨m.a0, m.t0, m.c0, m.a1, m.t1, m.c1, a, l, c, m.a3, m.t3, m.c3, m.a4, m.t4, m.c4, m.a5, m.t5, m.c5, m.ix, m.k0, m.k1, m.k2, m.k3, m.k4, m.k5, m.k6, m.da, m.dl, m.dc⟩) := by rw [← hV]; exact X1.out.set (by simp [enC]) rfl
      clear hV qq zz
      go_meet
      refine ⟨⟨m.a0, m.t0, m.c0, m.a1, m.t1, m.c1, a, l, c, m.a3, m.t3, m.c3, m.a4, m.t4, m.c4, m.a5, m.t5, m.c5, m.ix, m.k0, m.k1, m.k2, m.k3, m.k4, m.k5, m.k6, m.da, m.dl, m.dc⟩, hid X2, hid ?_, hid (BW.out.trans ((k2.belowp (Nat.le_of_lt hl1)).mono B1.out.size))⟩
      have e := E1.out _ k2
      exact ⟨e.s0, e.s1, S1.out _ k2, e.s3, e.s4, e.s5, e.sd, e.l0, e.l1, hlc, e.l3, e.l4, e.l5, e.ld⟩
    · -- 3
      have qq := X1.out.c 3 _ rfl
      have zz := X1.out.f 3
      go_wp2
      generalize hV : World.setCell W _ _ = W2
      have k2 : KR w1.heap.size W W2 := by rw [← hV]; exact (Kpt.refl _ _).set _
      have X2 : BoxV W2 w1.heap.size (enC ⟨m.a0, m.t0, m.c0, m.a1, m.t1, m.c1, m.a2, m.t2, m.c2, a, l, c, m.a4, m.t4, m.c4, m.a5, m.t5, m.c5, m.ix, m.k0, m.k1, m.k2, m.k3, m.k4, m.k5, m.k6, m.da, m.dl, m.dc⟩) := by rw [← hV]; exact X1.out.set (by simp [enC]) rfl
      clear hV qq zz
      go_meet
      refine ⟨⟨m.a0, m.t0, m.c0, m.a1, m.t1, m.c1, m.a2, m.t2, m.c2, a, l, c, m.a4, m.t4, m.c4, m.a5, m.t5, m.c5, m.ix, m.k0, m.k1, m.k2, m.k3, m.k4, m.k5, m.k6, m.da, m.dl, m.dc⟩, hid X2, hid ?_, hid (BW.out.trans ((k2.belowp (Nat.le_of_lt hl1)).mono B1.out.size))⟩
      have e := E1.out _ k2
      exact ⟨e.s0, e.s1, e.s2, S1.out _ k2, e.s4, e.s5, e.sd, e.l0, e.l1, e.l2, hlc, e.l4, e.l5, e.ld⟩
    · -- 4
      have qq := X1.out.c 4 _ rfl
      have zz := X1.out.f 4
      go_wp2
      generalize hV : World.setCell W _ _ = W2
      have k2 : KR w1.heap.size W W2 := by rw [← hV]; exact (Kpt.refl _ _).set _
      have X2 : BoxV W2 w1.heap.size (enC ⟨m.a0, m.t0, m.c0, m.a1, m.t1, m.c1, m.a2, m.t2, m.c2, m.a3, m.t3, m.c3, a, l, c, m.a5, m.t5, m.c5, m.ix, m.k0, m.k1, m.k2, m.k3, m.k4, m.k5, m.k6, m.da, m.dl, m.dc⟩) := by rw [← hV]; exact X1.out.set (by simp [enC]) rfl
      clear hV qq zz
      go_meet
      refine ⟨⟨m.a0, m.t0, m.c0, m.a1, m.t1, m.c1, m.a2, m.t2, m.c2, m.a3, m.t3, m.c3, a, l, c, m.a5, m.t5, m.c5, m.ix, m.k0, m.k1, m.k2, m.k3, m.k4, m.k5, m.k6, m.da, m.dl, m.dc⟩, hid X2, hid ?_, hid (BW.out.trans ((k2.belowp (Nat.le_of_lt hl1)).mono B1.out.size))⟩
      have e := E1.out _ k2
      exact ⟨e.s0, e.s1, e.s2, e.s3, S1.out _ k2, e.s5, e.sd, e.l0, e.l1, e.l2, e.l3, hlc, e.l5, e.ld⟩
    · -- 5
      have qq := X1.out.c 5 _ rfl
      have zz := X1.out.f 5
      go_wp2
      generalize hV : World.setCell W _ _ = W2
      have k2 : KR w1.heap.size W W2 := by rw [← hV]; exact (Kpt.refl _ _).set _
      have X2 : BoxV W2 w1.heap.size (enC ⟨m.a0, m.t0, m.c0, m.a1, m.t1, m.c1, m.a2, m.t2, m.c2, m.a3, m.t3, m.c3, m.a4, m.t4, m.c4, a, l, c, m.ix, m.k0, m.k1, m.k2, m.k3, m.k4, m.k5, m.k6, m.da, m.dl, m.dc⟩) := by rw [← hV]; exact X1.out.set (by simp [enC]) rfl
      clear hV qq zz
      go_meet
      refine ⟨⟨m.a0, m.t0, m.c0, m.a1, m.t1, m.c1, m.a2, m.t2, m.c2, m.a3, m.t3, m.c3, m.a4, m.t4, m.c4, a, l, c, m.ix, m.k0, m.k1, m.k2, m.k3, m.k4, m.k5, m.k6, m.da, m.dl, m.dc⟩, hid X2, hid ?_, hid (BW.out.trans ((k2.belowp (Nat.le_of_lt hl1)).mono B1.out.size))⟩
      have e := E1.out _ k2
      exact ⟨e.s0, e.s1, e.s2, e.s3, e.s4, S1.out _ k2, e.sd, e.l0, e.l1, e.l2, e.l3, e.l4, hlc, e.ld⟩
    · -- 6
      have qq := X1.out.c 6 _ rfl
      have zz := X1.out.f 6
      go_wp2
      generalize hV : World.setCell W _ _ = W2
      have k2 : KR w1.heap.size W W2 := by rw [← hV]; exact (Kpt.refl _ _).set _
      have X2 : BoxV W2 w1.heap.size (enC ⟨m.a0, m.t0, m.c0, m.a1, m.t1, m.c1, m.a2, m.t2, m.c2, m.a3, m.t3, m.c3, m.a4, m.t4, m.c4, m.a5, m.t5, m.c5, n, m.k0, m.k1, m.k2, m.k3, m.k4, m.k5, m.k6, m.da, m.dl, m.dc⟩) := by rw [← hV]; exact X1.out.set (by simp [enC]) rfl
      clear hV qq zz
      go_meet
      refine ⟨⟨m.a0, m.t0, m.c0, m.a1, m.t1, m.c1, m.a2, m.t2, m.c2, m.a3, m.t3, m.c3, m.a4, m.t4, m.c4, m.a5, m.t5, m.c5, n, m.k0, m.k1, m.k2, m.k3, m.k4, m.k5, m.k6, m.da, m.dl, m.dc⟩, hid X2, hid ?_, hid (BW.out.trans ((k2.belowp (Nat.le_of_lt hl1)).mono B1.out.size))⟩
      have e := E1.out _ k2
      exact ⟨e.s0, e.s1, e.s2, e.s3, e.s4, e.s5, e.sd, e.l0, e.l1, e.l2, e.l3, e.l4, e.l5, e.ld⟩
    · -- 7
      have HNB : Hid (¬ Blk m.da w1.heap.size) := hid (DO.out.off (Nat.le_refl _))
      have OW : Hid (I.Own W dB m.da m.dc m.dl) := hid (DO.out.grow B2.out)
      have qq := X1.out.c 14 _ rfl
      have XA : ∀ o, BoxV (W.alloc o) w1.heap.size (enC m) := fun o => X1.out.bel (bal (Below.refl _ _) _)
      have HXA := hid XA
      have hdW : dB ≤ W.heap.size := by omega
      clear XA
      go_wp2_with (first | (at_builtin; (refine I.wpL_appn rfl (.tmp 56) (.tmp 58) rfl dB m.da (some ⟨W.heap.size, 0, none⟩) m.dl.length 1 m.dc 1 m.dl [n] rfl (by first | rfl | simp | omega) (OW.out.grow (by (repeat' (first | exact Below.refl _ _ | assumption | refine bdrewN ?_ _ | refine Below.drew ?_ | refine bal ?_ _ | refine bthen ?_ (by assumption))))) rfl (by first | rfl | simp | omega) (I.Sl.lit' W [n] 3 _ rfl (by simp) (I.rng_one hn) _ rfl) (by simp; omega) (by simp; omega) ?_); intro a5 c5 w5 L5 Hl5 ho5 hb5 hk5 hA5; have HA5 := hid hA5; clear hA5; have Ho5 := hid ho5; clear ho5; have Hk5 := hid hk5; clear hk5; have hz5 := hb5.size); have XB := (HXA.out _).kpt (F := Blk m.da) HNB.out Hk5.out; have HXB := hid XB; have q5 := XB.c 14 _ rfl; have z5 := XB.f 14; clear XB)
      generalize hV : World.setCell w5 _ _ = W2
      have k2 : KR w1.heap.size w5 W2 := by rw [← hV]; exact (Kpt.refl _ _).set _
      have X2 : BoxV W2 w1.heap.size (enC ⟨m.a0, m.t0, m.c0, m.a1, m.t1, m.c1, m.a2, m.t2, m.c2, m.a3, m.t3, m.c3, m.a4, m.t4, m.c4, m.a5, m.t5, m.c5, m.ix, m.k0, m.k1, m.k2, m.k3, m.k4, m.k5, m.k6, a5, L5, c5⟩) := by rw [← hV]; exact HXB.out.set (by simp [enC]) rfl
      have hcap : L5.length ≤ c5 := Ho5.out.cap
      have hb1l : w1.heap.size < w5.heap.size := HXB.out.lt
      have hkp : Kpt (fun k => dB ≤ k) w1 W2 := (Kpt.fb ((((B2.out.mono hdB).trans ((bal (Below.refl W.heap.size W) _).mono hdW)).trans hb5))).tr (k2.mono fun j hj => by omega)
      have BZ : Below w.heap.size w W2 := (BW.out.trans (((bal (Below.refl W.heap.size W) (.cells #[.int .i64 n] 3)).mono BW.out.size).trans (hb5.mono hpB))).trans ((k2.belowp (Nat.le_of_lt hb1l)).mono B1.out.size)
      have ISL : I.Sl W2 a5 L5 := Ho5.out.sl.kpt (fun ad h1 h2 => by
        rcases HA5.out ad h1 with h | h
        · exact HNB.out (h2 ▸ h)
        · simp at h; omega) k2
      clear hV qq q5 z5
      go_meet
      refine ⟨⟨m.a0, m.t0, m.c0, m.a1, m.t1, m.c1, m.a2, m.t2, m.c2, m.a3, m.t3, m.c3, m.a4, m.t4, m.c4, m.a5, m.t5, m.c5, m.ix, m.k0, m.k1, m.k2, m.k3, m.k4, m.k5, m.k6, a5, L5, c5⟩, hid X2, hid ?_, hid BZ⟩
      have e := TX.out W2 hkp
      exact ⟨e.1, e.2.1, e.2.2.1, e.2.2.2.1, e.2.2.2.2.1, e.2.2.2.2.2, ISL, N1.out.l0, N1.out.l1, N1.out.l2, N1.out.l3, N1.out.l4, N1.out.l5, hcap⟩
    · -- 8
      obtain ⟨d, hd, hx⟩ := index16_v n 43 (by omega) (by omega)
      have HX : Hid (∀ w, Calls Tryd.prog 11 #[.int .i64 n, .int .i64 43] w fun e w' => e = .returned (.int .i64 d) ∧ w = w') := hid (by simpa using hx)
      clear hx
      have hmk := fun w' => run_make_row' (P := Tryd.prog) 24 3 (.int .i64 0) 8 Tryd.underlying24 (by kernel_rfl) rfl .i64 .i64 d (by omega) (by omega) w'
      have XA : ∀ o, BoxV (W.alloc o) w1.heap.size (enC m) := fun o => X1.out.bel (bal (Below.refl _ _) _)
      have HXA := hid XA
      have qq : ∀ o, (W.alloc o).cell? ⟨w1.heap.size, 14, none⟩ = some (.slice m.da m.dl.length m.dc) := fun o => (XA o).c 14 _ rfl
      have zz : ∀ o, (W.alloc o).frozen? ⟨w1.heap.size, 14, none⟩ = false := fun o => (XA o).f 14
      clear XA
      go_wp2_with (first | (go_at_call 11; refine (HX.out _).mono ?_; rintro e v ⟨rfl, rfl⟩))
      generalize hV : World.alloc (World.setCell W _ _) _ = W2
      have k2 : KR w1.heap.size W W2 := by rw [← hV]; exact ((Kpt.refl _ _).set _).alloc _
      have X2 : BoxV W2 w1.heap.size (enC ⟨m.a0, m.t0, m.c0, m.a1, m.t1, m.c1, m.a2, m.t2, m.c2, m.a3, m.t3, m.c3, m.a4, m.t4, m.c4, m.a5, m.t5, m.c5, m.ix, m.k0, m.k1, m.k2, m.k3, m.k4, m.k5, m.k6, some ⟨W.heap.size, 0, none⟩, List.replicate d 0, d⟩) := by rw [← hV]; exact (X1.out.set (by simp [enC]) (by simp [enC])).bel (bal (Below.refl _ _) _)
      have ISL : I.Sl W2 (some ⟨W.heap.size, 0, none⟩) (List.replicate d 0) := by
        rw [← hV]
        have h := isl_made (W.setCell ⟨w1.heap.size, 14, none⟩ (.slice (some ⟨W.heap.size, 0, none⟩) d d)) d 3 (by omega)
        simpa using h
      clear hV qq zz hmk
      go_meet
      refine ⟨⟨m.a0, m.t0, m.c0, m.a1, m.t1, m.c1, m.a2, m.t2, m.c2, m.a3, m.t3, m.c3, m.a4, m.t4, m.c4, m.a5, m.t5, m.c5, m.ix, m.k0, m.k1, m.k2, m.k3, m.k4, m.k5, m.k6, some ⟨W.heap.size, 0, none⟩, List.replicate d 0, d⟩, hid X2, hid ?_, hid (BW.out.trans ((k2.belowp (Nat.le_of_lt hl1)).mono B1.out.size))⟩
      have e := E1.out _ k2
      exact ⟨e.s0, e.s1, e.s2, e.s3, e.s4, e.s5, ISL, e.l0, e.l1, e.l2, e.l3, e.l4, e.l5, by simp⟩
    · -- 9
      have qq := X1.out.c 9 _ rfl
      have zz := X1.out.f 9
      go_wp2
      generalize hV : World.setCell W _ _ = W2
      have k2 : KR w1.heap.size W W2 := by rw [← hV]; exact (Kpt.refl _ _).set _
      have X2 : BoxV W2 w1.heap.size (enC ⟨m.a0, m.t0, m.c0, m.a1, m.t1, m.c1, m.a2, m.t2, m.c2, m.a3, m.t3, m.c3, m.a4, m.t4, m.c4, m.a5, m.t5, m.c5, m.ix, m.k0, m.k1, n, m.k3, m.k4, m.k5, m.k6, m.da, m.dl, m.dc⟩) := by rw [← hV]; exact X1.out.set (by simp [enC]) rfl
      clear hV qq zz
      go_meet
      refine ⟨⟨m.a0, m.t0, m.c0, m.a1, m.t1, m.c1, m.a2, m.t2, m.c2, m.a3, m.t3, m.c3, m.a4, m.t4, m.c4, m.a5, m.t5, m.c5, m.ix, m.k0, m.k1, n, m.k3, m.k4, m.k5, m.k6, m.da, m.dl, m.dc⟩, hid X2, hid ?_, hid (BW.out.trans ((k2.belowp (Nat.le_of_lt hl1)).mono B1.out.size))⟩
      have e := E1.out _ k2
      exact ⟨e.s0, e.s1, e.s2, e.s3, e.s4, e.s5, e.sd, e.l0, e.l1, e.l2, e.l3, e.l4, e.l5, e.ld⟩
    · -- 10
      have qq := X1.out.c 10 _ rfl
      have zz := X1.out.f 10
      go_wp2
      generalize hV : World.setCell W _ _ = W2
      have k2 : KR w1.heap.size W W2 := by rw [← hV]; exact (Kpt.refl _ _).set _
      have X2 : BoxV W2 w1.heap.size (enC ⟨m.a0, m.t0, m.c0, m.a1, m.t1, m.c1, m.a2, m.t2, m.c2, m.a3, m.t3, m.c3, m.a4, m.t4, m.c4, m.a5, m.t5, m.c5, m.ix, m.k0, m.k1, m.k2, n, m.k4, m.k5, m.k6, m.da, m.dl, m.dc⟩) := by rw [← hV]; exact X1.out.set (by simp [enC]) rfl
      clear hV qq zz
      go_meet
      refine ⟨⟨m.a0, m.t0, m.c0, m.a1, m.t1, m.c1, m.a2, m.t2, m.c2, m.a3, m.t3, m.c3, m.a4, m.t4, m.c4, m.a5, m.t5, m.c5, m.ix, m.k0, m.k1, m.k2, n, m.k4, m.k5, m.k6, m.da, m.dl, m.dc⟩, hid X2, hid ?_, hid (BW.out.trans ((k2.belowp (Nat.le_of_lt hl1)).mono B1.out.size))⟩
      have e := E1.out _ k2
      exact ⟨e.s0, e.s1, e.s2, e.s3, e.s4, e.s5, e.sd, e.l0, e.l1, e.l2, e.l3, e.l4, e.l5, e.ld⟩
    · -- 11
      have qq := X1.out.c 11 _ rfl
      have zz := X1.out.f 11
      go_wp2
      generalize hV : World.setCell W _ _ = W2
      have k2 : KR w1.heap.size W W2 := by rw [← hV]; exact (Kpt.refl _ _).set _
      have X2 : BoxV W2 w1.heap.size (enC ⟨m.a0, m.t0, m.c0, m.a1, m.t1, m.c1, m.a2, m.t2, m.c2, m.a3, m.t3, m.c3, m.a4, m.t4, m.c4, m.a5, m.t5, m.c5, m.ix, m.k0, m.k1, m.k2, m.k3, n, m.k5, m.k6, m.da, m.dl, m.dc⟩) := by rw [← hV]; exact X1.out.set (by simp [enC]) rfl
      clear hV qq zz
      go_meet
      refine ⟨⟨m.a0, m.t0, m.c0, m.a1, m.t1, m.c1, m.a2, m.t2, m.c2, m.a3, m.t3, m.c3, m.a4, m.t4, m.c4, m.a5, m.t5, m.c5, m.ix, m.k0, m.k1, m.k2, m.k3, n, m.k5, m.k6, m.da, m.dl, m.dc⟩, hid X2, hid ?_, hid (BW.out.trans ((k2.belowp (Nat.le_of_lt hl1)).mono B1.out.size))⟩
      have e := E1.out _ k2
      exact ⟨e.s0, e.s1, e.s2, e.s3, e.s4, e.s5, e.sd, e.l0, e.l1, e.l2, e.l3, e.l4, e.l5, e.ld⟩
    · -- 12
      have qq := X1.out.c 12 _ rfl
      have zz := X1.out.f 12
      go_wp2
      generalize hV : World.setCell W _ _ = W2
      have k2 : KR w1.heap.size W W2 := by rw [← hV]; exact (Kpt.refl _ _).set _
      have X2 : BoxV W2 w1.heap.size (enC ⟨m.a0, m.t0, m.c0, m.a1, m.t1, m.c1, m.a2, m.t2, m.c2, m.a3, m.t3, m.c3, m.a4, m.t4, m.c4, m.a5, m.t5, m.c5, m.ix, m.k0, m.k1, m.k2, m.k3, m.k4, n, m.k6, m.da, m.dl, m.dc⟩) := by rw [← hV]; exact X1.out.set (by simp [enC]) rfl
      clear hV qq zz
      go_meet
      refine ⟨⟨m.a0, m.t0, m.c0, m.a1, m.t1, m.c1, m.a2, m.t2, m.c2, m.a3, m.t3, m.c3, m.a4, m.t4, m.c4, m.a5, m.t5, m.c5, m.ix, m.k0, m.k1, m.k2, m.k3, m.k4, n, m.k6, m.da, m.dl, m.dc⟩, hid X2, hid ?_, hid (BW.out.trans ((k2.belowp (Nat.le_of_lt hl1)).mono B1.out.size))⟩
      have e := E1.out _ k2
      exact ⟨e.s0, e.s1, e.s2, e.s3, e.s4, e.s5, e.sd, e.l0, e.l1, e.l2, e.l3, e.l4, e.l5, e.ld⟩
    · -- 13
      have qq := X1.out.c 13 _ rfl
      have zz := X1.out.f 13
      go_wp2
      generalize hV : World.setCell W _ _ = W2
      have k2 : KR w1.heap.size W W2 := by rw [← hV]; exact (Kpt.refl _ _).set _
      have X2 : BoxV W2 w1.heap.size (enC ⟨m.a0, m.t0, m.c0, m.a1, m.t1, m.c1, m.a2, m.t2, m.c2, m.a3, m.t3, m.c3, m.a4, m.t4, m.c4, m.a5, m.t5, m.c5, m.ix, m.k0, m.k1, m.k2, m.k3, m.k4, m.k5, n, m.da, m.dl, m.dc⟩) := by rw [← hV]; exact X1.out.set (by simp [enC]) rfl
      clear hV qq zz
      go_meet
      refine ⟨⟨m.a0, m.t0, m.c0, m.a1, m.t1, m.c1, m.a2, m.t2, m.c2, m.a3, m.t3, m.c3, m.a4, m.t4, m.c4, m.a5, m.t5, m.c5, m.ix, m.k0, m.k1, m.k2, m.k3, m.k4, m.k5, n, m.da, m.dl, m.dc⟩, hid X2, hid ?_, hid (BW.out.trans ((k2.belowp (Nat.le_of_lt hl1)).mono B1.out.size))⟩
      have e := E1.out _ k2
      exact ⟨e.s0, e.s1, e.s2, e.s3, e.s4, e.s5, e.sd, e.l0, e.l1, e.l2, e.l3, e.l4, e.l5, e.ld⟩
    · -- 14
      have qq := X1.out.c 7 _ rfl
      have zz := X1.out.f 7
      go_wp2
      generalize hV : World.setCell W _ _ = W2
      have k2 : KR w1.heap.size W W2 := by rw [← hV]; exact (Kpt.refl _ _).set _
      have X2 : BoxV W2 w1.heap.size (enC ⟨m.a0, m.t0, m.c0, m.a1, m.t1, m.c1, m.a2, m.t2, m.c2, m.a3, m.t3, m.c3, m.a4, m.t4, m.c4, m.a5, m.t5, m.c5, m.ix, n, m.k1, m.k2, m.k3, m.k4, m.k5, m.k6, m.da, m.dl, m.dc⟩) := by rw [← hV]; exact X1.out.set (by simp [enC]) rfl
      clear hV qq zz
      go_meet
      refine ⟨⟨m.a0, m.t0, m.c0, m.a1, m.t1, m.c1, m.a2, m.t2, m.c2, m.a3, m.t3, m.c3, m.a4, m.t4, m.c4, m.a5, m.t5, m.c5, m.ix, n, m.k1, m.k2, m.k3, m.k4, m.k5, m.k6, m.da, m.dl, m.dc⟩, hid X2, hid ?_, hid (BW.out.trans ((k2.belowp (Nat.le_of_lt hl1)).mono B1.out.size))⟩
      have e := E1.out _ k2
      exact ⟨e.s0, e.s1, e.s2, e.s3, e.s4, e.s5, e.sd, e.l0, e.l1, e.l2, e.l3, e.l4, e.l5, e.ld⟩
    · -- 15
      have qq := X1.out.c 8 _ rfl
      have zz := X1.out.f 8
      go_wp2
      generalize hV : World.setCell W _ _ = W2
      have k2 : KR w1.heap.size W W2 := by rw [← hV]; exact (Kpt.refl _ _).set _
      have X2 : BoxV W2 w1.heap.size (enC ⟨m.a0, m.t0, m.c0, m.a1, m.t1, m.c1, m.a2, m.t2, m.c2, m.a3, m.t3, m.c3, m.a4, m.t4, m.c4, m.a5, m.t5, m.c5, m.ix, m.k0, n, m.k2, m.k3, m.k4, m.k5, m.k6, m.da, m.dl, m.dc⟩) := by rw [← hV]; exact X1.out.set (by simp [enC]) rfl
      clear hV qq zz
      go_meet
      refine ⟨⟨m.a0, m.t0, m.c0, m.a1, m.t1, m.c1, m.a2, m.t2, m.c2, m.a3, m.t3, m.c3, m.a4, m.t4, m.c4, m.a5, m.t5, m.c5, m.ix, m.k0, n, m.k2, m.k3, m.k4, m.k5, m.k6, m.da, m.dl, m.dc⟩, hid X2, hid ?_, hid (BW.out.trans ((k2.belowp (Nat.le_of_lt hl1)).mono B1.out.size))⟩
      have e := E1.out _ k2
      exact ⟨e.s0, e.s1, e.s2, e.s3, e.s4, e.s5, e.sd, e.l0, e.l1, e.l2, e.l3, e.l4, e.l5, e.ld⟩
  case rest =>
    rename World => V
    obtain ⟨mf, X2, E2, B3⟩ := hcut
    clear X1 E1 S1 G1 DO TX N1 B1 B2 BW
    obtain ⟨x0, x1, x2, x3, x4, x5, x6, x7, x8, x9, x10, x11, x12, x13, x14, hA⟩ : ∃ x0 x1 x2 x3 x4 x5 x6 x7 x8 x9 x10 x11 x12 x13 x14 : Value, Hid (enC mf = #[x0, x1, x2, x3, x4, x5, x6, x7, x8, x9, x10, x11, x12, x13, x14]) := ⟨_, _, _, _, _, _, _, _, _, _, _, _, _, _, _, rfl⟩
    have BK : Hid (∀ w', Below V.heap.size V w' → w'.cell? ⟨w1.heap.size, 0, none⟩ = some x0 ∧ w'.cell? ⟨w1.heap.size, 1, none⟩ = some x1 ∧ w'.cell? ⟨w1.heap.size, 2, none⟩ = some x2 ∧ w'.cell? ⟨w1.heap.size, 3, none⟩ = some x3 ∧ w'.cell? ⟨w1.heap.size, 4, none⟩ = some x4 ∧ w'.cell? ⟨w1.heap.size, 5, none⟩ = some x5 ∧ w'.cell? ⟨w1.heap.size, 6, none⟩ = some x6 ∧ w'.cell? ⟨w1.heap.size, 7, none⟩ = some x7 ∧ w'.cell? ⟨w1.heap.size, 8, none⟩ = some x8 ∧ w'.cell? ⟨w1.heap.size, 9, none⟩ = some x9 ∧ w'.cell? ⟨w1.heap.size, 10, none⟩ = some x10 ∧ w'.cell? ⟨w1.heap.size, 11, none⟩ = some x11 ∧ w'.cell? ⟨w1.heap.size, 12, none⟩ = some x12 ∧ w'.cell? ⟨w1.heap.size, 13, none⟩ = some x13 ∧ w'.cell? ⟨w1.heap.size, 14, none⟩ = some x14) := hid fun w' h => by
      have g := X2.out
      rw [hA.out] at g
      have g0 := (g.bel h).c
      exact ⟨g0 0 _ rfl, g0 1 _ rfl, g0 2 _ rfl, g0 3 _ rfl, g0 4 _ rfl, g0 5 _ rfl, g0 6 _ rfl, g0 7 _ rfl, g0 8 _ rfl, g0 9 _ rfl, g0 10 _ rfl, g0 11 _ rfl, g0 12 _ rfl, g0 13 _ rfl, g0 14 _ rfl⟩
    have h7 : i64 (bits .and .i64 k 7) := by
      have := band_le k 7 (by decide)
      rw [show ((7 : Nat) : Int) = 7 from rfl] at this
      unfold i64; omega
    have GV : Hid (Gl V) := hid (hg.out.bel B3.out)
    have SM : Hid (∀ w' a' c' l' u, i64 u → Below V.heap.size V w' → Hid (Sl w' a' l') → Calls Tryd.prog 8 #[.agg #[x0, x1, x2, x3, x4, x5, x6, x7, x8, x9, x10, x11, x12, x13, x14], .slice a' l'.length c', .int .i64 u] w' fun e w'' => e = .returned (.bool true) ∧ Below w'.heap.size w' w'') := hid fun w' a' c' l' u h1 h2 h3 => by
      rw [← hA.out]
      exact same16_c mf a' c' l' u w' (hid (E2.out.bel h2)) h3 h1 (hid (GV.out.bel h2))
    clear X2 E2
    go_wp2_with fail
    go_loopw [12] (fun iv wr => ∃ j : Nat, j ≤ 28 ∧ iv = .int .i64 j ∧ Below V.heap.size V wr) (fun iv _ => 28 - (intOf iv).toNat)
    case atStart => exact ⟨0, by omega, rfl, Below.refl _ _⟩
    case round =>
      rename World => U
      obtain ⟨j, hj, rfl, hbU⟩ := hrel
      have HBU := hid hbU
      by_cases hlt : j < 28
      · have b0 : decide (j < 28) = true := by simpa using hlt
        go_upto_region 25 with fail
        obtain ⟨d0, d1, d2, d3, d4, d5, d6, d7, d8, d9, d10, d11, d12, d13, d14⟩ := BK.out U.drew hbU.drew
        have xd : Below V.heap.size V U.drew := hbU.drew
        clear hbU
        go_region_held3 (fun w' => w'.cell? ⟨w1.heap.size, 0, none⟩ = some x0 ∧ w'.cell? ⟨w1.heap.size, 1, none⟩ = some x1 ∧ w'.cell? ⟨w1.heap.size, 2, none⟩ = some x2 ∧ w'.cell? ⟨w1.heap.size, 3, none⟩ = some x3 ∧ w'.cell? ⟨w1.heap.size, 4, none⟩ = some x4 ∧ w'.cell? ⟨w1.heap.size, 5, none⟩ = some x5 ∧ w'.cell? ⟨w1.heap.size, 6, none⟩ = some x6 ∧ w'.cell? ⟨w1.heap.size, 7, none⟩ = some x7 ∧ w'.cell? ⟨w1.heap.size, 8, none⟩ = some x8 ∧ w'.cell? ⟨w1.heap.size, 9, none⟩ = some x9 ∧ w'.cell? ⟨w1.heap.size, 10, none⟩ = some x10 ∧ w'.cell? ⟨w1.heap.size, 11, none⟩ = some x11 ∧ w'.cell? ⟨w1.heap.size, 12, none⟩ = some x12 ∧ w'.cell? ⟨w1.heap.size, 13, none⟩ = some x13 ∧ w'.cell? ⟨w1.heap.size, 14, none⟩ = some x14 ∧ Below V.heap.size V w') (first | (with_reducible assumption) | exact ⟨by with_reducible assumption, by with_reducible assumption, by with_reducible assumption, by with_reducible assumption, by with_reducible assumption, by with_reducible assumption, by with_reducible assumption, by with_reducible assumption, by with_reducible assumption, by with_reducible assumption, by with_reducible assumption, by with_reducible assumption, by with_reducible assumption, by with_reducible assumption, by with_reducible assumption, by with_reducible assumption⟩)
          (first | (go_at_call 9; refine (name16_c _ _).mono ?_; rintro e v ⟨na, nc, nL, rfl, ho, hb1⟩; have y : Below V.heap.size V v := bthen (by (repeat' (first | exact Below.refl _ _ | assumption | refine bdrewN ?_ _ | refine Below.drew ?_ | refine Below.setCell ?_ (Nat.le_refl _) _ | refine bal ?_ _ | refine bthen ?_ (by assumption)))) hb1; have NS := hid ho.sl; clear ho hb1; clear d0 d1 d2 d3 d4 d5 d6 d7 d8 d9 d10 d11 d12 d13 d14; have kk := BK.out _ y; obtain ⟨d0, d1, d2, d3, d4, d5, d6, d7, d8, d9, d10, d11, d12, d13, d14⟩ := kk)
                 | (go_at_call 8; refine (SM.out _ na nc nL _ h7 ?_ ?_).mono ?_; (focus (repeat' (first | exact Below.refl _ _ | assumption | refine bdrewN ?_ _ | refine Below.drew ?_ | refine Below.setCell ?_ (Nat.le_refl _) _ | refine bal ?_ _ | refine bthen ?_ (by assumption)))); (focus (exact NS)); rintro e v ⟨rfl, hb1⟩; have y : Below V.heap.size V v := bthen (by (repeat' (first | exact Below.refl _ _ | assumption | refine bdrewN ?_ _ | refine Below.drew ?_ | refine Below.setCell ?_ (Nat.le_refl _) _ | refine bal ?_ _ | refine bthen ?_ (by assumption)))) hb1; clear hb1; clear d0 d1 d2 d3 d4 d5 d6 d7 d8 d9 d10 d11 d12 d13 d14; have kk := BK.out _ y; obtain ⟨d0, d1, d2, d3, d4, d5, d6, d7, d8, d9, d10, d11, d12, d13, d14⟩ := kk))
        have Y := hid y
        clear d0 d1 d2 d3 d4 d5 d6 d7 d8 d9 d10 d11 d12 d13 d14 y xd
        go_wp2
        go_roundw
        case rel => exact ⟨j + 1, by omega, by go_num, Y.out⟩
        case measure => simp [intOf]; omega
      · have b0 : decide (j < 28) = false := by simpa using hlt
        clear hbU
        go_wp2_with (first | (go_at_call 10; refine (known16_c _ (hid (GV.out.bel HBU.out))).mono ?_; rintro e v2 ⟨rfl, hb2⟩))
        go_ret
        exact ⟨rfl, bthen B3.out (bthen HBU.out (by assumption))⟩
end Go.Proofs.YtijhkpbnalnpbaaDoor
