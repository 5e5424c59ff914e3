/- Layer 16: same: the code and the document tell the same, twice. -/
import Derived.Test.YtijhkpbnalnpbaaDoorVw
import Derived.Test.YtijhkpbnalnpbaaDoorRn
import Derived.Deep.RegionHeld3
namespace Go.Proofs.YtijhkpbnalnpbaaDoor
open Go.RowKit

set_option maxHeartbeats 1000000 in
theorem spoilk_c (base : Nat) (a : Option Addr) (c : Nat) (l : List Int) (w : World) (h : Own w base a c l) :
    Calls Tryd.prog 21 #[.slice a l.length c] w fun e w' => e = .returned (.tuple #[]) ∧ Below base w w' ∧ Kpt (Blk a) w w' := by
  have hl := h.2.2
  go_enter Tryd.func21, Tryd.ntmps21
  go_wp2
  go_loopw [2] (fun i wr => ∃ k : Nat, k ≤ l.length ∧ i = .int .i64 k ∧ Own wr base a c (half (fun _ => -9) k l) ∧ Below base w wr ∧ Kpt (Blk a) w wr) (fun i _ => l.length - (intOf i).toNat)
  case atStart => exact ⟨0, Nat.zero_le _, rfl, by rw [half_zero]; exact h, Below.refl _ _, Kpt.refl _ _⟩
  case round =>
    obtain ⟨k, hk, rfl, hk1, hk2, hk3⟩ := hrel
    by_cases hlt : k < l.length
    · have hsh := hk1.shape
      rcases hsh with ⟨_, _, h0⟩ | ⟨g0, rfl, hg1, hg2, hg3⟩
      · have h1 := half_len (fun _ => -9) k l
        rw [h0] at h1; simp at h1; omega
      · obtain ⟨b', o', he, hcell⟩ := hk1.sl.at (i := k) (by rw [half_len]; exact hlt)
        simp only [Option.some.injEq, Addr.mk.injEq, and_true] at he
        obtain ⟨rfl, rfl⟩ := he
        have ck := hcell k (by rw [half_len]; exact hlt)
        rw [half_gt hlt, Nat.zero_add] at ck
        have fk := hk1.free k
        have Hk1 := hid hk1
        have H := hid h
        clear hcell hk1 hg3 h
        go_wp2
        go_roundw
        case rel =>
          refine ⟨k + 1, by omega, by go_num, ?_, hk2.setCell (by simpa using hg1) _, hk3.setCell (p := ⟨g0, k, none⟩) ⟨_, rfl, rfl⟩ _⟩
          rw [← half_set hlt]
          exact Hk1.out.stored k (-9) (by omega)
        case measure => simp [intOf]; omega
    · go_wp2
      go_end0
      exact ⟨rfl, hk2, hk3⟩


/-- what is told: the text, whether it is told, and the next draw -/
def valL (m : En) (l : List Int) (used : Int) : List Int := match okV m l used with | none => [] | some k => tellL m used.toNat k
def valB (m : En) (l : List Int) (used : Int) : Bool := (okV m l used).isSome
def valN (m : En) (l : List Int) (used : Int) : Int := match okV m l used with | none => used | some k => used + takesN k
def Vals (w : World) (L : List Int) (b : Bool) (n : Int) (e : Ending) (w' : World) : Prop :=
  ∃ a c, e = .returned (.tuple #[.slice a L.length c, .bool b, .int .i64 n]) ∧ Own w' w.heap.size a c L ∧ Below w.heap.size w w'
theorem ValE.vals {w w' : World} {m : En} {l : List Int} {used : Int} {e : Ending} (h : ValE w m l used e w') : Vals w (valL m l used) (valB m l used) (valN m l used) e w' := by
  obtain ⟨hb, ⟨h0, rfl⟩ | ⟨k, L, a, c, _, hk, _, _, hL, rfl, ho⟩⟩ := h
  · exact ⟨none, 0, by simp [valL, valB, valN, h0], by simp only [valL, h0]; exact Own.nil _ _, hb⟩
  · have e1 : valL m l used = L := by simp only [valL, hk]; exact hL.out.symm
    exact ⟨a, c, by simp [e1, valB, valN, hk], by rw [e1]; exact ho, hb⟩
def BoxK (w : World) (m : En) (w' : World) : Prop := w'.cell? ⟨w.heap.size, 0, none⟩ = some (.slice m.a0 m.t0.length m.c0) ∧ w'.cell? ⟨w.heap.size, 1, none⟩ = some (.slice m.a1 m.t1.length m.c1) ∧ w'.cell? ⟨w.heap.size, 2, none⟩ = some (.slice m.a2 m.t2.length m.c2) ∧ w'.cell? ⟨w.heap.size, 3, none⟩ = some (.slice m.a3 m.t3.length m.c3) ∧ w'.cell? ⟨w.heap.size, 4, none⟩ = some (.slice m.a4 m.t4.length m.c4) ∧ w'.cell? ⟨w.heap.size, 5, none⟩ = some (.slice m.a5 m.t5.length m.c5) ∧ w'.cell? ⟨w.heap.size, 6, none⟩ = some (.int .i64 m.ix) ∧ w'.cell? ⟨w.heap.size, 7, none⟩ = some (.int .i64 m.k0) ∧ w'.cell? ⟨w.heap.size, 8, none⟩ = some (.int .i64 m.k1) ∧ w'.cell? ⟨w.heap.size, 9, none⟩ = some (.int .i64 m.k2) ∧ w'.cell? ⟨w.heap.size, 10, none⟩ = some (.int .i64 m.k3) ∧ w'.cell? ⟨w.heap.size, 11, none⟩ = some (.int .i64 m.k4) ∧ w'.cell? ⟨w.heap.size, 12, none⟩ = some (.int .i64 m.k5) ∧ w'.cell? ⟨w.heap.size, 13, none⟩ = some (.int .i64 m.k6) ∧ w'.cell? ⟨w.heap.size, 14, none⟩ = some (.slice m.da m.dl.length m.dc)
theorem BoxAt.k {w w' : World} {m : En} (h : BoxAt w' w.heap.size m) : BoxK w m w' := ⟨h.c 0 _ rfl, h.c 1 _ rfl, h.c 2 _ rfl, h.c 3 _ rfl, h.c 4 _ rfl, h.c 5 _ rfl, h.c 6 _ rfl, h.c 7 _ rfl, h.c 8 _ rfl, h.c 9 _ rfl, h.c 10 _ rfl, h.c 11 _ rfl, h.c 12 _ rfl, h.c 13 _ rfl, h.c 14 _ rfl⟩
set_option maxHeartbeats 4000000 in
set_option maxRecDepth 100000 in
theorem same16_c (m : En) (a : Option Addr) (c : Nat) (l : List Int) (used : Int) (w : World) (hm : Hid (EnOk w m)) (hs : Hid (Sl w a l)) (hu : i64 used) (hg : Hid (Gl w)) :
    Calls Tryd.prog 8 #[.agg (enC m), .slice a l.length c, .int .i64 used] w fun e w' => e = .returned (.bool true) ∧ Below w.heap.size w w' := by
  have HX0 := hid (BoxAt.new w m 26)
  have VAL := hid fun w h1 h2 h3 => (value_c m a c l used w h1 h2 hu h3).mono fun e w' h => h.vals
  have RVAL := hid fun w h1 h2 => (rvalue_c m a c l used w h1 h2 hu).mono fun e w' h => h.vals
  have MAY : Hid (∀ w, Hid (EnOk w m) → Hid (Gl w) → Calls Tryd.prog 19 #[.agg #[.slice m.a0 m.t0.length m.c0, .slice m.a1 m.t1.length m.c1, .slice m.a2 m.t2.length m.c2, .slice m.a3 m.t3.length m.c3, .slice m.a4 m.t4.length m.c4, .slice m.a5 m.t5.length m.c5, .int .i64 m.ix, .int .i64 m.k0, .int .i64 m.k1, .int .i64 m.k2, .int .i64 m.k3, .int .i64 m.k4, .int .i64 m.k5, .int .i64 m.k6, .slice m.da m.dl.length m.dc]] w (MayP w (mayE m))) := hid fun w h1 h2 => may_e m w h1 h2
  have RMAY : Hid (∀ w, Hid (EnOk w m) → Calls Tryd.prog 20 #[.agg #[.slice m.a0 m.t0.length m.c0, .slice m.a1 m.t1.length m.c1, .slice m.a2 m.t2.length m.c2, .slice m.a3 m.t3.length m.c3, .slice m.a4 m.t4.length m.c4, .slice m.a5 m.t5.length m.c5, .int .i64 m.ix, .int .i64 m.k0, .int .i64 m.k1, .int .i64 m.k2, .int .i64 m.k3, .int .i64 m.k4, .int .i64 m.k5, .int .i64 m.k6, .slice m.da m.dl.length m.dc]] w (MayP w (mayE m))) := hid fun w h1 => rmay_e m w h1
  simp only [enC] at HX0 VAL RVAL ⊢
  generalize valL m l used = L at VAL RVAL
  generalize valB m l used = B at VAL RVAL
  generalize valN m l used = n at VAL RVAL
  generalize mayE m = M at MAY RMAY
  go_enter Tryd.func8, Tryd.ntmps8
  go_wp2_with fail
  generalize hW0 : w.alloc (.cells #[.slice m.a0 m.t0.length m.c0, .slice m.a1 m.t1.length m.c1, .slice m.a2 m.t2.length m.c2, .slice m.a3 m.t3.length m.c3, .slice m.a4 m.t4.length m.c4, .slice m.a5 m.t5.length m.c5, .int .i64 m.ix, .int .i64 m.k0, .int .i64 m.k1, .int .i64 m.k2, .int .i64 m.k3, .int .i64 m.k4, .int .i64 m.k5, .int .i64 m.k6, .slice m.da m.dl.length m.dc] 26) = W0 at HX0 ⊢
  have hb0 : Below w.heap.size w W0 := by rw [← hW0]; exact bal (Below.refl _ _) _
  have hz0 : w.heap.size < W0.heap.size := by rw [← hW0]; simp
  clear hW0
  have hB0 := hid hb0
  have EK : Hid (∀ w', Below W0.heap.size W0 w' → Hid (EnOk w' m)) := hid fun w' h => hid (hm.out.bel (hB0.out.trans (h.mono (Nat.le_of_lt hz0))))
  have SK : Hid (∀ w', Below W0.heap.size W0 w' → Hid (Sl w' a l)) := hid fun w' h => hid (hs.out.bel (hB0.out.trans (h.mono (Nat.le_of_lt hz0))))
  have GK : Hid (∀ w', Below W0.heap.size W0 w' → Hid (Gl w')) := hid fun w' h => hid (hg.out.bel (hB0.out.trans (h.mono (Nat.le_of_lt hz0))))
  have BK : Hid (∀ w', Below W0.heap.size W0 w' → BoxK w m w') := hid fun w' h => (HX0.out.bel hz0 h).k
  clear hb0 hm hs hg HX0
  obtain ⟨d0, d1, d2, d3, d4, d5, d6, d7, d8, d9, d10, d11, d12, d13, d14⟩ := BK.out W0 (Below.refl _ _)
  go_wp2_with fail
  refine (VAL.out W0 (EK.out _ (Below.refl _ _)) (SK.out _ (Below.refl _ _)) (GK.out _ (Below.refl _ _))).mono ?_
  rintro e w1 ⟨a1, c1, rfl, ho1, hb1⟩
  have O1 := hid ho1
  have B1 := hid hb1
  clear d0 d1 d2 d3 d4 d5 d6 d7 d8 d9 d10 d11 d12 d13 d14 ho1 hb1
  obtain ⟨d0, d1, d2, d3, d4, d5, d6, d7, d8, d9, d10, d11, d12, d13, d14⟩ := BK.out w1 B1.out
  go_wp2_with fail
  refine (RVAL.out w1 (EK.out _ B1.out) (SK.out _ B1.out)).mono ?_
  rintro e w2 ⟨a2, c2, rfl, ho2, hb2⟩
  have O2 := hid ho2
  have B2' := hid hb2
  have B2 : Hid (Below W0.heap.size W0 w2) := hid (B1.out.trans (hb2.mono B1.out.size))
  clear d0 d1 d2 d3 d4 d5 d6 d7 d8 d9 d10 d11 d12 d13 d14 ho2 hb2
  go_upto_region 3 with fail
  go_cut [52] (fun s wc => s = .bool false ∧ Below w2.heap.size w2 wc)
  case first =>
    obtain ⟨d0, d1, d2, d3, d4, d5, d6, d7, d8, d9, d10, d11, d12, d13, d14⟩ := BK.out w2.drew B2.out.drew
    have xd : Below w2.heap.size w2 w2.drew := (Below.refl _ _).drew
    have S1 : Hid (Sl w2 a1 L) := hid ((O1.out.grow B2'.out).sl)
    have XB : Hid (∀ w', Below w2.heap.size w2 w' → Below W0.heap.size W0 w') := hid fun w' h => B2.out.trans (h.mono B2.out.size)
    have he : eqM L L = true := by simp [eqM]
    have hBB : (B != B) = false := by simp
    have hnn : (n != n) = false := by simp
    have hMM : (M != M) = false := by simp
    go_region_held3 (fun w' => w'.cell? ⟨w.heap.size, 0, none⟩ = some (.slice m.a0 m.t0.length m.c0) ∧ w'.cell? ⟨w.heap.size, 1, none⟩ = some (.slice m.a1 m.t1.length m.c1) ∧ w'.cell? ⟨w.heap.size, 2, none⟩ = some (.slice m.a2 m.t2.length m.c2) ∧ w'.cell? ⟨w.heap.size, 3, none⟩ = some (.slice m.a3 m.t3.length m.c3) ∧ w'.cell? ⟨w.heap.size, 4, none⟩ = some (.slice m.a4 m.t4.length m.c4) ∧ w'.cell? ⟨w.heap.size, 5, none⟩ = some (.slice m.a5 m.t5.length m.c5) ∧ w'.cell? ⟨w.heap.size, 6, none⟩ = some (.int .i64 m.ix) ∧ w'.cell? ⟨w.heap.size, 7, none⟩ = some (.int .i64 m.k0) ∧ w'.cell? ⟨w.heap.size, 8, none⟩ = some (.int .i64 m.k1) ∧ w'.cell? ⟨w.heap.size, 9, none⟩ = some (.int .i64 m.k2) ∧ w'.cell? ⟨w.heap.size, 10, none⟩ = some (.int .i64 m.k3) ∧ w'.cell? ⟨w.heap.size, 11, none⟩ = some (.int .i64 m.k4) ∧ w'.cell? ⟨w.heap.size, 12, none⟩ = some (.int .i64 m.k5) ∧ w'.cell? ⟨w.heap.size, 13, none⟩ = some (.int .i64 m.k6) ∧ w'.cell? ⟨w.heap.size, 14, none⟩ = some (.slice m.da m.dl.length m.dc) ∧ Below w2.heap.size w2 w') (first | (with_reducible assumption) | exact ⟨by with_reducible assumption, by with_reducible assumption, by with_reducible assumption, by with_reducible assumption, by with_reducible assumption, by with_reducible assumption, by with_reducible assumption, by with_reducible assumption, by with_reducible assumption, by with_reducible assumption, by with_reducible assumption, by with_reducible assumption, by with_reducible assumption, by with_reducible assumption, by with_reducible assumption, by with_reducible assumption⟩)
      (first | (go_at_call 14; refine (rsame_c a1 a2 c1 c2 L L _ (S1.out.bel (by (repeat' (first | exact Below.refl _ _ | assumption | refine bdrewN ?_ _ | refine Below.drew ?_ | refine Below.setCell ?_ (Nat.le_refl _) _ | refine bal ?_ _ | refine bthen ?_ (by assumption))))) (O2.out.sl.bel (by (repeat' (first | exact Below.refl _ _ | assumption | refine bdrewN ?_ _ | refine Below.drew ?_ | refine Below.setCell ?_ (Nat.le_refl _) _ | refine bal ?_ _ | refine bthen ?_ (by assumption)))))).mono ?_; rintro e w3 ⟨rfl, n3, hn3⟩; rw [he]; have x3 : Below w2.heap.size w2 w3 := (by rw [hn3]; (repeat' (first | exact Below.refl _ _ | assumption | refine bdrewN ?_ _ | refine Below.drew ?_ | refine Below.setCell ?_ (Nat.le_refl _) _ | refine bal ?_ _ | refine bthen ?_ (by assumption)))); clear hn3; have kk := BK.out _ (XB.out _ x3); obtain ⟨e0, e1, e2, e3, e4, e5, e6, e7, e8, e9, e10, e11, e12, e13, e14⟩ := kk)
             | (go_at_call 19; refine (MAY.out _ (EK.out _ (XB.out _ (by (repeat' (first | exact Below.refl _ _ | assumption | refine bdrewN ?_ _ | refine Below.drew ?_ | refine Below.setCell ?_ (Nat.le_refl _) _ | refine bal ?_ _ | refine bthen ?_ (by assumption)))))) (GK.out _ (XB.out _ (by (repeat' (first | exact Below.refl _ _ | assumption | refine bdrewN ?_ _ | refine Below.drew ?_ | refine Below.setCell ?_ (Nat.le_refl _) _ | refine bal ?_ _ | refine bthen ?_ (by assumption))))))).mono ?_; rintro e w4 ⟨rfl, hb4⟩; have x4 : Below w2.heap.size w2 w4 := bthen (by (repeat' (first | exact Below.refl _ _ | assumption | refine bdrewN ?_ _ | refine Below.drew ?_ | refine Below.setCell ?_ (Nat.le_refl _) _ | refine bal ?_ _ | refine bthen ?_ (by assumption)))) hb4; clear hb4; have kk := BK.out _ (XB.out _ x4); obtain ⟨f0, f1, f2, f3, f4, f5, f6, f7, f8, f9, f10, f11, f12, f13, f14⟩ := kk)
             | (go_at_call 20; refine (RMAY.out _ (EK.out _ (XB.out _ (by (repeat' (first | exact Below.refl _ _ | assumption | refine bdrewN ?_ _ | refine Below.drew ?_ | refine Below.setCell ?_ (Nat.le_refl _) _ | refine bal ?_ _ | refine bthen ?_ (by assumption))))))).mono ?_; rintro e w5 ⟨rfl, hb5⟩; have x5 : Below w2.heap.size w2 w5 := bthen (by (repeat' (first | exact Below.refl _ _ | assumption | refine bdrewN ?_ _ | refine Below.drew ?_ | refine Below.setCell ?_ (Nat.le_refl _) _ | refine bal ?_ _ | refine bthen ?_ (by assumption)))) hb5; clear hb5; have kk := BK.out _ (XB.out _ x5); obtain ⟨g0, g1, g2, g3, g4, g5, g6, g7, g8, g9, g10, g11, g12, g13, g14⟩ := kk))
    go_wp2_with fail
    go_meet
    exact ⟨rfl, by (repeat' (first | exact Below.refl _ _ | assumption | refine bdrewN ?_ _ | refine Below.drew ?_ | refine Below.setCell ?_ (Nat.le_refl _) _ | refine bal ?_ _ | refine bthen ?_ (by assumption)))⟩
  case rest =>
    obtain ⟨rfl, hx⟩ := hcut
    rename World => v
    have O1v : Own v W0.heap.size a1 c1 L := O1.out.grow (B2'.out.trans (hx.mono B2'.out.size))
    have BV : Below W0.heap.size W0 v := B2.out.trans (hx.mono B2.out.size)
    have S2 : Sl v a2 L := O2.out.sl.bel hx
    have OFF : Hid (Off a2 (Blk a1)) := hid fun ad h => O1.out.off (Nat.le_of_not_lt fun hlt => O2.out.offlt hlt ⟨ad, h, rfl⟩)
    have O1V := hid O1v
    have BVH := hid BV
    have S2H := hid S2
    clear O1v BV S2 hx
    go_wp2_with fail
    refine (spoilk_c W0.heap.size a1 c1 L v O1V.out).mono ?_
    rintro e v5 ⟨rfl, hb5, hk5⟩
    have BT := hid (BVH.out.trans hb5)
    have S5 := hid (S2H.out.kpt OFF.out hk5)
    clear hb5 hk5
    obtain ⟨d0, d1, d2, d3, d4, d5, d6, d7, d8, d9, d10, d11, d12, d13, d14⟩ := BK.out v5 BT.out
    go_wp2_with fail
    refine (VAL.out v5 (EK.out _ BT.out) (SK.out _ BT.out) (GK.out _ BT.out)).mono ?_
    rintro e v6 ⟨a3, c3, rfl, ho3, hb6⟩
    have O3 := hid ho3
    have S6 := hid (S5.out.bel hb6)
    have B6 := hid (BT.out.trans (hb6.mono BT.out.size))
    clear d0 d1 d2 d3 d4 d5 d6 d7 d8 d9 d10 d11 d12 d13 d14 ho3 hb6
    have he : eqM L L = true := by simp [eqM]
    go_wp2_with fail
    refine (rsame_c a3 a2 c3 c2 L L v6 O3.out.sl S6.out).mono ?_
    rintro e v7 ⟨rfl, n7, hn7⟩
    rw [he]
    go_wp2
    go_ret
    exact ⟨rfl, by first | exact bdrewN (hB0.out.trans (B6.out.mono (Nat.le_of_lt hz0))) _ | (rw [hn7]; exact bdrewN (hB0.out.trans (B6.out.mono (Nat.le_of_lt hz0))) _)⟩
end Go.Proofs.YtijhkpbnalnpbaaDoor
