/- Layer 16: VarsTells' walk. -/
import Derived.Test.YtijhkpbnalnpbaaDoorEv
namespace Go.Proofs.YtijhkpbnalnpbaaDoor
open Go.RowKit

set_option maxHeartbeats 16000000 in
set_option maxRecDepth 100000 in
theorem vtells_c (m : En) (a : Option Addr) (c : Nat) (l : List Int) (ai : Option Addr) (ci : Nat) (li : List Int) (k used : Int) (w : World) (hm : Hid (EnOk w m)) (hs : Hid (Sl w a l)) (hi : Hid (I.Sl w ai li)) (hu : i64 used) (hg : Hid (Gl w)) :
    Calls Tryd.prog 3 #[.agg (enC m), .slice a l.length c, .slice ai li.length ci, .int .i64 k, .int .i64 used] w fun e w' => e = .returned (.bool true) ∧ Below w.heap.size w w' := by
  have hz0 : w.heap.size < (w.alloc (.cells (enC m) 26)).heap.size := by simp
  have hb0 : Hid (Below w.heap.size w (w.alloc (.cells (enC m) 26))) := hid (bal (Below.refl _ _) _)
  obtain ⟨x0, x1, x2, x3, x4, x5, x6, x7, x8, x9, x10, x11, x12, x13, x14, hA⟩ : ∃ x0 x1 x2 x3 x4 x5 x6 x7 x8 x9 x10 x11 x12 x13 x14 : Value, Hid (enC m = #[x0, x1, x2, x3, x4, x5, x6, x7, x8, x9, x10, x11, x12, x13, x14]) := ⟨_, _, _, _, _, _, _, _, _, _, _, _, _, _, _, rfl⟩
  have HX0 := hid (BoxAt.new w m 26).c
  rw [hA.out] at HX0 hz0 hb0 ⊢
  go_enter Tryd.func3, Tryd.ntmps3
  go_wp2_with fail
  generalize hW0 : w.alloc (.cells #[x0, x1, x2, x3, x4, x5, x6, x7, x8, x9, x10, x11, x12, x13, x14] 26) = W0 at HX0 hz0 hb0 ⊢
  have hze : W0.heap.size = w.heap.size + 1 := by rw [← hW0]; simp
  rw [← hze]
  clear hze
  clear hW0
  have hbT : Hid (Below W0.heap.size W0 (W0.alloc (.cells #[.slice ai li.length ci, .int .i64 0] 29))) := hid (bal (Below.refl _ _) _)
  have TA : TapeAt (W0.alloc (.cells #[.slice ai li.length ci, .int .i64 0] 29)) W0.heap.size ai li ci 0 := ⟨by simp, by rw [cell_alloc_new]; rfl, by rw [cell_alloc_new]; rfl, by unfold World.frozen?; rw [heap_alloc_new]; rfl, Nat.zero_le _⟩
  have SI : Hid (∀ w', Below W0.heap.size (W0.alloc (.cells #[.slice ai li.length ci, .int .i64 0] 29)) w' → I.Sl w' ai li) := hid fun w' h => by
    have h1 : Below W0.heap.size W0 w' := hbT.out.trans h
    exact hi.out.bel (hb0.out.trans (h1.mono (Nat.le_of_lt hz0)))
  refine (env16_c W0.heap.size ai li ci 0 _ TA SI).mono ?_
  rintro e w1 ⟨n, rfl, hE, hb, _⟩
  have N1 := hid hE
  have B1 : Hid (Below W0.heap.size W0 w1) := hid (hbT.out.trans hb)
  clear hE hb hbT TA SI
  simp only [enC]
  go_upto_region 2 with fail
  generalize hV : World.alloc w1 _ = W
  have X1 : Hid (∀ i v, (enC n)[i]? = some v → W.cell? ⟨w1.heap.size, i, none⟩ = some v) := hid (by rw [← hV]; exact (BoxAt.new w1 n 26).c)
  have hl1 : w1.heap.size < W.heap.size := by rw [← hV]; simp
  have B2 : Hid (Below w1.heap.size w1 W) := hid (by rw [← hV]; exact bal (Below.refl _ _) _)
  clear hV
  obtain ⟨y0, y1, y2, y3, y4, y5, y6, y7, y8, y9, y10, y11, y12, y13, y14, hB⟩ : ∃ y0 y1 y2 y3 y4 y5 y6 y7 y8 y9 y10 y11 y12 y13 y14 : Value, Hid (enC n = #[y0, y1, y2, y3, y4, y5, y6, y7, y8, y9, y10, y11, y12, y13, y14]) := ⟨_, _, _, _, _, _, _, _, _, _, _, _, _, _, _, rfl⟩
  rw [hB.out] at X1
  have BW : Hid (Below W0.heap.size W0 W) := hid (B1.out.trans (B2.out.mono B1.out.size))
  have hl0 : w.heap.size < W.heap.size := Nat.lt_of_lt_of_le hz0 BW.out.size
  have BK : Hid (∀ w', Below W.heap.size W w' → w'.cell? ⟨w.heap.size, 0, none⟩ = some x0 ∧ w'.cell? ⟨w.heap.size, 1, none⟩ = some x1 ∧ w'.cell? ⟨w.heap.size, 2, none⟩ = some x2 ∧ w'.cell? ⟨w.heap.size, 3, none⟩ = some x3 ∧ w'.cell? ⟨w.heap.size, 4, none⟩ = some x4 ∧ w'.cell? ⟨w.heap.size, 5, none⟩ = some x5 ∧ w'.cell? ⟨w.heap.size, 6, none⟩ = some x6 ∧ w'.cell? ⟨w.heap.size, 7, none⟩ = some x7 ∧ w'.cell? ⟨w.heap.size, 8, none⟩ = some x8 ∧ w'.cell? ⟨w.heap.size, 9, none⟩ = some x9 ∧ w'.cell? ⟨w.heap.size, 10, none⟩ = some x10 ∧ w'.cell? ⟨w.heap.size, 11, none⟩ = some x11 ∧ w'.cell? ⟨w.heap.size, 12, none⟩ = some x12 ∧ w'.cell? ⟨w.heap.size, 13, none⟩ = some x13 ∧ w'.cell? ⟨w.heap.size, 14, none⟩ = some x14 ∧ w'.cell? ⟨w1.heap.size, 0, none⟩ = some y0 ∧ w'.cell? ⟨w1.heap.size, 1, none⟩ = some y1 ∧ w'.cell? ⟨w1.heap.size, 2, none⟩ = some y2 ∧ w'.cell? ⟨w1.heap.size, 3, none⟩ = some y3 ∧ w'.cell? ⟨w1.heap.size, 4, none⟩ = some y4 ∧ w'.cell? ⟨w1.heap.size, 5, none⟩ = some y5 ∧ w'.cell? ⟨w1.heap.size, 6, none⟩ = some y6 ∧ w'.cell? ⟨w1.heap.size, 7, none⟩ = some y7 ∧ w'.cell? ⟨w1.heap.size, 8, none⟩ = some y8 ∧ w'.cell? ⟨w1.heap.size, 9, none⟩ = some y9 ∧ w'.cell? ⟨w1.heap.size, 10, none⟩ = some y10 ∧ w'.cell? ⟨w1.heap.size, 11, none⟩ = some y11 ∧ w'.cell? ⟨w1.heap.size, 12, none⟩ = some y12 ∧ w'.cell? ⟨w1.heap.size, 13, none⟩ = some y13 ∧ w'.cell? ⟨w1.heap.size, 14, none⟩ = some y14) := hid fun w' h => by
    have g0 : ∀ i v, #[x0, x1, x2, x3, x4, x5, x6, x7, x8, x9, x10, x11, x12, x13, x14][i]? = some v → w'.cell? ⟨w.heap.size, i, none⟩ = some v := fun i v hv => ((h.cell (p := ⟨w.heap.size, i, none⟩) hl0).trans (BW.out.cell (p := ⟨w.heap.size, i, none⟩) hz0)).trans (HX0.out i v hv)
    have g1 : ∀ i v, #[y0, y1, y2, y3, y4, y5, y6, y7, y8, y9, y10, y11, y12, y13, y14][i]? = some v → w'.cell? ⟨w1.heap.size, i, none⟩ = some v := fun i v hv => (h.cell (p := ⟨w1.heap.size, i, none⟩) hl1).trans (X1.out i v hv)
    exact ⟨g0 0 _ rfl, g0 1 _ rfl, g0 2 _ rfl, g0 3 _ rfl, g0 4 _ rfl, g0 5 _ rfl, g0 6 _ rfl, g0 7 _ rfl, g0 8 _ rfl, g0 9 _ rfl, g0 10 _ rfl, g0 11 _ rfl, g0 12 _ rfl, g0 13 _ rfl, g0 14 _ rfl, g1 0 _ rfl, g1 1 _ rfl, g1 2 _ rfl, g1 3 _ rfl, g1 4 _ rfl, g1 5 _ rfl, g1 6 _ rfl, g1 7 _ rfl, g1 8 _ rfl, g1 9 _ rfl, g1 10 _ rfl, g1 11 _ rfl, g1 12 _ rfl, g1 13 _ rfl, g1 14 _ rfl⟩
  have BWw : Hid (Below w.heap.size w W) := hid (hb0.out.trans (BW.out.mono (Nat.le_of_lt hz0)))
  have GW : Hid (∀ w', Below W.heap.size W w' → Hid (Gl w')) := hid fun w' h => hid (hg.out.bel (BWw.out.trans (h.mono BWw.out.size)))
  have SK : Hid (∀ w', Below W.heap.size W w' → Hid (Sl w' a l)) := hid fun w' h => hid (hs.out.bel (BWw.out.trans (h.mono BWw.out.size)))
  have SM : Hid (∀ w' a' c' l' u, i64 u → Below W.heap.size W w' → Hid (Sl w' a' l') → Calls Tryd.prog 8 #[.agg #[x0, x1, x2, x3, x4, x5, x6, x7, x8, x9, x10, x11, x12, x13, x14], .slice a' l'.length c', .int .i64 u] w' fun e w'' => e = .returned (.bool true) ∧ Below w'.heap.size w' w'') := hid fun w' a' c' l' u h1 h2 h3 => by
    rw [← hA.out]
    exact same16_c m a' c' l' u w' (hid (hm.out.bel (BWw.out.trans (h2.mono BWw.out.size)))) h3 h1 (GW.out _ h2)
  have SN : Hid (∀ w' a' c' l' u, i64 u → Below W.heap.size W w' → Hid (Sl w' a' l') → Calls Tryd.prog 8 #[.agg #[y0, y1, y2, y3, y4, y5, y6, y7, y8, y9, y10, y11, y12, y13, y14], .slice a' l'.length c', .int .i64 u] w' fun e w'' => e = .returned (.bool true) ∧ Below w'.heap.size w' w'') := hid fun w' a' c' l' u h1 h2 h3 => by
    rw [← hB.out]
    exact same16_c n a' c' l' u w' (hid ((N1.out.bel B2.out).bel h2)) h3 h1 (GW.out _ h2)
  have h15 : i64 (bits .and .i64 used 15) := by
    have := band_le used 15 (by decide)
    rw [show ((15 : Nat) : Int) = 15 from rfl] at this
    unfold i64; omega
  clear HX0 X1 B1 B2 N1 hm hs hi
  obtain ⟨d0, d1, d2, d3, d4, d5, d6, d7, d8, d9, d10, d11, d12, d13, d14, d15, d16, d17, d18, d19, d20, d21, d22, d23, d24, d25, d26, d27, d28, d29⟩ := BK.out W.drew (Below.refl _ _).drew
  have xd : Below W.heap.size W W.drew := (Below.refl _ _).drew
  go_region_held3 (fun w' => w'.cell? ⟨w.heap.size, 0, none⟩ = some x0 ∧ w'.cell? ⟨w.heap.size, 1, none⟩ = some x1 ∧ w'.cell? ⟨w.heap.size, 2, none⟩ = some x2 ∧ w'.cell? ⟨w.heap.size, 3, none⟩ = some x3 ∧ w'.cell? ⟨w.heap.size, 4, none⟩ = some x4 ∧ w'.cell? ⟨w.heap.size, 5, none⟩ = some x5 ∧ w'.cell? ⟨w.heap.size, 6, none⟩ = some x6 ∧ w'.cell? ⟨w.heap.size, 7, none⟩ = some x7 ∧ w'.cell? ⟨w.heap.size, 8, none⟩ = some x8 ∧ w'.cell? ⟨w.heap.size, 9, none⟩ = some x9 ∧ w'.cell? ⟨w.heap.size, 10, none⟩ = some x10 ∧ w'.cell? ⟨w.heap.size, 11, none⟩ = some x11 ∧ w'.cell? ⟨w.heap.size, 12, none⟩ = some x12 ∧ w'.cell? ⟨w.heap.size, 13, none⟩ = some x13 ∧ w'.cell? ⟨w.heap.size, 14, none⟩ = some x14 ∧ w'.cell? ⟨w1.heap.size, 0, none⟩ = some y0 ∧ w'.cell? ⟨w1.heap.size, 1, none⟩ = some y1 ∧ w'.cell? ⟨w1.heap.size, 2, none⟩ = some y2 ∧ w'.cell? ⟨w1.heap.size, 3, none⟩ = some y3 ∧ w'.cell? ⟨w1.heap.size, 4, none⟩ = some y4 ∧ w'.cell? ⟨w1.heap.size, 5, none⟩ = some y5 ∧ w'.cell? ⟨w1.heap.size, 6, none⟩ = some y6 ∧ w'.cell? ⟨w1.heap.size, 7, none⟩ = some y7 ∧ w'.cell? ⟨w1.heap.size, 8, none⟩ = some y8 ∧ w'.cell? ⟨w1.heap.size, 9, none⟩ = some y9 ∧ w'.cell? ⟨w1.heap.size, 10, none⟩ = some y10 ∧ w'.cell? ⟨w1.heap.size, 11, none⟩ = some y11 ∧ w'.cell? ⟨w1.heap.size, 12, none⟩ = some y12 ∧ w'.cell? ⟨w1.heap.size, 13, none⟩ = some y13 ∧ w'.cell? ⟨w1.heap.size, 14, none⟩ = some y14 ∧ Below W.heap.size W w') (first | (with_reducible assumption) | exact ⟨by with_reducible assumption, by with_reducible assumption, by with_reducible assumption, by with_reducible assumption, by with_reducible assumption, by with_reducible assumption, by with_reducible assumption, by with_reducible assumption, by with_reducible assumption, by with_reducible assumption, by with_reducible assumption, by with_reducible assumption, by with_reducible assumption, by with_reducible assumption, by with_reducible assumption, by with_reducible assumption, by with_reducible assumption, by with_reducible assumption, by with_reducible assumption, by with_reducible assumption, by with_reducible assumption, by with_reducible assumption, by with_reducible assumption, by with_reducible assumption, by with_reducible assumption, by with_reducible assumption, by with_reducible assumption, by with_reducible assumption, by with_reducible assumption, by with_reducible assumption, by with_reducible assumption⟩)
    (first | (go_at_call 9; refine (name16_c _ _).mono ?_; rintro e v ⟨na, nc, nL, rfl, ho, hb1⟩; have y : Below W.heap.size W v := bthen (by (repeat' (first | exact Below.refl _ _ | assumption | refine bdrewN ?_ _ | refine Below.drew ?_ | refine Below.setCell ?_ (Nat.le_refl _) _ | refine bal ?_ _ | refine bthen ?_ (by assumption)))) hb1; have NS := hid ho.sl; clear ho hb1; clear d0 d1 d2 d3 d4 d5 d6 d7 d8 d9 d10 d11 d12 d13 d14 d15 d16 d17 d18 d19 d20 d21 d22 d23 d24 d25 d26 d27 d28 d29; have kk := BK.out _ y; obtain ⟨d0, d1, d2, d3, d4, d5, d6, d7, d8, d9, d10, d11, d12, d13, d14, d15, d16, d17, d18, d19, d20, d21, d22, d23, d24, d25, d26, d27, d28, d29⟩ := kk)
           | (go_at_call 8; (first | with_reducible refine (SM.out _ a c l used hu ?_ ?_).mono ?_ | with_reducible refine (SM.out _ na nc nL used hu ?_ ?_).mono ?_ | with_reducible refine (SN.out _ a c l used hu ?_ ?_).mono ?_ | with_reducible refine (SN.out _ na nc nL used hu ?_ ?_).mono ?_ | with_reducible refine (SN.out _ na nc nL _ h15 ?_ ?_).mono ?_); (focus (repeat' (first | exact Below.refl _ _ | assumption | refine bdrewN ?_ _ | refine Below.drew ?_ | refine Below.setCell ?_ (Nat.le_refl _) _ | refine bal ?_ _ | refine bthen ?_ (by assumption)))); (focus (first | exact NS | exact SK.out _ (by (repeat' (first | exact Below.refl _ _ | assumption | refine bdrewN ?_ _ | refine Below.drew ?_ | refine Below.setCell ?_ (Nat.le_refl _) _ | refine bal ?_ _ | refine bthen ?_ (by assumption)))))); rintro e v ⟨rfl, hb1⟩; have y : Below W.heap.size W v := bthen (by (repeat' (first | exact Below.refl _ _ | assumption | refine bdrewN ?_ _ | refine Below.drew ?_ | refine Below.setCell ?_ (Nat.le_refl _) _ | refine bal ?_ _ | refine bthen ?_ (by assumption)))) hb1; clear hb1; clear d0 d1 d2 d3 d4 d5 d6 d7 d8 d9 d10 d11 d12 d13 d14 d15 d16 d17 d18 d19 d20 d21 d22 d23 d24 d25 d26 d27 d28 d29; have kk := BK.out _ y; obtain ⟨d0, d1, d2, d3, d4, d5, d6, d7, d8, d9, d10, d11, d12, d13, d14, d15, d16, d17, d18, d19, d20, d21, d22, d23, d24, d25, d26, d27, d28, d29⟩ := kk)
           | (go_at_call 10; refine (known16_c _ (GW.out _ (by (repeat' (first | exact Below.refl _ _ | assumption | refine bdrewN ?_ _ | refine Below.drew ?_ | refine Below.setCell ?_ (Nat.le_refl _) _ | refine bal ?_ _ | refine bthen ?_ (by assumption)))))).mono ?_; rintro e v ⟨rfl, hb1⟩; have y : Below W.heap.size W v := bthen (by (repeat' (first | exact Below.refl _ _ | assumption | refine bdrewN ?_ _ | refine Below.drew ?_ | refine Below.setCell ?_ (Nat.le_refl _) _ | refine bal ?_ _ | refine bthen ?_ (by assumption)))) hb1; clear hb1; clear d0 d1 d2 d3 d4 d5 d6 d7 d8 d9 d10 d11 d12 d13 d14 d15 d16 d17 d18 d19 d20 d21 d22 d23 d24 d25 d26 d27 d28 d29; have kk := BK.out _ y; obtain ⟨d0, d1, d2, d3, d4, d5, d6, d7, d8, d9, d10, d11, d12, d13, d14, d15, d16, d17, d18, d19, d20, d21, d22, d23, d24, d25, d26, d27, d28, d29⟩ := kk))
  go_wp2
  go_ret
  exact ⟨rfl, bthen BWw.out (by assumption)⟩
end Go.Proofs.YtijhkpbnalnpbaaDoor
