/- standishlaw5: same. -/
import Derived.Test.YtnaipahapdjakaaChr
namespace Go.Proofs.Ytnaipahapdjakaa
open Go.RowKit

theorem may_gv {b : Bool} (a a1 a2 : Option Addr) (c c1 c2 : Nat) (l C P : List Int) (i : Int) (w : World) (h : Sl w a l) (h1 : Sl w a1 C) (h2 : Sl w a2 P) (hc : l.length ≤ c) (hi : ir i) (hb : mayC l ⟨i, C, P⟩ = b) :
    Calls Try.prog 33 #[.slice a l.length c, .agg #[.int .i64 i, .slice a1 C.length c1, .slice a2 P.length c2]] w fun e w' => e = .returned (.bool b) ∧ Below w.heap.size w w' := by subst hb; exact may_chg a a1 a2 c c1 c2 l C P i w h h1 h2 hc hi
theorem rmay_gv {b : Bool} (a a1 a2 : Option Addr) (c c1 c2 : Nat) (l C P : List Int) (i : Int) (w : World) (h : Sl w a l) (h1 : Sl w a1 C) (h2 : Sl w a2 P) (hc : l.length ≤ c) (hi : ir i) (hb : mayC l ⟨i, C, P⟩ = b) :
    Calls Try.prog 34 #[.slice a l.length c, .agg #[.int .i64 i, .slice a1 C.length c1, .slice a2 P.length c2]] w fun e w' => e = .returned (.bool b) ∧ Below w.heap.size w w' := by subst hb; exact rmay_chg a a1 a2 c c1 c2 l C P i w h h1 h2 hc hi
set_option maxHeartbeats 8000000 in
theorem same_g (a a1 a2 : Option Addr) (c c1 c2 : Nat) (l C P : List Int) (i : Int) (w : World) (h : Sl w a l) (h1 : Sl w a1 C) (h2 : Sl w a2 P) (hc : l.length ≤ c) (hi : ir i) (hl : l.length ≤ 35184372088830) (hl1 : C.length ≤ 35184372088830) (hl2 : P.length ≤ 35184372088830) :
    Calls Try.prog 13 #[.slice a l.length c, .agg #[.int .i64 i, .slice a1 C.length c1, .slice a2 P.length c2]] w fun e w' => e = .returned (.bool true) ∧ Below w.heap.size w w' := by
  have hi := hid hi
  obtain ⟨b, hb⟩ : ∃ b, Hid (mayC l ⟨i, C, P⟩ = b) := ⟨_, rfl⟩
  have hxV : Below w.heap.size w (w.alloc (.cells #[.int .i64 i, .slice a1 C.length c1, .slice a2 P.length c2] 24)) := bal (Below.refl _ _) _
  have dV : Sl (w.alloc (.cells #[.int .i64 i, .slice a1 C.length c1, .slice a2 P.length c2] 24)) a l ∧ Sl (w.alloc (.cells #[.int .i64 i, .slice a1 C.length c1, .slice a2 P.length c2] 24)) a1 C ∧ Sl (w.alloc (.cells #[.int .i64 i, .slice a1 C.length c1, .slice a2 P.length c2] 24)) a2 P := ⟨h.bel hxV, h1.bel hxV, h2.bel hxV⟩
  have cV : (w.alloc (.cells #[.int .i64 i, .slice a1 C.length c1, .slice a2 P.length c2] 24)).cell? ⟨w.heap.size, 0, none⟩ = some (.int .i64 i) ∧ (w.alloc (.cells #[.int .i64 i, .slice a1 C.length c1, .slice a2 P.length c2] 24)).cell? ⟨w.heap.size, 1, none⟩ = some (.slice a1 C.length c1) ∧ (w.alloc (.cells #[.int .i64 i, .slice a1 C.length c1, .slice a2 P.length c2] 24)).cell? ⟨w.heap.size, 2, none⟩ = some (.slice a2 P.length c2) := by
    refine ⟨?_, ?_, ?_⟩ <;> (rw [cell_alloc_new]; rfl)
  have zV : w.heap.size < (w.alloc (.cells #[.int .i64 i, .slice a1 C.length c1, .slice a2 P.length c2] 24)).heap.size := by simp
  clear h h1 h2
  go_enter Try.func13, Try.ntmps13
  go_wp2
  generalize w.alloc (.cells #[.int .i64 i, .slice a1 C.length c1, .slice a2 P.length c2] 24) = V at hxV dV cV zV ⊢
  obtain ⟨X, hX⟩ : ∃ X, w.heap.size = X := ⟨_, rfl⟩
  have K : Hid (∀ w', Below V.heap.size V w' → w'.cell? ⟨w.heap.size, 0, none⟩ = some (.int .i64 i) ∧ w'.cell? ⟨w.heap.size, 1, none⟩ = some (.slice a1 C.length c1) ∧ w'.cell? ⟨w.heap.size, 2, none⟩ = some (.slice a2 P.length c2)) := by
    intro w' hb
    refine ⟨?_, ?_, ?_⟩
    · rw [hb.cell (by exact zV)]; exact cV.1
    · rw [hb.cell (by exact zV)]; exact cV.2.1
    · rw [hb.cell (by exact zV)]; exact cV.2.2
  rw [hX] at K ⊢
  have D : Hid (∀ w', Below V.heap.size V w' → Sl w' a l ∧ Sl w' a1 C ∧ Sl w' a2 P) := fun w' hb => ⟨dV.1.bel hb, dV.2.1.bel hb, dV.2.2.bel hb⟩
  have HX := hid hX
  have HxV := hid hxV
  have zX : X < V.heap.size := by omega
  clear dV cV hX hxV zV
  have hy1 : Below V.heap.size V V.drew := (Below.refl _ _).drew
  obtain ⟨k0, k1, k2⟩ := K.out _ hy1
  go_region_held3 (fun w' => w'.cell? ⟨X, 0, none⟩ = some (.int .i64 i) ∧ w'.cell? ⟨X, 1, none⟩ = some (.slice a1 C.length c1) ∧ w'.cell? ⟨X, 2, none⟩ = some (.slice a2 P.length c2)) (first | assumption | exact ⟨by assumption, by assumption, by assumption⟩ | go_keep)
    (first | (go_at_call 26; (with_reducible refine (lend_c a c l _ (D.out _ hy1).1 hl).mono ?_); rintro e w2 ⟨g1, d1, rfl, hd1, hg1, ho1, hb2⟩; have Ho1 := hid ho1; have hy2 : Below V.heap.size V w2 := bthen hy1 hb2; obtain ⟨x0, x1, x2⟩ := K.out _ hy2; clear ho1 hb2)
               | (go_at_call 26; (with_reducible refine (lend_c a1 c1 C _ (D.out _ hy2).2.1 hl1).mono ?_); rintro e w3 ⟨g2, d2, rfl, hd2, hg2, ho2, hb3⟩; have Ho2 := hid ho2; have hy3 : Below V.heap.size V w3 := bthen hy2 hb3; obtain ⟨y0, y1, y2⟩ := K.out _ hy3; have Hb3 := hid hb3; clear ho2 hb3)
               | (go_at_call 26; (with_reducible refine (lend_c a2 c2 P _ (D.out _ hy3).2.2 hl2).mono ?_); rintro e w4 ⟨g3, d3, rfl, hd3, hg3, ho3, hb4⟩; have Ho3 := hid ho3; have hy4 : Below V.heap.size V w4 := bthen hy3 hb4; obtain ⟨z0, z1, z2⟩ := K.out _ hy4; have Hb4 := hid hb4; clear ho3 hb4))
  have D4 : Hid (Sl w4 (some ⟨g1, 0, none⟩) (l ++ [-77, -78]) ∧ Sl w4 (some ⟨g2, 0, none⟩) (C ++ [-77, -78]) ∧ Sl w4 (some ⟨g3, 0, none⟩) (P ++ [-77, -78])) := ⟨(Ho1.out.sl.bel Hb3.out).bel Hb4.out, Ho2.out.sl.bel Hb4.out, Ho3.out.sl⟩
  have hVL : Below V.heap.size V (w4.alloc (.cells #[.int .i64 i, .slice (some ⟨g2, 0, none⟩) C.length d2, .slice (some ⟨g3, 0, none⟩) P.length d3] 24)) := bal hy4 _
  have hDL : Hid (Sl (w4.alloc (.cells #[.int .i64 i, .slice (some ⟨g2, 0, none⟩) C.length d2, .slice (some ⟨g3, 0, none⟩) P.length d3] 24)) (some ⟨g1, 0, none⟩) (l ++ [-77, -78]) ∧ Sl (w4.alloc (.cells #[.int .i64 i, .slice (some ⟨g2, 0, none⟩) C.length d2, .slice (some ⟨g3, 0, none⟩) P.length d3] 24)) (some ⟨g2, 0, none⟩) (C ++ [-77, -78]) ∧ Sl (w4.alloc (.cells #[.int .i64 i, .slice (some ⟨g2, 0, none⟩) C.length d2, .slice (some ⟨g3, 0, none⟩) P.length d3] 24)) (some ⟨g3, 0, none⟩) (P ++ [-77, -78])) := ⟨D4.out.1.alloc _, D4.out.2.1.alloc _, D4.out.2.2.alloc _⟩
  have cL : (w4.alloc (.cells #[.int .i64 i, .slice (some ⟨g2, 0, none⟩) C.length d2, .slice (some ⟨g3, 0, none⟩) P.length d3] 24)).cell? ⟨w4.heap.size, 0, none⟩ = some (.int .i64 i) ∧ (w4.alloc (.cells #[.int .i64 i, .slice (some ⟨g2, 0, none⟩) C.length d2, .slice (some ⟨g3, 0, none⟩) P.length d3] 24)).cell? ⟨w4.heap.size, 1, none⟩ = some (.slice (some ⟨g2, 0, none⟩) C.length d2) ∧ (w4.alloc (.cells #[.int .i64 i, .slice (some ⟨g2, 0, none⟩) C.length d2, .slice (some ⟨g3, 0, none⟩) P.length d3] 24)).cell? ⟨w4.heap.size, 2, none⟩ = some (.slice (some ⟨g3, 0, none⟩) P.length d3) := by
    refine ⟨?_, ?_, ?_⟩ <;> (rw [cell_alloc_new]; rfl)
  have zL : w4.heap.size < (w4.alloc (.cells #[.int .i64 i, .slice (some ⟨g2, 0, none⟩) C.length d2, .slice (some ⟨g3, 0, none⟩) P.length d3] 24)).heap.size := by simp
  clear D4 Ho1 Ho2 Ho3 Hb3 Hb4 hy1 hy2 hy3 hy4 k0 k1 k2 x0 x1 x2 y0 y1 y2
  go_wp2
  generalize w4.alloc (.cells #[.int .i64 i, .slice (some ⟨g2, 0, none⟩) C.length d2, .slice (some ⟨g3, 0, none⟩) P.length d3] 24) = L at hVL hDL cL zL ⊢
  generalize w4.heap.size = Y at cL zL ⊢
  clear z0 z1 z2
  have K2 : Hid (∀ w', Below L.heap.size L w' → (w'.cell? ⟨X, 0, none⟩ = some (.int .i64 i) ∧ w'.cell? ⟨X, 1, none⟩ = some (.slice a1 C.length c1) ∧ w'.cell? ⟨X, 2, none⟩ = some (.slice a2 P.length c2)) ∧
      w'.cell? ⟨Y, 0, none⟩ = some (.int .i64 i) ∧ w'.cell? ⟨Y, 1, none⟩ = some (.slice (some ⟨g2, 0, none⟩) C.length d2) ∧ w'.cell? ⟨Y, 2, none⟩ = some (.slice (some ⟨g3, 0, none⟩) P.length d3)) := by
    intro w' hb
    refine ⟨K.out _ (bthen hVL hb), ?_, ?_, ?_⟩
    · rw [hb.cell (by exact zL)]; exact cL.1
    · rw [hb.cell (by exact zL)]; exact cL.2.1
    · rw [hb.cell (by exact zL)]; exact cL.2.2
  have D2 : Hid (∀ w', Below L.heap.size L w' → Sl w' a l ∧ Sl w' a1 C ∧ Sl w' a2 P) := fun w' hb => D.out _ (bthen hVL hb)
  have DL : Hid (∀ w', Below L.heap.size L w' → Sl w' (some ⟨g1, 0, none⟩) (l ++ [-77, -78]) ∧ Sl w' (some ⟨g2, 0, none⟩) (C ++ [-77, -78]) ∧ Sl w' (some ⟨g3, 0, none⟩) (P ++ [-77, -78])) := fun w' hb => ⟨hDL.out.1.bel hb, hDL.out.2.1.bel hb, hDL.out.2.2.bel hb⟩
  have DP : Hid (∀ w', Below L.heap.size L w' → Sl w' (some ⟨g1, 0, none⟩) l ∧ Sl w' (some ⟨g2, 0, none⟩) C ∧ Sl w' (some ⟨g3, 0, none⟩) P) := fun w' hb =>
    ⟨by simpa using (DL.out _ hb).1.take l.length, by simpa using (DL.out _ hb).2.1.take C.length, by simpa using (DL.out _ hb).2.2.take P.length⟩
  have HxL : Hid (Below w.heap.size w L) := HxV.out.trans (hVL.mono (by have := HxV.out.size; omega))
  have e1 : l.length ≤ d1 := by omega
  have e2 : C.length ≤ d2 := by omega
  have e3 : P.length ≤ d3 := by omega
  clear cL zL hDL hVL D K zX HxV
  have hr1 : Below L.heap.size L L.drew := (Below.refl _ _).drew
  obtain ⟨⟨x0, x1, x2⟩, y0, y1, y2⟩ := K2.out _ hr1
  go_region_held3 (fun w' => w'.cell? ⟨X, 0, none⟩ = some (.int .i64 i) ∧ w'.cell? ⟨X, 1, none⟩ = some (.slice a1 C.length c1) ∧ w'.cell? ⟨X, 2, none⟩ = some (.slice a2 P.length c2) ∧ w'.cell? ⟨Y, 0, none⟩ = some (.int .i64 i) ∧ w'.cell? ⟨Y, 1, none⟩ = some (.slice (some ⟨g2, 0, none⟩) C.length d2) ∧ w'.cell? ⟨Y, 2, none⟩ = some (.slice (some ⟨g3, 0, none⟩) P.length d3)) (first | assumption | exact ⟨by assumption, by assumption, by assumption, by assumption, by assumption, by assumption⟩ | go_keep)
    (first | (go_at_call 33; (refine (may_gv (some ⟨g1, 0, none⟩) (some ⟨g2, 0, none⟩) (some ⟨g3, 0, none⟩) d1 d2 d3 l C P i _ (DP.out _ hr1).1 (DP.out _ hr1).2.1 (DP.out _ hr1).2.2 e1 hi.out hb.out).mono ?_); rintro e w5 ⟨rfl, hb5⟩; have hr2 : Below L.heap.size L w5 := bthen hr1 hb5; obtain ⟨⟨k0, k1, k2⟩, k3, k4, k5⟩ := K2.out _ hr2; clear hb5)
               | (go_at_call 34; (refine (rmay_gv a a1 a2 c c1 c2 l C P i _ (D2.out _ hr2).1 (D2.out _ hr2).2.1 (D2.out _ hr2).2.2 hc hi.out hb.out).mono ?_); rintro e w6 ⟨rfl, hb6⟩; have hr3 : Below L.heap.size L w6 := bthen hr2 hb6; obtain ⟨⟨m0, m1, m2⟩, m3, m4, m5⟩ := K2.out _ hr3; clear hb6))
  clear x0 x1 x2 y0 y1 y2 k0 k1 k2 k3 k4 k5 hr1 hr2
  have hA := apply_c (some ⟨g1, 0, none⟩) (some ⟨g2, 0, none⟩) (some ⟨g3, 0, none⟩) d1 d2 d3 l C P i w6 (DP.out _ hr3).1 (DP.out _ hr3).2.1 (DP.out _ hr3).2.2 e1 hi.out
  have HB : Hid (∀ w', Below L.heap.size L w' → Calls Try.prog 16 #[.slice a l.length c, .agg #[.int .i64 i, .slice a1 C.length c1, .slice a2 P.length c2]] w' (MakesE w' (apT l ⟨i, C, P⟩) (apE l ⟨i, C, P⟩))) := fun w' hb => rapply_c a a1 a2 c c1 c2 l C P i w' (D2.out _ hb).1 (D2.out _ hb).2.1 (D2.out _ hb).2.2 hc hi.out
  generalize apT l ⟨i, C, P⟩ = T at hA HB
  generalize apE l ⟨i, C, P⟩ = E at hA HB
  go_wp2_with fail
  refine hA.mono ?_
  rintro e w7 ⟨a7, c7, rfl, ho7, hb7⟩
  have Ho7 := hid (ho7.base_le hr3.size)
  clear ho7 hA m0 m1 m2 m3 m4 m5
  have hr4 : Below L.heap.size L w7 := bthen hr3 hb7
  obtain ⟨⟨x0, x1, x2⟩, y0, y1, y2⟩ := K2.out _ hr4
  go_wp2_with fail
  refine (HB.out _ hr4).mono ?_
  rintro e w8 ⟨a8, c8, rfl, ho8, hb8⟩
  have Ho8 := hid ho8.sl
  have Ho7' := hid (Ho7.out.grow hb8)
  have hr5 : Below L.heap.size L w8 := bthen hr4 hb8
  clear x0 x1 x2 y0 y1 y2 ho8 hb8 hb7 Ho7 HB
  obtain ⟨⟨x0, x1, x2⟩, y0, y1, y2⟩ := K2.out _ hr5
  have hI := hid (invert_c i (some ⟨g2, 0, none⟩) (some ⟨g3, 0, none⟩) d2 d3 C P w8 (DP.out _ hr5).2.1 (DP.out _ hr5).2.2)
  go_wp2_with fail
  refine hI.out.mono ?_
  rintro e w9 ⟨a9, c9, a10, c10, rfl, ho9, ho10, hb9, hd9⟩
  clear hI x0 x1 x2 y0 y1 y2
  have hrR : Below L.heap.size L (w9.alloc (.cells #[.int .i64 i, .slice a9 P.length c9, .slice a10 C.length c10] 24)) := bal (bthen hr5 hb9) _
  have oR : Hid (Own (w9.alloc (.cells #[.int .i64 i, .slice a9 P.length c9, .slice a10 C.length c10] 24)) L.heap.size a7 c7 T ∧ Own (w9.alloc (.cells #[.int .i64 i, .slice a9 P.length c9, .slice a10 C.length c10] 24)) w8.heap.size a9 c9 P ∧ Own (w9.alloc (.cells #[.int .i64 i, .slice a9 P.length c9, .slice a10 C.length c10] 24)) w8.heap.size a10 c10 C ∧ Sl (w9.alloc (.cells #[.int .i64 i, .slice a9 P.length c9, .slice a10 C.length c10] 24)) a8 T) := ⟨(Ho7'.out.grow hb9).alloc _, ho9.alloc _, ho10.alloc _, (Ho8.out.bel hb9).alloc _⟩
  have cR : (w9.alloc (.cells #[.int .i64 i, .slice a9 P.length c9, .slice a10 C.length c10] 24)).cell? ⟨w9.heap.size, 0, none⟩ = some (.int .i64 i) ∧ (w9.alloc (.cells #[.int .i64 i, .slice a9 P.length c9, .slice a10 C.length c10] 24)).cell? ⟨w9.heap.size, 1, none⟩ = some (.slice a9 P.length c9) ∧ (w9.alloc (.cells #[.int .i64 i, .slice a9 P.length c9, .slice a10 C.length c10] 24)).cell? ⟨w9.heap.size, 2, none⟩ = some (.slice a10 C.length c10) := by
    refine ⟨?_, ?_, ?_⟩ <;> (rw [cell_alloc_new]; rfl)
  have zR : w9.heap.size < (w9.alloc (.cells #[.int .i64 i, .slice a9 P.length c9, .slice a10 C.length c10] 24)).heap.size := by simp
  have n7 : Hid (∀ k, Blk a7 k → k < w8.heap.size) := fun k hk => (Ho7'.out.lt hk).2
  have zz : w8.heap.size ≤ w9.heap.size := hb9.size
  have z8 : L.heap.size ≤ w8.heap.size := hr5.size
  clear ho9 ho10 hb9 Ho7' Ho8 hr5 hr4 hr3
  have Hd9 := hid hd9
  clear hd9
  go_wp2
  generalize w9.alloc (.cells #[.int .i64 i, .slice a9 P.length c9, .slice a10 C.length c10] 24) = R at hrR oR cR zR ⊢
  have K3 : Hid (∀ w', Below R.heap.size R w' → (w'.cell? ⟨X, 0, none⟩ = some (.int .i64 i) ∧ w'.cell? ⟨X, 1, none⟩ = some (.slice a1 C.length c1) ∧ w'.cell? ⟨X, 2, none⟩ = some (.slice a2 P.length c2)) ∧
      w'.cell? ⟨w9.heap.size, 0, none⟩ = some (.int .i64 i) ∧ w'.cell? ⟨w9.heap.size, 1, none⟩ = some (.slice a9 P.length c9) ∧ w'.cell? ⟨w9.heap.size, 2, none⟩ = some (.slice a10 C.length c10)) := by
    intro w' hb
    refine ⟨(K2.out _ (bthen hrR hb)).1, ?_, ?_, ?_⟩
    · rw [hb.cell (by exact zR)]; exact cR.1
    · rw [hb.cell (by exact zR)]; exact cR.2.1
    · rw [hb.cell (by exact zR)]; exact cR.2.2
  have hq1 : Below R.heap.size R R.drew := (Below.refl _ _).drew
  obtain ⟨⟨x0, x1, x2⟩, y0, y1, y2⟩ := K3.out _ hq1
  clear cR zR
  go_region_held3 (fun w' => w'.cell? ⟨X, 0, none⟩ = some (.int .i64 i) ∧ w'.cell? ⟨X, 1, none⟩ = some (.slice a1 C.length c1) ∧ w'.cell? ⟨X, 2, none⟩ = some (.slice a2 P.length c2) ∧ w'.cell? ⟨w9.heap.size, 0, none⟩ = some (.int .i64 i) ∧ w'.cell? ⟨w9.heap.size, 1, none⟩ = some (.slice a9 P.length c9) ∧ w'.cell? ⟨w9.heap.size, 2, none⟩ = some (.slice a10 C.length c10)) (first | assumption | exact ⟨by assumption, by assumption, by assumption, by assumption, by assumption, by assumption⟩ | go_keep)
    (first | (go_at_call 20; (refine (rsame_v a7 a8 c7 c8 T T _ (oR.out.1.sl.bel hq1) (oR.out.2.2.2.bel hq1) (eqM_self T)).mono ?_); rintro e w10 ⟨rfl, n10, hn10⟩; have hq2 : Below R.heap.size R w10 := (by rw [hn10]; exact bdrewN hq1 _); clear hn10; obtain ⟨⟨k0, k1, k2⟩, k3, k4, k5⟩ := K3.out _ hq2)
               | (go_at_call 36; (refine (rinvert_c i a1 a2 c1 c2 C P _ (D2.out _ (bthen hrR hq2)).2.1 (D2.out _ (bthen hrR hq2)).2.2).mono ?_); rintro e w11 ⟨a11, c11, a12, c12, rfl, ho11, ho12, hb11⟩; have Ho11 := hid ho11.sl; have Ho12 := hid ho12.sl; have hq3 : Below R.heap.size R w11 := bthen hq2 hb11; obtain ⟨⟨m0, m1, m2⟩, m3, m4, m5⟩ := K3.out _ hq3; clear hb11 ho11 ho12)
               | (go_at_call 28; (refine (sameChange_c i a9 a10 a11 a12 c9 c10 c11 c12 P C _ (oR.out.2.1.sl.bel hq3) (oR.out.2.2.1.sl.bel hq3) Ho11.out Ho12.out).mono ?_); rintro e w12 ⟨rfl, hb12⟩; have hq4 : Below R.heap.size R w12 := bthen hq3 hb12; obtain ⟨⟨p0, p1, p2⟩, p3, p4, p5⟩ := K3.out _ hq4; clear hb12))
  clear x0 x1 x2 y0 y1 y2 k0 k1 k2 k3 k4 k5 m0 m1 m2 m3 m4 m5
  have hS := hid (spoilk_c L.heap.size a7 c7 T w12 (oR.out.1.grow hq4))
  have o9 := hid (oR.out.2.1.grow hq4)
  have o10 := hid (oR.out.2.2.1.grow hq4)
  have hrS : Below L.heap.size L w12 := bthen hrR hq4
  clear oR hq1 hq2 hq3 hq4 K3 p0 p1 p2 Ho11 Ho12
  go_wp2_with fail
  refine hS.out.mono ?_
  rintro e w13 ⟨rfl, hb13, hk13⟩
  have nb : ¬ Blk a7 w9.heap.size := fun h => by have := n7.out _ h; omega
  have y0 := hk13.cell p3 nb
  have y1 := hk13.cell p4 nb
  have y2 := hk13.cell p5 nb
  have o9' : Hid (Own w13 w8.heap.size a9 c9 P) := o9.out.same fun ad ha hl => hk13.block _ hl fun h => by have := n7.out _ h; have := (o9.out.lt ⟨ad, ha, rfl⟩).1; omega
  have o10' : Hid (Own w13 w8.heap.size a10 c10 C) := o10.out.same fun ad ha hl => hk13.block _ hl fun h => by have := n7.out _ h; have := (o10.out.lt ⟨ad, ha, rfl⟩).1; omega
  have hr13 : Below L.heap.size L w13 := hrS.trans hb13
  have z13 := hk13.size
  have z12 := hrS.size
  clear hS o9 o10 hrS hb13 hk13 nb p3 p4 p5
  have hG := hid (spoil_g L.heap.size i a9 a10 c9 c10 P C w13 (o9'.out.base_le z8) (o10'.out.base_le z8) Hd9.out (by omega))
  go_wp2_with fail
  refine hG.out.mono ?_
  rintro e w14 ⟨rfl, hb14, -⟩
  have hr14 : Below L.heap.size L w14 := hr13.trans hb14
  clear hG hb14 y0 y1 y2 o9' o10'
  obtain ⟨⟨x0, x1, x2⟩, -⟩ := K2.out _ hr14
  have f1 := hid (kept_c g1 d1 a c l w14 (DL.out _ hr14).1 hd1 (D2.out _ hr14).1)
  go_wp2_with fail
  refine f1.out.mono ?_
  rintro e w15 ⟨rfl, n15, hn15⟩
  have hr15 : Below L.heap.size L w15 := by rw [hn15]; exact bdrewN hr14 _
  clear hn15 f1 x0 x1 x2
  obtain ⟨⟨x0, x1, x2⟩, -⟩ := K2.out _ hr15
  have f2 := hid (kept_c g2 d2 a1 c1 C w15 (DL.out _ hr15).2.1 hd2 (D2.out _ hr15).2.1)
  go_wp2_with fail
  refine f2.out.mono ?_
  rintro e w16 ⟨rfl, n16, hn16⟩
  have hr16 : Below L.heap.size L w16 := by rw [hn16]; exact bdrewN hr15 _
  clear hn16 f2 x0 x1 x2
  obtain ⟨⟨x0, x1, x2⟩, -⟩ := K2.out _ hr16
  have f3 := hid (kept_c g3 d3 a2 c2 P w16 (DL.out _ hr16).2.2 hd3 (D2.out _ hr16).2.2)
  go_wp2_with fail
  refine f3.out.mono ?_
  rintro e w17 ⟨rfl, n17, hn17⟩
  have hr17 : Below L.heap.size L w17 := by rw [hn17]; exact bdrewN hr16 _
  clear hn17 f3 x0 x1 x2
  go_wp2
  go_ret
  exact ⟨rfl, HxL.out.trans (hr17.mono (by have := HxL.out.size; omega))⟩
end Go.Proofs.Ytnaipahapdjakaa
