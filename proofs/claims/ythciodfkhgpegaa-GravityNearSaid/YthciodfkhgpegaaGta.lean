/- The walk of GravityTells. -/
import Derived.Test.YthciodfkhgpegaaGba
import Derived.Test.YthciodfkhgpegaaCho
namespace Go.Proofs.Ythciodfkhgpegaa
open Go.RowKit

theorem rspan_v {x y : Int} (a1 a2 : Option Addr) (c1 c2 n m : Nat) (f t i how : Int) (w : World) (hn : n ≤ 35184372088832) (hm : m ≤ 35184372088832) (h : spF f t i n m how = x ∧ spT f t i n m how = y) :
    Calls Try.prog 12 #[.agg #[.int .i64 f, .int .i64 t], .agg #[.int .i64 i, .slice a1 n c1, .slice a2 m c2], .int .i64 how] w fun e w' => e = .returned (.agg #[.int .i64 x, .int .i64 y]) ∧ Below w.heap.size w w' := by
  obtain ⟨rfl, rfl⟩ := h; exact rspan_c a1 a2 c1 c2 n m f t i how w hn hm
theorem kept_b (g c : Nat) (a2 : Option Addr) (c2 : Nat) (l : List Int) (w : World) (h : Sl w (some ⟨g, 0, none⟩) (l ++ [-77, -78])) (hc : l.length + 2 ≤ c) (h2 : Sl w a2 l) :
    Calls Try.prog 13 #[.slice (some ⟨g, 0, none⟩) l.length c, .slice a2 l.length c2] w fun e w' => e = .returned (.bool true) ∧ Below w.heap.size w w' :=
  (kept_c g c a2 c2 l w h hc h2).mono fun e w' ⟨he, n, hw⟩ => ⟨he, by subst hw; exact bdrewN (Below.refl _ _) _⟩
set_option maxRecDepth 20000 in
set_option maxHeartbeats 40000000 in
theorem tells_w (a1 a2 : Option Addr) (c1 c2 : Nat) (C P : List Int) (x0 i f t how : Int) (r : Bool) (W : World) (h1 : Sl W a1 C) (h2 : Sl W a2 P) (hn : C.length ≤ 35184372088000) (hm : P.length ≤ 35184372088000) :
    Calls Try.prog 3 #[.int .i64 x0, .agg #[.int .i64 i, .slice a1 C.length c1, .slice a2 P.length c2], .agg #[.int .i64 f, .int .i64 t], .int .i64 how, .bool r] W fun e w' => e = .returned (.bool true) ∧ Below W.heap.size W w' := by
  obtain ⟨V, hV⟩ : ∃ V, V = (W.alloc (.cells #[.int .i64 i, .slice a1 C.length c1, .slice a2 P.length c2] 24)).alloc (.cells #[.int .i64 f, .int .i64 t] 26) := ⟨_, rfl⟩
  have hx : Below W.heap.size W V := by subst hV; (repeat' (first | exact Below.refl _ _ | assumption | refine bdrewN ?_ _ | refine Below.drew ?_ | refine bal ?_ _ | refine bthen ?_ (by assumption)))
  have hk : ∀ w', Below V.heap.size V w' → (w'.cell? ⟨W.heap.size, 0, none⟩ = some (.int .i64 i) ∧ w'.cell? ⟨W.heap.size, 1, none⟩ = some (.slice a1 C.length c1) ∧ w'.cell? ⟨W.heap.size, 2, none⟩ = some (.slice a2 P.length c2)) ∧ w'.cell? ⟨W.heap.size + 1, 0, none⟩ = some (.int .i64 f) ∧ w'.cell? ⟨W.heap.size + 1, 1, none⟩ = some (.int .i64 t) := by
    subst hV
    intro w' hb
    have hk : Kpt (fun _ => False) _ w' := Kpt.of hb
    exact ⟨⟨hk.cell (by go_simp) id, hk.cell (by go_simp) id, hk.cell (by go_simp) id⟩, hk.cell (by go_simp) id, hk.cell (by go_simp) id⟩
  have K := hid hk
  have hv : Below V.heap.size V V.drew := (Below.refl _ _).drew
  obtain ⟨⟨y0, y1, y2⟩, f0, f1⟩ := hk V.drew hv
  have D : Hid (∀ w', Below W.heap.size W w' → Sl w' a1 C ∧ Sl w' a2 P) := fun w' hb => ⟨h1.bel hb, h2.bel hb⟩
  clear hk h1 h2
  go_enter Try.func3, Try.ntmps3
  go_upto_region 1 with fail
  rw [← hV]; clear hV
  have hxd : Below W.heap.size W V.drew := hx.drew
  go_region_held3 (fun w' => w'.cell? ⟨W.heap.size, 0, none⟩ = some (.int .i64 i) ∧ w'.cell? ⟨W.heap.size, 1, none⟩ = some (.slice a1 C.length c1) ∧ w'.cell? ⟨W.heap.size, 2, none⟩ = some (.slice a2 P.length c2)) (first | (with_reducible assumption) | exact ⟨by with_reducible assumption, by with_reducible assumption, by with_reducible assumption⟩)
    (first | (go_at_call 8; (with_reducible refine (lend_c a1 c1 C _ (D.out _ hxd).1 (by omega)).mono ?_); rintro e w3 ⟨g1, d1, rfl, hd1, hg1, ho1, hb3⟩; have hx3 : Below V.heap.size V w3 := bthen hv hb3; have hw3 : Below W.heap.size W w3 := bthen hxd hb3; have Ho1 := hid ho1; clear ho1; have kk := K.out _ hx3; obtain ⟨⟨z0, z1, z2⟩, -, -⟩ := kk)
           | (go_at_call 8; (with_reducible refine (lend_c a2 c2 P _ (D.out _ hw3).2 (by omega)).mono ?_); rintro e w4 ⟨g2, d2, rfl, hd2, hg2, ho2, hb4⟩; have hx4 : Below V.heap.size V w4 := bthen hx3 hb4; have hw4 : Below W.heap.size W w4 := bthen hw3 hb4; have Ho2 := hid ho2; clear ho2; have kk := K.out _ hx4; obtain ⟨⟨u0, u1, u2⟩, u3, u4⟩ := kk))
  clear y0 y1 y2 f0 f1 z0 z1 z2
  obtain ⟨R, hR⟩ : ∃ R, R = w4.alloc (.cells #[.int .i64 i, .slice (some ⟨g1, 0, none⟩) C.length d1, .slice (some ⟨g2, 0, none⟩) P.length d2] 24) := ⟨_, rfl⟩
  have hwR : Below W.heap.size W R := by subst hR; exact bal hw4 _
  have hkd := box_kept (e := 24) rfl hR
  have hvR : Below V.heap.size V R := by subst hR; exact bal hx4 _
  have DL : Hid (∀ w', Below R.heap.size R w' → Sl w' (some ⟨g1, 0, none⟩) (C ++ [-77, -78]) ∧ Sl w' (some ⟨g2, 0, none⟩) (P ++ [-77, -78])) := by
    subst hR
    intro w' hb
    have hb' : Below w4.heap.size w4 w' := bthen (bal (Below.refl _ _) _) hb
    exact ⟨(Ho1.out.grow hb4).sl.bel hb', Ho2.out.sl.bel hb'⟩
  have hr : Below R.heap.size R R := Below.refl _ _
  generalize hDB : w4.heap.size = DB at hkd
  have KR : Hid (∀ w', Below R.heap.size R w' → (w'.cell? ⟨W.heap.size, 0, none⟩ = some (.int .i64 i) ∧ w'.cell? ⟨W.heap.size, 1, none⟩ = some (.slice a1 C.length c1) ∧ w'.cell? ⟨W.heap.size, 2, none⟩ = some (.slice a2 P.length c2)) ∧ (w'.cell? ⟨W.heap.size + 1, 0, none⟩ = some (.int .i64 f) ∧ w'.cell? ⟨W.heap.size + 1, 1, none⟩ = some (.int .i64 t)) ∧ w'.cell? ⟨DB, 0, none⟩ = some (.int .i64 i) ∧ w'.cell? ⟨DB, 1, none⟩ = some (.slice (some ⟨g1, 0, none⟩) C.length d1) ∧ w'.cell? ⟨DB, 2, none⟩ = some (.slice (some ⟨g2, 0, none⟩) P.length d2)) := fun w' hb => ⟨(K.out _ (bthen hvR hb)).1, (K.out _ (bthen hvR hb)).2, hkd w' hb⟩
  clear hkd
  go_upto_region 3 with fail
  rw [← hR]
  clear hR K hx3 hx4 hw3 hw4 hb3 hb4 hv hxd hvR Ho1 Ho2 u0 u1 u2 u3 u4 hDB
  generalize hM : mvG x0 i C.length P.length r = y
  have HM := hid hM
  clear hM
  have hrd : Below R.heap.size R R.drew := hr.drew
  have kk := KR.out _ hrd
  obtain ⟨⟨p0, p1, p2⟩, ⟨p3, p4⟩, p5, p6, p7⟩ := kk
  go_region_held3 (fun w' => (w'.cell? ⟨W.heap.size, 0, none⟩ = some (.int .i64 i) ∧ w'.cell? ⟨W.heap.size, 1, none⟩ = some (.slice a1 C.length c1) ∧ w'.cell? ⟨W.heap.size, 2, none⟩ = some (.slice a2 P.length c2)) ∧ w'.cell? ⟨DB, 0, none⟩ = some (.int .i64 i) ∧ w'.cell? ⟨DB, 1, none⟩ = some (.slice (some ⟨g1, 0, none⟩) C.length d1) ∧ w'.cell? ⟨DB, 2, none⟩ = some (.slice (some ⟨g2, 0, none⟩) P.length d2)) (first | (with_reducible assumption) | exact ⟨⟨by with_reducible assumption, by with_reducible assumption, by with_reducible assumption⟩, by with_reducible assumption, by with_reducible assumption, by with_reducible assumption⟩)
    (first | (go_at_call 9; (with_reducible refine (place_v _ (by omega) (by omega) HM.out).mono ?_); rintro e w5 ⟨rfl, hb5⟩; have hxw5 : Below R.heap.size R w5 := bthen hrd hb5; have kk := KR.out _ hxw5; obtain ⟨⟨q0, q1, q2⟩, ⟨q3, q4⟩, q5, q6, q7⟩ := kk)
           | (go_at_call 10; (with_reducible refine (moved_v _ (by omega) (by omega) HM.out).mono ?_); rintro e w6 ⟨rfl, hb6⟩; have hxw6 : Below R.heap.size R w6 := bthen hxw5 hb6; have kk := KR.out _ hxw6; obtain ⟨⟨r0, r1, r2⟩, ⟨r3, r4⟩, r5, r6, r7⟩ := kk))
  clear q0 q1 q2 q3 q4 q5 q6 q7 r0 r1 r2 r3 r4 r5 r6 r7 p0 p1 p2 p3 p4 p5 p6 p7 hb5 hb6 hxw5 hrd HM
  go_wp2_with fail
  go_loopw [14] (fun iv wr => ∃ k : Nat, k ≤ 4 ∧ iv = .int .i64 k ∧ Below R.heap.size R wr) (fun iv _ => 4 - (intOf iv).toNat)
  case atStart => exact ⟨0, by omega, rfl, hxw6⟩
  case round =>
    obtain ⟨k, hk4, rfl, hb⟩ := hrel
    have hrd : Below R.heap.size R wr.drew := hb.drew
    have kk := KR.out _ hb
    obtain ⟨⟨m0, m1, m2⟩, ⟨m3, m4⟩, m5, m6, m7⟩ := kk
    have kk := KR.out _ hrd
    obtain ⟨⟨p0, p1, p2⟩, ⟨p3, p4⟩, p5, p6, p7⟩ := kk
    by_cases hlt : k < 4
    · generalize hA : spF f t i C.length P.length k = sA
      generalize hB : spT f t i C.length P.length k = sB
      have HAB := hid (And.intro hA hB)
      clear hA hB
      go_wp2_with fail
      go_region_held3 (fun w' => (w'.cell? ⟨W.heap.size, 0, none⟩ = some (.int .i64 i) ∧ w'.cell? ⟨W.heap.size, 1, none⟩ = some (.slice a1 C.length c1) ∧ w'.cell? ⟨W.heap.size, 2, none⟩ = some (.slice a2 P.length c2)) ∧ (w'.cell? ⟨W.heap.size + 1, 0, none⟩ = some (.int .i64 f) ∧ w'.cell? ⟨W.heap.size + 1, 1, none⟩ = some (.int .i64 t)) ∧ w'.cell? ⟨DB, 0, none⟩ = some (.int .i64 i) ∧ w'.cell? ⟨DB, 1, none⟩ = some (.slice (some ⟨g1, 0, none⟩) C.length d1) ∧ w'.cell? ⟨DB, 2, none⟩ = some (.slice (some ⟨g2, 0, none⟩) P.length d2)) (first | (with_reducible assumption) | exact ⟨⟨by with_reducible assumption, by with_reducible assumption, by with_reducible assumption⟩, ⟨by with_reducible assumption, by with_reducible assumption⟩, by with_reducible assumption, by with_reducible assumption, by with_reducible assumption⟩)
        (first | (go_at_call 11; (with_reducible refine (span_v _ _ _ _ _ _ _ _ _ _ _ (by omega) (by omega) HAB.out).mono ?_); rintro e w5 ⟨rfl, hb5⟩; have hxw5 : Below R.heap.size R w5 := bthen hrd hb5; have kk := KR.out _ hxw5; obtain ⟨⟨q0, q1, q2⟩, ⟨q3, q4⟩, q5, q6, q7⟩ := kk)
               | (go_at_call 12; (with_reducible refine (rspan_v _ _ _ _ _ _ _ _ _ _ _ (by omega) (by omega) HAB.out).mono ?_); rintro e w6 ⟨rfl, hb6⟩; have hxw6 : Below R.heap.size R w6 := bthen hxw5 hb6; have kk := KR.out _ hxw6; obtain ⟨⟨r0, r1, r2⟩, ⟨r3, r4⟩, r5, r6, r7⟩ := kk))
      go_wp2_with fail
      go_roundw
      case rel => exact ⟨k + 1, by omega, by go_num, hxw6⟩
      case measure => simp [intOf]; omega
    · obtain rfl : k = 4 := by omega
      clear hlt hk4
      generalize hA : spF f t i C.length P.length how = sA
      generalize hB : spT f t i C.length P.length how = sB
      have HAB := hid (And.intro hA hB)
      clear hA hB
      go_wp2_with fail
      go_region_held3 (fun w' => (w'.cell? ⟨W.heap.size, 0, none⟩ = some (.int .i64 i) ∧ w'.cell? ⟨W.heap.size, 1, none⟩ = some (.slice a1 C.length c1) ∧ w'.cell? ⟨W.heap.size, 2, none⟩ = some (.slice a2 P.length c2)) ∧ (w'.cell? ⟨W.heap.size + 1, 0, none⟩ = some (.int .i64 f) ∧ w'.cell? ⟨W.heap.size + 1, 1, none⟩ = some (.int .i64 t)) ∧ w'.cell? ⟨DB, 0, none⟩ = some (.int .i64 i) ∧ w'.cell? ⟨DB, 1, none⟩ = some (.slice (some ⟨g1, 0, none⟩) C.length d1) ∧ w'.cell? ⟨DB, 2, none⟩ = some (.slice (some ⟨g2, 0, none⟩) P.length d2)) (first | (with_reducible assumption) | exact ⟨⟨by with_reducible assumption, by with_reducible assumption, by with_reducible assumption⟩, ⟨by with_reducible assumption, by with_reducible assumption⟩, by with_reducible assumption, by with_reducible assumption, by with_reducible assumption⟩)
        (first | (go_at_call 11; (with_reducible refine (span_v _ _ _ _ _ _ _ _ _ _ _ (by omega) (by omega) HAB.out).mono ?_); rintro e w5 ⟨rfl, hb5⟩; have hxw5 : Below R.heap.size R w5 := bthen hrd hb5; have kk := KR.out _ hxw5; obtain ⟨⟨q0, q1, q2⟩, ⟨q3, q4⟩, q5, q6, q7⟩ := kk)
               | (go_at_call 12; (with_reducible refine (rspan_v _ _ _ _ _ _ _ _ _ _ _ (by omega) (by omega) HAB.out).mono ?_); rintro e w6 ⟨rfl, hb6⟩; have hxw6 : Below R.heap.size R w6 := bthen hxw5 hb6; have kk := KR.out _ hxw6; obtain ⟨⟨r0, r1, r2⟩, ⟨r3, r4⟩, r5, r6, r7⟩ := kk)
               | (go_at_call 13; (with_reducible refine (kept_b g1 d1 a1 c1 C _ (DL.out _ hxw6).1 hd1 (D.out _ (hwR.trans (hxw6.mono hwR.size))).1).mono ?_); rintro e w7 ⟨rfl, hb7⟩; have hxw7 : Below R.heap.size R w7 := bthen hxw6 hb7; have kk := KR.out _ hxw7; obtain ⟨⟨s0, s1, s2⟩, ⟨s3, s4⟩, s5, s6, s7⟩ := kk)
               | (go_at_call 13; (with_reducible refine (kept_b g2 d2 a2 c2 P _ (DL.out _ hxw7).2 hd2 (D.out _ (hwR.trans (hxw7.mono hwR.size))).2).mono ?_); rintro e w8 ⟨rfl, hb8⟩; have hxw8 : Below R.heap.size R w8 := bthen hxw7 hb8; have kk := KR.out _ hxw8; obtain ⟨⟨t0, t1, t2⟩, ⟨t3, t4⟩, t5, t6, t7⟩ := kk)
               | (go_at_call 14; (with_reducible refine (known_c _).mono ?_); rintro e w9 ⟨rfl, hb9⟩; have hxw9 : Below R.heap.size R w9 := bthen hxw8 hb9; have kk := KR.out _ hxw9; obtain ⟨⟨u0, u1, u2⟩, ⟨u3, u4⟩, u5, u6, u7⟩ := kk))
      go_wp2_with fail
      go_ret
      exact ⟨rfl, hwR.trans (hxw9.mono hwR.size)⟩
end Go.Proofs.Ythciodfkhgpegaa
