/- The document's own answer for a span; what every program answers that is one. -/
import Derived.Test.YthciodfkhgpegaaGrb
namespace Go.Proofs.Ythciodfkhgpegaa
open Go.RowKit

set_option maxRecDepth 20000 in
set_option maxHeartbeats 4000000 in
theorem rspan_c (a1 a2 : Option Addr) (c1 c2 n m : Nat) (f t i how : Int) (w : World) (hn : n ≤ 35184372088832) (hm : m ≤ 35184372088832) :
    Calls Try.prog 12 #[.agg #[.int .i64 f, .int .i64 t], .agg #[.int .i64 i, .slice a1 n c1, .slice a2 m c2], .int .i64 how] w (SpE f t i n m how w) := by
  obtain ⟨V, hV⟩ : ∃ V, V = ((w.alloc (.cells #[.int .i64 f, .int .i64 t] 26)).alloc (.cells #[.int .i64 i, .slice a1 n c1, .slice a2 m c2] 24)).alloc (.cells #[.int .i64 0, .int .i64 0] 26) := ⟨_, rfl⟩
  obtain ⟨hbV, hK⟩ := span_boxes hV
  have K := hid hK
  obtain ⟨⟨x0, x1⟩, ⟨y0, y1, y2⟩, ⟨z0, z1⟩, g0, g1⟩ := hK V (Below.refl _ _)
  clear hK
  cases hF : farG f
  · have F0 := hid hF
    cases hT : farG t
    · have T0 := hid hT
      cases hI : farG i
      · have I0 := hid hI
        rcases (show how = 0 ∨ how = 1 ∨ how = 2 ∨ how < 0 ∨ 2 < how by omega) with rfl | rfl | rfl | hh | hh
        · have HS := hid (spF_how (n := n) (m := m) (a := i) hF hT (show (0 : Int) ≤ 0 ∧ (0 : Int) ≤ 2 by omega))
          clear hF hT hI
          go_enter Try.func12, Try.ntmps12
          go_upto_region 1 with fail
          rw [← hV]; clear hV
          have hV0 : Below V.heap.size V V.drew := (Below.refl _ _).drew
          go_upto_region 3 with (first | (go_at_call 19; (with_reducible refine (far_v _ _ F0.out).mono ?_); rintro e w' ⟨rfl, rfl⟩) | (go_at_call 19; (with_reducible refine (far_v _ _ T0.out).mono ?_); rintro e w' ⟨rfl, rfl⟩) | (go_at_call 19; (with_reducible refine (far_v _ _ I0.out).mono ?_); rintro e w' ⟨rfl, rfl⟩))
          go_region_held3 (fun w' => w'.cell? ⟨w.heap.size, 0, none⟩ = some (.int .i64 f) ∧ w'.cell? ⟨w.heap.size, 1, none⟩ = some (.int .i64 t) ∧ w'.cell? ⟨w.heap.size + 1, 0, none⟩ = some (.int .i64 i) ∧ w'.cell? ⟨w.heap.size + 1, 1, none⟩ = some (.slice a1 n c1) ∧ w'.cell? ⟨w.heap.size + 1, 2, none⟩ = some (.slice a2 m c2)) (first | assumption | (refine ⟨?_, ?_, ?_, ?_, ?_⟩ <;> first | assumption | go_keep | (rw [World.cell?_setCell_other (h := by simp), World.cell?_setCell_other (h := by simp)]; assumption)))
            (first | (go_at_call 10; (with_reducible refine (moved_c a1 a2 c1 c2 n m f i _ _ hn hm).mono ?_); rintro e w3 ⟨rfl, hb3⟩; have hx3 : Below V.heap.size V w3 := bthen hV0 hb3; have kk := K.out _ hx3; obtain ⟨⟨x0', x1'⟩, ⟨y0', y1', y2'⟩, ⟨z0', z1'⟩, g0', g1'⟩ := kk)
                   | (go_at_call 10; (with_reducible refine (moved_c a1 a2 c1 c2 n m t i _ _ hn hm).mono ?_); rintro e w4 ⟨rfl, hb4⟩; have hx4 : Below V.heap.size V w4 := bthen hx3 hb4; have kk := K.out _ hx4; obtain ⟨⟨x0'', x1''⟩, ⟨y0'', y1'', y2''⟩, ⟨z0'', z1''⟩, g0'', g1''⟩ := kk))
          go_wp2
          refine bodyPost_ret (v := .agg #[.int .i64 (mvG f i n m false), .int .i64 (mvG t i n m true)]) (by simp [results, Try.results12, go_sem, z0'', z1'']) rfl ⟨by rw [HS.out.1, HS.out.2]; rfl, ?_⟩
          have hz : w.heap.size ≤ w.heap.size + 1 + 1 := by omega
          exact ((hbV.trans (hx4.mono hbV.size)).setCell hz _).setCell hz _
        · have HS := hid (spF_how (n := n) (m := m) (a := i) hF hT (show (0 : Int) ≤ 1 ∧ (1 : Int) ≤ 2 by omega))
          clear hF hT hI
          go_enter Try.func12, Try.ntmps12
          go_upto_region 1 with fail
          rw [← hV]; clear hV
          have hV0 : Below V.heap.size V V.drew := (Below.refl _ _).drew
          go_upto_region 3 with (first | (go_at_call 19; (with_reducible refine (far_v _ _ F0.out).mono ?_); rintro e w' ⟨rfl, rfl⟩) | (go_at_call 19; (with_reducible refine (far_v _ _ T0.out).mono ?_); rintro e w' ⟨rfl, rfl⟩) | (go_at_call 19; (with_reducible refine (far_v _ _ I0.out).mono ?_); rintro e w' ⟨rfl, rfl⟩))
          go_region_held3 (fun w' => w'.cell? ⟨w.heap.size, 0, none⟩ = some (.int .i64 f) ∧ w'.cell? ⟨w.heap.size, 1, none⟩ = some (.int .i64 t) ∧ w'.cell? ⟨w.heap.size + 1, 0, none⟩ = some (.int .i64 i) ∧ w'.cell? ⟨w.heap.size + 1, 1, none⟩ = some (.slice a1 n c1) ∧ w'.cell? ⟨w.heap.size + 1, 2, none⟩ = some (.slice a2 m c2)) (first | assumption | (refine ⟨?_, ?_, ?_, ?_, ?_⟩ <;> first | assumption | go_keep | (rw [World.cell?_setCell_other (h := by simp), World.cell?_setCell_other (h := by simp)]; assumption)))
            (first | (go_at_call 10; (with_reducible refine (moved_c a1 a2 c1 c2 n m f i _ _ hn hm).mono ?_); rintro e w3 ⟨rfl, hb3⟩; have hx3 : Below V.heap.size V w3 := bthen hV0 hb3; have kk := K.out _ hx3; obtain ⟨⟨x0', x1'⟩, ⟨y0', y1', y2'⟩, ⟨z0', z1'⟩, g0', g1'⟩ := kk)
                   | (go_at_call 10; (with_reducible refine (moved_c a1 a2 c1 c2 n m t i _ _ hn hm).mono ?_); rintro e w4 ⟨rfl, hb4⟩; have hx4 : Below V.heap.size V w4 := bthen hx3 hb4; have kk := K.out _ hx4; obtain ⟨⟨x0'', x1''⟩, ⟨y0'', y1'', y2''⟩, ⟨z0'', z1''⟩, g0'', g1''⟩ := kk))
          go_wp2
          refine bodyPost_ret (v := .agg #[.int .i64 (mvG f i n m false), .int .i64 (mvG t i n m false)]) (by simp [results, Try.results12, go_sem, z0'', z1'']) rfl ⟨by rw [HS.out.1, HS.out.2]; rfl, ?_⟩
          have hz : w.heap.size ≤ w.heap.size + 1 + 1 := by omega
          exact ((hbV.trans (hx4.mono hbV.size)).setCell hz _).setCell hz _
        · have HS := hid (spF_how (n := n) (m := m) (a := i) hF hT (show (0 : Int) ≤ 2 ∧ (2 : Int) ≤ 2 by omega))
          clear hF hT hI
          go_enter Try.func12, Try.ntmps12
          go_upto_region 1 with fail
          rw [← hV]; clear hV
          have hV0 : Below V.heap.size V V.drew := (Below.refl _ _).drew
          go_upto_region 3 with (first | (go_at_call 19; (with_reducible refine (far_v _ _ F0.out).mono ?_); rintro e w' ⟨rfl, rfl⟩) | (go_at_call 19; (with_reducible refine (far_v _ _ T0.out).mono ?_); rintro e w' ⟨rfl, rfl⟩) | (go_at_call 19; (with_reducible refine (far_v _ _ I0.out).mono ?_); rintro e w' ⟨rfl, rfl⟩))
          go_region_held3 (fun w' => w'.cell? ⟨w.heap.size, 0, none⟩ = some (.int .i64 f) ∧ w'.cell? ⟨w.heap.size, 1, none⟩ = some (.int .i64 t) ∧ w'.cell? ⟨w.heap.size + 1, 0, none⟩ = some (.int .i64 i) ∧ w'.cell? ⟨w.heap.size + 1, 1, none⟩ = some (.slice a1 n c1) ∧ w'.cell? ⟨w.heap.size + 1, 2, none⟩ = some (.slice a2 m c2)) (first | assumption | (refine ⟨?_, ?_, ?_, ?_, ?_⟩ <;> first | assumption | go_keep | (rw [World.cell?_setCell_other (h := by simp), World.cell?_setCell_other (h := by simp)]; assumption)))
            (first | (go_at_call 10; (with_reducible refine (moved_c a1 a2 c1 c2 n m f i _ _ hn hm).mono ?_); rintro e w3 ⟨rfl, hb3⟩; have hx3 : Below V.heap.size V w3 := bthen hV0 hb3; have kk := K.out _ hx3; obtain ⟨⟨x0', x1'⟩, ⟨y0', y1', y2'⟩, ⟨z0', z1'⟩, g0', g1'⟩ := kk)
                   | (go_at_call 10; (with_reducible refine (moved_c a1 a2 c1 c2 n m t i _ _ hn hm).mono ?_); rintro e w4 ⟨rfl, hb4⟩; have hx4 : Below V.heap.size V w4 := bthen hx3 hb4; have kk := K.out _ hx4; obtain ⟨⟨x0'', x1''⟩, ⟨y0'', y1'', y2''⟩, ⟨z0'', z1''⟩, g0'', g1''⟩ := kk))
          go_wp2
          refine bodyPost_ret (v := .agg #[.int .i64 (mvG f i n m true), .int .i64 (mvG t i n m true)]) (by simp [results, Try.results12, go_sem, z0'', z1'']) rfl ⟨by rw [HS.out.1, HS.out.2]; rfl, ?_⟩
          have hz : w.heap.size ≤ w.heap.size + 1 + 1 := by omega
          exact ((hbV.trans (hx4.mono hbV.size)).setCell hz _).setCell hz _
        · have h9 : True := trivial
          have HS := hid (spF_out (f := f) (t := t) (n := n) (m := m) (a := i) (how := how) (.inr (.inr (.inr (.inl hh)))))
          clear hF hT hI h9
          go_enter Try.func12, Try.ntmps12
          go_upto_region 1 with fail
          rw [← hV]; clear hV
          go_wp2_with (first | (go_at_call 19; (with_reducible refine (far_v _ _ F0.out).mono ?_); rintro e w' ⟨rfl, rfl⟩) | (go_at_call 19; (with_reducible refine (far_v _ _ T0.out).mono ?_); rintro e w' ⟨rfl, rfl⟩) | (go_at_call 19; (with_reducible refine (far_v _ _ I0.out).mono ?_); rintro e w' ⟨rfl, rfl⟩))
          refine bodyPost_ret (v := .agg #[.int .i64 f, .int .i64 t]) (by simp [results, Try.results12, go_sem, z0, z1]) rfl ⟨by rw [HS.out.1, HS.out.2], ?_⟩
          have hz : w.heap.size ≤ w.heap.size + 1 + 1 := by omega
          exact (hbV.setCell hz _).setCell hz _
        · have h9 : True := trivial
          have HS := hid (spF_out (f := f) (t := t) (n := n) (m := m) (a := i) (how := how) (.inr (.inr (.inr (.inr hh)))))
          clear hF hT hI h9
          go_enter Try.func12, Try.ntmps12
          go_upto_region 1 with fail
          rw [← hV]; clear hV
          go_wp2_with (first | (go_at_call 19; (with_reducible refine (far_v _ _ F0.out).mono ?_); rintro e w' ⟨rfl, rfl⟩) | (go_at_call 19; (with_reducible refine (far_v _ _ T0.out).mono ?_); rintro e w' ⟨rfl, rfl⟩) | (go_at_call 19; (with_reducible refine (far_v _ _ I0.out).mono ?_); rintro e w' ⟨rfl, rfl⟩))
          refine bodyPost_ret (v := .agg #[.int .i64 f, .int .i64 t]) (by simp [results, Try.results12, go_sem, z0, z1]) rfl ⟨by rw [HS.out.1, HS.out.2], ?_⟩
          have hz : w.heap.size ≤ w.heap.size + 1 + 1 := by omega
          exact (hbV.setCell hz _).setCell hz _
      · have I0 := hid hI
        have HS := hid (spF_out (f := f) (t := t) (n := n) (m := m) (a := i) (how := how) (.inr (.inr (.inl hI))))
        clear hF hT hI
        go_enter Try.func12, Try.ntmps12
        go_upto_region 1 with fail
        rw [← hV]; clear hV
        go_wp2_with (first | (go_at_call 19; (with_reducible refine (far_v _ _ F0.out).mono ?_); rintro e w' ⟨rfl, rfl⟩) | (go_at_call 19; (with_reducible refine (far_v _ _ T0.out).mono ?_); rintro e w' ⟨rfl, rfl⟩) | (go_at_call 19; (with_reducible refine (far_v _ _ I0.out).mono ?_); rintro e w' ⟨rfl, rfl⟩))
        refine bodyPost_ret (v := .agg #[.int .i64 f, .int .i64 t]) (by simp [results, Try.results12, go_sem, z0, z1]) rfl ⟨by rw [HS.out.1, HS.out.2], ?_⟩
        have hz : w.heap.size ≤ w.heap.size + 1 + 1 := by omega
        exact (hbV.setCell hz _).setCell hz _
    · have T0 := hid hT
      have HS := hid (spF_out (f := f) (t := t) (n := n) (m := m) (a := i) (how := how) (.inr (.inl hT)))
      clear hF hT
      go_enter Try.func12, Try.ntmps12
      go_upto_region 1 with fail
      rw [← hV]; clear hV
      go_wp2_with (first | (go_at_call 19; (with_reducible refine (far_v _ _ F0.out).mono ?_); rintro e w' ⟨rfl, rfl⟩) | (go_at_call 19; (with_reducible refine (far_v _ _ T0.out).mono ?_); rintro e w' ⟨rfl, rfl⟩))
      refine bodyPost_ret (v := .agg #[.int .i64 f, .int .i64 t]) (by simp [results, Try.results12, go_sem, z0, z1]) rfl ⟨by rw [HS.out.1, HS.out.2], ?_⟩
      have hz : w.heap.size ≤ w.heap.size + 1 + 1 := by omega
      exact (hbV.setCell hz _).setCell hz _
  · have F0 := hid hF
    have HS := hid (spF_out (f := f) (t := t) (n := n) (m := m) (a := i) (how := how) (.inl hF))
    clear hF
    go_enter Try.func12, Try.ntmps12
    go_upto_region 1 with fail
    rw [← hV]; clear hV
    go_wp2_with (first | (go_at_call 19; (with_reducible refine (far_v _ _ F0.out).mono ?_); rintro e w' ⟨rfl, rfl⟩))
    refine bodyPost_ret (v := .agg #[.int .i64 f, .int .i64 t]) (by simp [results, Try.results12, go_sem, z0, z1]) rfl ⟨by rw [HS.out.1, HS.out.2], ?_⟩
    have hz : w.heap.size ≤ w.heap.size + 1 + 1 := by omega
    exact (hbV.setCell hz _).setCell hz _
end Go.Proofs.Ythciodfkhgpegaa
