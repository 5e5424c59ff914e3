/- gravity.Span and the document's own answer for it. -/
import Derived.Test.YthciodfkhgpegaaGra
import Derived.Deep.RegionHeld3
namespace Go.Proofs.Ythciodfkhgpegaa
open Go.RowKit

theorem spF_how {f t a n m how : Int} (hf : farG f = false) (ht : farG t = false) (h : 0 ≤ how ∧ how ≤ 2) : spF f t a n m how = mvG f a n m (decide (how = 2)) ∧ spT f t a n m how = mvG t a n m (decide (how ≠ 1)) := by
  cases ha : farG a
  · simp only [spF, spT]
    rw [if_neg (by simp [hf, ht, ha]; omega), if_neg (by simp [hf, ht, ha]; omega)]
    exact ⟨rfl, rfl⟩
  · simp only [spF, spT]
    rw [if_pos (by simp [ha]), if_pos (by simp [ha]), mvG_far (.inr ha), mvG_far (.inr ha)]
    exact ⟨rfl, rfl⟩
theorem spF_out {f t a n m how : Int} (h : farG f = true ∨ farG t = true ∨ farG a = true ∨ how < 0 ∨ 2 < how) : spF f t a n m how = f ∧ spT f t a n m how = t := by
  simp only [spF, spT]
  rw [if_pos h, if_pos h]; exact ⟨rfl, rfl⟩
def SpE (f t i : Int) (n m : Nat) (how : Int) (w : World) (e : Ending) (w' : World) : Prop :=
  e = .returned (.agg #[.int .i64 (spF f t i n m how), .int .i64 (spT f t i n m how)]) ∧ Below w.heap.size w w'

/-- the three boxes of a span's walk -/
theorem span_boxes {w V : World} {f t i : Int} {C P : Value}
    (hV : V = ((w.alloc (.cells #[.int .i64 f, .int .i64 t] 26)).alloc (.cells #[.int .i64 i, C, P] 24)).alloc (.cells #[.int .i64 0, .int .i64 0] 26)) :
    Below w.heap.size w V ∧ (∀ w', Below V.heap.size V w' →
      (w'.cell? ⟨w.heap.size, 0, none⟩ = some (.int .i64 f) ∧ w'.cell? ⟨w.heap.size, 1, none⟩ = some (.int .i64 t)) ∧
      (w'.cell? ⟨w.heap.size + 1, 0, none⟩ = some (.int .i64 i) ∧ w'.cell? ⟨w.heap.size + 1, 1, none⟩ = some C ∧ w'.cell? ⟨w.heap.size + 1, 2, none⟩ = some P) ∧
      (w'.cell? ⟨w.heap.size + 2, 0, none⟩ = some (.int .i64 0) ∧ w'.cell? ⟨w.heap.size + 2, 1, none⟩ = some (.int .i64 0)) ∧
      (w'.frozen? ⟨w.heap.size + 2, 0, none⟩ = false ∧ w'.frozen? ⟨w.heap.size + 2, 1, none⟩ = false)) := by
  subst hV
  refine ⟨by (repeat' (first | exact Below.refl _ _ | assumption | refine bdrewN ?_ _ | refine Below.drew ?_ | refine bal ?_ _ | refine bthen ?_ (by assumption))), fun w' hb => ?_⟩
  have hk : Kpt (fun _ => False) _ w' := Kpt.of hb
  exact ⟨⟨hk.cell (by go_simp) id, hk.cell (by go_simp) id⟩, ⟨hk.cell (by go_simp) id, hk.cell (by go_simp) id, hk.cell (by go_simp) id⟩, ⟨hk.cell (by go_simp) id, hk.cell (by go_simp) id⟩, (hk.frozen (by simp) id).trans (by go_simp), (hk.frozen (by simp) id).trans (by go_simp)⟩

set_option maxRecDepth 20000 in
set_option maxHeartbeats 4000000 in
theorem span_c (a1 a2 : Option Addr) (c1 c2 n m : Nat) (f t i how : Int) (w : World) (hn : n ≤ 35184372088832) (hm : m ≤ 35184372088832) :
    Calls Try.prog 11 #[.agg #[.int .i64 f, .int .i64 t], .agg #[.int .i64 i, .slice a1 n c1, .slice a2 m c2], .int .i64 how] w (SpE f t i n m how w) := by
  obtain ⟨V, hV⟩ : ∃ V, V = ((w.alloc (.cells #[.int .i64 f, .int .i64 t] 26)).alloc (.cells #[.int .i64 i, .slice a1 n c1, .slice a2 m c2] 24)).alloc (.cells #[.int .i64 0, .int .i64 0] 26) := ⟨_, rfl⟩
  obtain ⟨hbV, hK⟩ := span_boxes hV
  have K := hid hK
  obtain ⟨⟨x0, x1⟩, ⟨y0, y1, y2⟩, ⟨z0, z1⟩, g0, g1⟩ := hK V (Below.refl _ _)
  clear hK
  by_cases hF : farG f = true ∨ farG t = true
  · have HS := hid (spF_out (f := f) (t := t) (n := n) (m := m) (a := i) (how := how) (by rcases hF with h | h <;> simp [h]))
    cases e1 : farG f
    · have F0 := hid (show (!farG f) = true by simp [e1])
      have T0 := hid (show (!farG t) = false by rcases hF with h | h <;> simp_all)
      clear hF e1
      go_enter Try.func11, Try.ntmps11
      go_upto_region 1 with fail
      rw [← hV]; clear hV
      go_wp2_with (first | (go_at_call 18; (with_reducible refine (movable_v _ _ F0.out).mono ?_); rintro e w' ⟨rfl, rfl⟩) | (go_at_call 18; (with_reducible refine (movable_v _ _ T0.out).mono ?_); rintro e w' ⟨rfl, rfl⟩))
      refine bodyPost_ret (v := .agg #[.int .i64 f, .int .i64 t]) (by simp [results, Try.results11, go_sem, z0, z1]) rfl ⟨by rw [HS.out.1, HS.out.2], ?_⟩
      have hz : w.heap.size ≤ w.heap.size + 1 + 1 := by omega
      exact (hbV.setCell hz _).setCell hz _
    · have F0 := hid (show (!farG f) = false by simp [e1])
      clear hF e1
      go_enter Try.func11, Try.ntmps11
      go_upto_region 1 with fail
      rw [← hV]; clear hV
      go_wp2_with (first | (go_at_call 18; (with_reducible refine (movable_v _ _ F0.out).mono ?_); rintro e w' ⟨rfl, rfl⟩))
      refine bodyPost_ret (v := .agg #[.int .i64 f, .int .i64 t]) (by simp [results, Try.results11, go_sem, z0, z1]) rfl ⟨by rw [HS.out.1, HS.out.2], ?_⟩
      have hz : w.heap.size ≤ w.heap.size + 1 + 1 := by omega
      exact (hbV.setCell hz _).setCell hz _
  · simp only [not_or, Bool.not_eq_true] at hF
    have F0 := hid (show (!farG f) = true by simp [hF.1])
    have T0 := hid (show (!farG t) = true by simp [hF.2])
    rcases (show how = 0 ∨ how = 1 ∨ how = 2 ∨ (how < 0 ∨ 2 < how) by omega) with rfl | rfl | rfl | hh
    · have HS := hid (spF_how (n := n) (m := m) (a := i) hF.1 hF.2 (show (0 : Int) ≤ 0 ∧ (0 : Int) ≤ 2 by omega))
      clear hF
      go_enter Try.func11, Try.ntmps11
      go_upto_region 1 with fail
      rw [← hV]; clear hV
      have hV0 : Below V.heap.size V V.drew := (Below.refl _ _).drew
      go_upto_region 5 with (first | (go_at_call 18; (with_reducible refine (movable_v _ _ F0.out).mono ?_); rintro e w' ⟨rfl, rfl⟩) | (go_at_call 18; (with_reducible refine (movable_v _ _ T0.out).mono ?_); rintro e w' ⟨rfl, rfl⟩))
      go_region_held3 (fun w' => w'.cell? ⟨w.heap.size, 0, none⟩ = some (.int .i64 f) ∧ w'.cell? ⟨w.heap.size, 1, none⟩ = some (.int .i64 t) ∧ w'.cell? ⟨w.heap.size + 1, 0, none⟩ = some (.int .i64 i) ∧ w'.cell? ⟨w.heap.size + 1, 1, none⟩ = some (.slice a1 n c1) ∧ w'.cell? ⟨w.heap.size + 1, 2, none⟩ = some (.slice a2 m c2)) (first | assumption | (refine ⟨?_, ?_, ?_, ?_, ?_⟩ <;> first | assumption | go_keep | (rw [World.cell?_setCell_other (h := by simp), World.cell?_setCell_other (h := by simp)]; assumption)))
        (first | (go_at_call 9; (with_reducible refine (place_c a1 a2 c1 c2 n m f i _ _ hn hm).mono ?_); rintro e w3 ⟨rfl, hb3⟩; have hx3 : Below V.heap.size V w3 := bthen hV0 hb3; have kk := K.out _ hx3; obtain ⟨⟨x0', x1'⟩, ⟨y0', y1', y2'⟩, ⟨z0', z1'⟩, g0', g1'⟩ := kk)
               | (go_at_call 9; (with_reducible refine (place_c a1 a2 c1 c2 n m t i _ _ hn hm).mono ?_); rintro e w4 ⟨rfl, hb4⟩; have hx4 : Below V.heap.size V w4 := bthen hx3 hb4; have kk := K.out _ hx4; obtain ⟨⟨x0'', x1''⟩, ⟨y0'', y1'', y2''⟩, ⟨z0'', z1''⟩, g0'', g1''⟩ := kk))
      go_wp2
      refine bodyPost_ret (v := .agg #[.int .i64 (mvG f i n m false), .int .i64 (mvG t i n m true)]) (by simp [results, Try.results11, go_sem, z0'', z1'']) rfl ⟨by rw [HS.out.1, HS.out.2]; rfl, ?_⟩
      have hz : w.heap.size ≤ w.heap.size + 1 + 1 := by omega
      exact ((hbV.trans (hx4.mono hbV.size)).setCell hz _).setCell hz _
    · have HS := hid (spF_how (n := n) (m := m) (a := i) hF.1 hF.2 (show (0 : Int) ≤ 1 ∧ (1 : Int) ≤ 2 by omega))
      clear hF
      go_enter Try.func11, Try.ntmps11
      go_upto_region 1 with fail
      rw [← hV]; clear hV
      have hV0 : Below V.heap.size V V.drew := (Below.refl _ _).drew
      go_upto_region 7 with (first | (go_at_call 18; (with_reducible refine (movable_v _ _ F0.out).mono ?_); rintro e w' ⟨rfl, rfl⟩) | (go_at_call 18; (with_reducible refine (movable_v _ _ T0.out).mono ?_); rintro e w' ⟨rfl, rfl⟩))
      go_region_held3 (fun w' => w'.cell? ⟨w.heap.size, 0, none⟩ = some (.int .i64 f) ∧ w'.cell? ⟨w.heap.size, 1, none⟩ = some (.int .i64 t) ∧ w'.cell? ⟨w.heap.size + 1, 0, none⟩ = some (.int .i64 i) ∧ w'.cell? ⟨w.heap.size + 1, 1, none⟩ = some (.slice a1 n c1) ∧ w'.cell? ⟨w.heap.size + 1, 2, none⟩ = some (.slice a2 m c2)) (first | assumption | (refine ⟨?_, ?_, ?_, ?_, ?_⟩ <;> first | assumption | go_keep | (rw [World.cell?_setCell_other (h := by simp), World.cell?_setCell_other (h := by simp)]; assumption)))
        (first | (go_at_call 9; (with_reducible refine (place_c a1 a2 c1 c2 n m f i _ _ hn hm).mono ?_); rintro e w3 ⟨rfl, hb3⟩; have hx3 : Below V.heap.size V w3 := bthen hV0 hb3; have kk := K.out _ hx3; obtain ⟨⟨x0', x1'⟩, ⟨y0', y1', y2'⟩, ⟨z0', z1'⟩, g0', g1'⟩ := kk)
               | (go_at_call 9; (with_reducible refine (place_c a1 a2 c1 c2 n m t i _ _ hn hm).mono ?_); rintro e w4 ⟨rfl, hb4⟩; have hx4 : Below V.heap.size V w4 := bthen hx3 hb4; have kk := K.out _ hx4; obtain ⟨⟨x0'', x1''⟩, ⟨y0'', y1'', y2''⟩, ⟨z0'', z1''⟩, g0'', g1''⟩ := kk))
      go_wp2
      refine bodyPost_ret (v := .agg #[.int .i64 (mvG f i n m false), .int .i64 (mvG t i n m false)]) (by simp [results, Try.results11, go_sem, z0'', z1'']) rfl ⟨by rw [HS.out.1, HS.out.2]; rfl, ?_⟩
      have hz : w.heap.size ≤ w.heap.size + 1 + 1 := by omega
      exact ((hbV.trans (hx4.mono hbV.size)).setCell hz _).setCell hz _
    · have HS := hid (spF_how (n := n) (m := m) (a := i) hF.1 hF.2 (show (0 : Int) ≤ 2 ∧ (2 : Int) ≤ 2 by omega))
      clear hF
      go_enter Try.func11, Try.ntmps11
      go_upto_region 1 with fail
      rw [← hV]; clear hV
      have hV0 : Below V.heap.size V V.drew := (Below.refl _ _).drew
      go_upto_region 9 with (first | (go_at_call 18; (with_reducible refine (movable_v _ _ F0.out).mono ?_); rintro e w' ⟨rfl, rfl⟩) | (go_at_call 18; (with_reducible refine (movable_v _ _ T0.out).mono ?_); rintro e w' ⟨rfl, rfl⟩))
      go_region_held3 (fun w' => w'.cell? ⟨w.heap.size, 0, none⟩ = some (.int .i64 f) ∧ w'.cell? ⟨w.heap.size, 1, none⟩ = some (.int .i64 t) ∧ w'.cell? ⟨w.heap.size + 1, 0, none⟩ = some (.int .i64 i) ∧ w'.cell? ⟨w.heap.size + 1, 1, none⟩ = some (.slice a1 n c1) ∧ w'.cell? ⟨w.heap.size + 1, 2, none⟩ = some (.slice a2 m c2)) (first | assumption | (refine ⟨?_, ?_, ?_, ?_, ?_⟩ <;> first | assumption | go_keep | (rw [World.cell?_setCell_other (h := by simp), World.cell?_setCell_other (h := by simp)]; assumption)))
        (first | (go_at_call 9; (with_reducible refine (place_c a1 a2 c1 c2 n m f i _ _ hn hm).mono ?_); rintro e w3 ⟨rfl, hb3⟩; have hx3 : Below V.heap.size V w3 := bthen hV0 hb3; have kk := K.out _ hx3; obtain ⟨⟨x0', x1'⟩, ⟨y0', y1', y2'⟩, ⟨z0', z1'⟩, g0', g1'⟩ := kk)
               | (go_at_call 9; (with_reducible refine (place_c a1 a2 c1 c2 n m t i _ _ hn hm).mono ?_); rintro e w4 ⟨rfl, hb4⟩; have hx4 : Below V.heap.size V w4 := bthen hx3 hb4; have kk := K.out _ hx4; obtain ⟨⟨x0'', x1''⟩, ⟨y0'', y1'', y2''⟩, ⟨z0'', z1''⟩, g0'', g1''⟩ := kk))
      go_wp2
      refine bodyPost_ret (v := .agg #[.int .i64 (mvG f i n m true), .int .i64 (mvG t i n m true)]) (by simp [results, Try.results11, go_sem, z0'', z1'']) rfl ⟨by rw [HS.out.1, HS.out.2]; rfl, ?_⟩
      have hz : w.heap.size ≤ w.heap.size + 1 + 1 := by omega
      exact ((hbV.trans (hx4.mono hbV.size)).setCell hz _).setCell hz _
    · have HS := hid (spF_out (f := f) (t := t) (n := n) (m := m) (a := i) (how := how) (.inr (.inr (.inr hh))))
      clear hF
      go_enter Try.func11, Try.ntmps11
      go_upto_region 1 with fail
      rw [← hV]; clear hV
      rcases hh with hh | hh
      all_goals
        go_wp2_with (first | (go_at_call 18; (with_reducible refine (movable_v _ _ F0.out).mono ?_); rintro e w' ⟨rfl, rfl⟩) | (go_at_call 18; (with_reducible refine (movable_v _ _ T0.out).mono ?_); rintro e w' ⟨rfl, rfl⟩))
        refine bodyPost_ret (v := .agg #[.int .i64 f, .int .i64 t]) (by simp [results, Try.results11, go_sem, z0, z1]) rfl ⟨by rw [HS.out.1, HS.out.2], ?_⟩
        have hz : w.heap.size ≤ w.heap.size + 1 + 1 := by omega
        exact (hbV.setCell hz _).setCell hz _
end Go.Proofs.Ythciodfkhgpegaa
