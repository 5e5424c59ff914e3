/- standishlaw6: known. -/
import Derived.Test.YthciodfkhgpegaaGrc
namespace Go.Proofs.Ythciodfkhgpegaa
open Go.RowKit

theorem kg_1 : mvG 3 3 (0 : Nat) (2 : Nat) true = 5 := by decide
theorem kg_2 : mvG 3 3 (0 : Nat) (2 : Nat) false = 3 := by decide
theorem kg_3 : mvG 4 1 (3 : Nat) (1 : Nat) false = 2 := by decide
theorem kg_4 : mvG 2 1 (3 : Nat) (1 : Nat) true = 2 := by decide
theorem kg_5 : mvG 2 1 (3 : Nat) (1 : Nat) false = 1 := by decide
theorem kg_6 : spF 3 3 3 (0 : Nat) (2 : Nat) 0 = 3 ∧ spT 3 3 3 (0 : Nat) (2 : Nat) 0 = 5 := by decide
theorem kg_7 : spF 3 3 3 (0 : Nat) (2 : Nat) 2 = 5 ∧ spT 3 3 3 (0 : Nat) (2 : Nat) 2 = 5 := by decide
theorem kg_8 : spF 3 3 3 (0 : Nat) (2 : Nat) 1 = 3 ∧ spT 3 3 3 (0 : Nat) (2 : Nat) 1 = 3 := by decide
theorem span_v {x y : Int} (a1 a2 : Option Addr) (c1 c2 n m : Nat) (f t i how : Int) (w : World) (hn : n ≤ 35184372088832) (hm : m ≤ 35184372088832) (h : spF f t i n m how = x ∧ spT f t i n m how = y) :
    Calls Try.prog 11 #[.agg #[.int .i64 f, .int .i64 t], .agg #[.int .i64 i, .slice a1 n c1, .slice a2 m c2], .int .i64 how] w fun e w' => e = .returned (.agg #[.int .i64 x, .int .i64 y]) ∧ Below w.heap.size w w' := by
  obtain ⟨rfl, rfl⟩ := h; exact span_c a1 a2 c1 c2 n m f t i how w hn hm
set_option maxRecDepth 20000 in
set_option maxHeartbeats 4000000 in
theorem known_c (w : World) : Calls Try.prog 14 #[] w fun e w' => e = .returned (.bool true) ∧ Below w.heap.size w w' := by
  obtain ⟨V, hV⟩ : ∃ V, V = ((((w.alloc (.cells #[.int .i32 120, .int .i32 121] 21)).alloc (.cells #[.int .i64 3, .slice none 0 0, .slice (some ⟨w.heap.size, 0, none⟩) 2 2] 24)).alloc (.cells #[.int .i32 97, .int .i32 98, .int .i32 99] 21)).alloc (.cells #[.int .i32 122] 21)).alloc
    (.cells #[.int .i64 1, .slice (some ⟨w.heap.size + 1 + 1, 0, none⟩) 3 3, .slice (some ⟨w.heap.size + 1 + 1 + 1, 0, none⟩) 1 1] 24) := ⟨_, rfl⟩
  have hx : Below w.heap.size w V := by subst hV; (repeat' (first | exact Below.refl _ _ | assumption | refine bdrewN ?_ _ | refine Below.drew ?_ | refine bal ?_ _ | refine bthen ?_ (by assumption)))
  have hv : Below V.heap.size V V := Below.refl _ _
  have hk : ∀ w', Below V.heap.size V w' →
      (w'.cell? ⟨w.heap.size + 1, 0, none⟩ = some (.int .i64 3) ∧ w'.cell? ⟨w.heap.size + 1, 1, none⟩ = some (.slice none 0 0) ∧ w'.cell? ⟨w.heap.size + 1, 2, none⟩ = some (.slice (some ⟨w.heap.size, 0, none⟩) 2 2)) ∧
      (w'.cell? ⟨w.heap.size + 1 + 1 + 1 + 1, 0, none⟩ = some (.int .i64 1) ∧ w'.cell? ⟨w.heap.size + 1 + 1 + 1 + 1, 1, none⟩ = some (.slice (some ⟨w.heap.size + 1 + 1, 0, none⟩) 3 3) ∧ w'.cell? ⟨w.heap.size + 1 + 1 + 1 + 1, 2, none⟩ = some (.slice (some ⟨w.heap.size + 1 + 1 + 1, 0, none⟩) 1 1)) := by
    subst hV
    intro w' hb
    have hk : Kpt (fun _ => False) _ w' := Kpt.of hb
    exact ⟨⟨hk.cell (by go_simp) id, hk.cell (by go_simp) id, hk.cell (by go_simp) id⟩, hk.cell (by go_simp) id, hk.cell (by go_simp) id, hk.cell (by go_simp) id⟩
  have K := hid hk
  obtain ⟨⟨x0, x1, x2⟩, y0, y1, y2⟩ := hk V hv
  clear hk
  go_enter Try.func14, Try.ntmps14
  go_upto_region 3 with fail
  rw [← hV]; clear hV
  go_wp2_with (first
    | (go_at_call 9; (with_reducible refine (place_v _ (by omega) (by omega) kg_1).mono ?_); rintro e w1 ⟨rfl, hb⟩; have hv := bthen hv hb; clear hb; have kk := K.out _ hv; obtain ⟨⟨x0, x1, x2⟩, y0, y1, y2⟩ := kk)
    | (go_at_call 9; (with_reducible refine (place_v _ (by omega) (by omega) kg_2).mono ?_); rintro e w1 ⟨rfl, hb⟩; have hv := bthen hv hb; clear hb; have kk := K.out _ hv; obtain ⟨⟨x0, x1, x2⟩, y0, y1, y2⟩ := kk)
    | (go_at_call 9; (with_reducible refine (place_v _ (by omega) (by omega) kg_3).mono ?_); rintro e w1 ⟨rfl, hb⟩; have hv := bthen hv hb; clear hb; have kk := K.out _ hv; obtain ⟨⟨x0, x1, x2⟩, y0, y1, y2⟩ := kk)
    | (go_at_call 9; (with_reducible refine (place_v _ (by omega) (by omega) kg_4).mono ?_); rintro e w1 ⟨rfl, hb⟩; have hv := bthen hv hb; clear hb; have kk := K.out _ hv; obtain ⟨⟨x0, x1, x2⟩, y0, y1, y2⟩ := kk)
    | (go_at_call 9; (with_reducible refine (place_v _ (by omega) (by omega) kg_5).mono ?_); rintro e w1 ⟨rfl, hb⟩; have hv := bthen hv hb; clear hb; have kk := K.out _ hv; obtain ⟨⟨x0, x1, x2⟩, y0, y1, y2⟩ := kk)
    | (go_at_call 11; (with_reducible refine (span_v _ _ _ _ _ _ _ _ _ _ _ (by omega) (by omega) kg_6).mono ?_); rintro e w1 ⟨rfl, hb⟩; have hv := bthen hv hb; clear hb; have kk := K.out _ hv; obtain ⟨⟨x0, x1, x2⟩, y0, y1, y2⟩ := kk)
    | (go_at_call 11; (with_reducible refine (span_v _ _ _ _ _ _ _ _ _ _ _ (by omega) (by omega) kg_7).mono ?_); rintro e w1 ⟨rfl, hb⟩; have hv := bthen hv hb; clear hb; have kk := K.out _ hv; obtain ⟨⟨x0, x1, x2⟩, y0, y1, y2⟩ := kk)
    | (go_at_call 11; (with_reducible refine (span_v _ _ _ _ _ _ _ _ _ _ _ (by omega) (by omega) kg_8).mono ?_); rintro e w1 ⟨rfl, hb⟩; have hv := bthen hv hb; clear hb; have kk := K.out _ hv; obtain ⟨⟨x0, x1, x2⟩, y0, y1, y2⟩ := kk))
  go_ret
  exact ⟨rfl, bthen hx hv⟩
end Go.Proofs.Ythciodfkhgpegaa
