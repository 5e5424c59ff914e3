/- The walk of GravityBack. -/
import Derived.Test.YthciodfkhgpegaaGrd
import Derived.Test.YthciodfkhgpegaaKeepR
namespace Go.Proofs.Ythciodfkhgpegaa
open Go.RowKit

theorem index_z (k z : Int) (n : Nat) (w : World) (hz : z = n) (hn : 0 < n) (hn2 : n ≤ 1000000) :
    Calls Try.prog 16 #[.int .i64 k, .int .i64 z] w fun e w' => (∃ i : Nat, i < n ∧ e = .returned (.int .i64 i)) ∧ w = w' := by subst hz; exact index_c k n w hn hn2
theorem box_kept {w V : World} {i C P : Value} {g : Nat} {e : TypeId} (hg : g = w.heap.size) (hV : V = w.alloc (.cells #[i, C, P] e)) :
    ∀ w', Below V.heap.size V w' → w'.cell? ⟨g, 0, none⟩ = some i ∧ w'.cell? ⟨g, 1, none⟩ = some C ∧ w'.cell? ⟨g, 2, none⟩ = some P := by
  subst hg hV
  intro w' hb
  have hk : Kpt (fun _ => False) _ w' := Kpt.of hb
  exact ⟨hk.cell (by go_simp) id, hk.cell (by go_simp) id, hk.cell (by go_simp) id⟩
set_option maxRecDepth 20000 in
set_option maxHeartbeats 4000000 in
theorem back_w (a2 a3 : Option Addr) (c2 c3 n m : Nat) (x0 x1 : Int) (r b : Bool) (W : World) (hn : n ≤ 1048576) (hm : m ≤ 1048576) :
    Calls Try.prog 5 #[.int .i64 x0, .int .i64 x1, .slice a2 n c2, .slice a3 m c3, .bool r, .bool b] W fun e w' => e = .returned (.bool true) ∧ Below W.heap.size W w' := by
  go_enter Try.func5, Try.ntmps5
  go_wp2_with fail
  refine (index_z x0 1000 1000 W rfl (by omega) (by omega)).mono ?_
  rintro e w' ⟨⟨i, hi, rfl⟩, rfl⟩
  obtain ⟨V, hV⟩ : ∃ V, V = W.alloc (.cells #[.int .i64 (i : Int), .slice a2 n c2, .slice a3 m c3] 24) := ⟨_, rfl⟩
  have hx : Below W.heap.size W V := by subst hV; (repeat' (first | exact Below.refl _ _ | assumption | refine bdrewN ?_ _ | refine Below.drew ?_ | refine bal ?_ _ | refine bthen ?_ (by assumption)))
  have hv : Below V.heap.size V V := Below.refl _ _
  have hk := box_kept rfl hV
  have K := hid hk
  obtain ⟨y0, y1, y2⟩ := hk V hv
  clear hk
  go_upto_region 2 with fail
  rw [← hV]; clear hV
  go_wp2_with fail
  refine (index_z x1 3000 3000 V rfl (by omega) (by omega)).mono ?_
  rintro e w' ⟨⟨p, hp, rfl⟩, rfl⟩
  by_cases ho : p < i ∨ i + n < p
  · obtain ⟨e1, e2⟩ := mvG_back (x := p) (a := i) (n := n) (m := m) (r := r) (b := b) (by omega) (by omega) (by omega) (by omega) (by omega)
    generalize hq : mvG p i n m r = q at e1 e2
    have e3 : (q < i ∧ p < i) ∨ (i ≤ q ∧ i + n < p) := by
      rcases ho with ho | ho
      · exact .inl ⟨e2.2 (by omega), ho⟩
      · refine .inr ⟨?_, ho⟩
        have : ¬ (q < i) := fun h => by have := e2.1 h; omega
        omega
    clear e2 ho
    rcases e3 with ⟨e3, ho⟩ | ⟨e3, ho⟩
    all_goals
      go_wp2_with fail
      refine (place_v V (by omega) (by omega) hq).mono ?_
      rintro e w1 ⟨rfl, hb1⟩
      have hv1 := bthen hv hb1
      have kk := K.out _ hv1
      obtain ⟨y0, y1, y2⟩ := kk
      clear hq hb1 hv
      go_wp2_with fail
      refine (place_v w1 (by omega) (by omega) e1).mono ?_
      rintro e w2 ⟨rfl, hb2⟩
      have hv2 := bthen hv1 hb2
      have kk := K.out _ hv2
      obtain ⟨y0, y1, y2⟩ := kk
      clear hb2 hv1 e1
      go_wp2_with (refine (known_c w2).mono ?_; rintro e w3 ⟨rfl, hb⟩)
      go_ret
      exact ⟨rfl, bthen hx (bthen hv2 hb)⟩
  · have o1 : i ≤ p ∧ p ≤ i + n := by omega
    clear ho
    go_wp2_with (refine (known_c V).mono ?_; rintro e w1 ⟨rfl, hb⟩)
    go_ret
    exact ⟨rfl, bthen hx hb⟩
end Go.Proofs.Ythciodfkhgpegaa
