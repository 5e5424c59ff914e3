/- The walk of GravityOrders. -/
import Derived.Test.YthciodfkhgpegaaGba
import Derived.Test.YthciodfkhgpegaaCho
import Derived.Deep.DeepCutAuto
namespace Go.Proofs.Ythciodfkhgpegaa
open Go.RowKit

theorem five_alloc {w : World} {A B : Nat} {v0 v1 v2 v3 v4 : Value} {o : Obj} (h : w.cell? ⟨A, 0, none⟩ = some v0 ∧ w.cell? ⟨A, 1, none⟩ = some v1 ∧ w.cell? ⟨A, 2, none⟩ = some v2 ∧ w.cell? ⟨B, 0, none⟩ = some v3 ∧ w.cell? ⟨B, 1, none⟩ = some v4) :
    (w.alloc o).cell? ⟨A, 0, none⟩ = some v0 ∧ (w.alloc o).cell? ⟨A, 1, none⟩ = some v1 ∧ (w.alloc o).cell? ⟨A, 2, none⟩ = some v2 ∧ (w.alloc o).cell? ⟨B, 0, none⟩ = some v3 ∧ (w.alloc o).cell? ⟨B, 1, none⟩ = some v4 := by
  obtain ⟨h0, h1, h2, h3, h4⟩ := h
  exact ⟨by rw [World.cell?_alloc_some _ _ _ (by rw [h0]; rfl)]; exact h0, by rw [World.cell?_alloc_some _ _ _ (by rw [h1]; rfl)]; exact h1, by rw [World.cell?_alloc_some _ _ _ (by rw [h2]; rfl)]; exact h2, by rw [World.cell?_alloc_some _ _ _ (by rw [h3]; rfl)]; exact h3, by rw [World.cell?_alloc_some _ _ _ (by rw [h4]; rfl)]; exact h4⟩
theorem five_drew {w : World} {A B : Nat} {v0 v1 v2 v3 v4 : Value} (h : w.cell? ⟨A, 0, none⟩ = some v0 ∧ w.cell? ⟨A, 1, none⟩ = some v1 ∧ w.cell? ⟨A, 2, none⟩ = some v2 ∧ w.cell? ⟨B, 0, none⟩ = some v3 ∧ w.cell? ⟨B, 1, none⟩ = some v4) :
    w.drew.cell? ⟨A, 0, none⟩ = some v0 ∧ w.drew.cell? ⟨A, 1, none⟩ = some v1 ∧ w.drew.cell? ⟨A, 2, none⟩ = some v2 ∧ w.drew.cell? ⟨B, 0, none⟩ = some v3 ∧ w.drew.cell? ⟨B, 1, none⟩ = some v4 := h
theorem five_store {w : World} {A B X : Nat} {v0 v1 v2 v3 v4 a b : Value} (h : w.cell? ⟨A, 0, none⟩ = some v0 ∧ w.cell? ⟨A, 1, none⟩ = some v1 ∧ w.cell? ⟨A, 2, none⟩ = some v2 ∧ w.cell? ⟨B, 0, none⟩ = some v3 ∧ w.cell? ⟨B, 1, none⟩ = some v4) (n1 : X ≠ A) (n2 : X ≠ B) :
    ((w.setCell ⟨X, 0, none⟩ a).setCell ⟨X, 1, none⟩ b).cell? ⟨A, 0, none⟩ = some v0 ∧ ((w.setCell ⟨X, 0, none⟩ a).setCell ⟨X, 1, none⟩ b).cell? ⟨A, 1, none⟩ = some v1 ∧ ((w.setCell ⟨X, 0, none⟩ a).setCell ⟨X, 1, none⟩ b).cell? ⟨A, 2, none⟩ = some v2 ∧ ((w.setCell ⟨X, 0, none⟩ a).setCell ⟨X, 1, none⟩ b).cell? ⟨B, 0, none⟩ = some v3 ∧ ((w.setCell ⟨X, 0, none⟩ a).setCell ⟨X, 1, none⟩ b).cell? ⟨B, 1, none⟩ = some v4 := by
  obtain ⟨h0, h1, h2, h3, h4⟩ := h
  refine ⟨?_, ?_, ?_, ?_, ?_⟩
  all_goals (rw [World.cell?_setCell_other (h := by simp <;> omega), World.cell?_setCell_other (h := by simp <;> omega)]; assumption)
theorem pr_two {w : World} {B : Nat} {a b u0 u1 : Value} {o : Obj} (h0 : w.cell? ⟨B, 0, none⟩ = some u0) (h1 : w.cell? ⟨B, 1, none⟩ = some u1) :
    (((w.setCell ⟨B, 0, none⟩ a).setCell ⟨B, 1, none⟩ b).alloc o).cell? ⟨B, 0, none⟩ = some a ∧ (((w.setCell ⟨B, 0, none⟩ a).setCell ⟨B, 1, none⟩ b).alloc o).cell? ⟨B, 1, none⟩ = some b := by
  have e0 : ((w.setCell ⟨B, 0, none⟩ a).setCell ⟨B, 1, none⟩ b).cell? ⟨B, 0, none⟩ = some a := by
    rw [World.cell?_setCell_other (h := by simp), World.cell?_setCell_same (h := h0)]
  have e1 : ((w.setCell ⟨B, 0, none⟩ a).setCell ⟨B, 1, none⟩ b).cell? ⟨B, 1, none⟩ = some b := by
    rw [World.cell?_setCell_same (u := u1)]
    rw [World.cell?_setCell_other (h := by simp)]; exact h1
  exact ⟨by rw [World.cell?_alloc_some _ _ _ (by rw [e0]; rfl)]; exact e0, by rw [World.cell?_alloc_some _ _ _ (by rw [e1]; rfl)]; exact e1⟩
theorem pr_four {w : World} {B D : Nat} {a b c d u0 u1 v0 v1 : Value} (_h0 : w.cell? ⟨B, 0, none⟩ = some u0) (h1 : w.cell? ⟨B, 1, none⟩ = some u1) (k0 : w.cell? ⟨D, 0, none⟩ = some v0) (_k1 : w.cell? ⟨D, 1, none⟩ = some v1) (hn : B ≠ D) :
    ((((w.setCell ⟨B, 0, none⟩ a).setCell ⟨B, 1, none⟩ b).setCell ⟨D, 0, none⟩ c).setCell ⟨D, 1, none⟩ d).cell? ⟨B, 1, none⟩ = some b ∧
    ((((w.setCell ⟨B, 0, none⟩ a).setCell ⟨B, 1, none⟩ b).setCell ⟨D, 0, none⟩ c).setCell ⟨D, 1, none⟩ d).cell? ⟨D, 0, none⟩ = some c := by
  have e1 : ((w.setCell ⟨B, 0, none⟩ a).setCell ⟨B, 1, none⟩ b).cell? ⟨B, 1, none⟩ = some b := by
    rw [World.cell?_setCell_same (u := u1)]
    rw [World.cell?_setCell_other (h := by simp)]; exact h1
  have e2 : ((w.setCell ⟨B, 0, none⟩ a).setCell ⟨B, 1, none⟩ b).cell? ⟨D, 0, none⟩ = some v0 := by
    rw [World.cell?_setCell_other (h := by simp <;> omega), World.cell?_setCell_other (h := by simp <;> omega)]; exact k0
  refine ⟨?_, ?_⟩
  · rw [World.cell?_setCell_other (h := by simp <;> omega), World.cell?_setCell_other (h := by simp <;> omega)]; exact e1
  · rw [World.cell?_setCell_other (h := by simp), World.cell?_setCell_same (h := e2)]
theorem rel_four {W w : World} {a b c d : Int} {B D : Nat} (h0 : w.cell? ⟨B, 0, none⟩ = some (.int .i64 0)) (h1 : w.cell? ⟨B, 1, none⟩ = some (.int .i64 0)) (k0 : w.cell? ⟨D, 0, none⟩ = some (.int .i64 0)) (k1 : w.cell? ⟨D, 1, none⟩ = some (.int .i64 0)) (hn : B ≠ D) (hW : Below W.heap.size W w) (hB : W.heap.size ≤ B) (hD : W.heap.size ≤ D) :
    ∃ X Y : Nat, Value.pointer (some ⟨B, 0, none⟩) = .pointer (some ⟨X, 0, none⟩) ∧ Value.pointer (some ⟨D, 0, none⟩) = .pointer (some ⟨Y, 0, none⟩) ∧ (((((w.setCell ⟨B, 0, none⟩ (.int .i64 a)).setCell ⟨B, 1, none⟩ (.int .i64 b)).setCell ⟨D, 0, none⟩ (.int .i64 c)).setCell ⟨D, 1, none⟩ (.int .i64 d))).cell? ⟨X, 1, none⟩ = some (.int .i64 b) ∧ (((((w.setCell ⟨B, 0, none⟩ (.int .i64 a)).setCell ⟨B, 1, none⟩ (.int .i64 b)).setCell ⟨D, 0, none⟩ (.int .i64 c)).setCell ⟨D, 1, none⟩ (.int .i64 d))).cell? ⟨Y, 0, none⟩ = some (.int .i64 c) ∧ Below W.heap.size W (((((w.setCell ⟨B, 0, none⟩ (.int .i64 a)).setCell ⟨B, 1, none⟩ (.int .i64 b)).setCell ⟨D, 0, none⟩ (.int .i64 c)).setCell ⟨D, 1, none⟩ (.int .i64 d))) :=
  ⟨_, _, rfl, rfl, (pr_four h0 h1 k0 k1 hn).1, (pr_four h0 h1 k0 k1 hn).2, (((hW.setCell hB _).setCell hB _).setCell hD _).setCell hD _⟩
theorem rel_xy {W w : World} {a b c d : Int} {e : TypeId} (hW : Below W.heap.size W w) :
    ∃ X Y : Nat, Value.pointer (some ⟨w.heap.size, 0, none⟩) = .pointer (some ⟨X, 0, none⟩) ∧ Value.pointer (some ⟨w.heap.size + 1, 0, none⟩) = .pointer (some ⟨Y, 0, none⟩) ∧ ((w.alloc (.cells #[.int .i64 a, .int .i64 b] e)).alloc (.cells #[.int .i64 c, .int .i64 d] e)).cell? ⟨X, 1, none⟩ = some (.int .i64 b) ∧ ((w.alloc (.cells #[.int .i64 a, .int .i64 b] e)).alloc (.cells #[.int .i64 c, .int .i64 d] e)).cell? ⟨Y, 0, none⟩ = some (.int .i64 c) ∧ Below W.heap.size W ((w.alloc (.cells #[.int .i64 a, .int .i64 b] e)).alloc (.cells #[.int .i64 c, .int .i64 d] e)) := by
  refine ⟨_, _, rfl, rfl, ?_, ?_, bal (bal hW _) _⟩ <;> go_simp
theorem rel_yx {W w : World} {a b c d : Int} {e : TypeId} (hW : Below W.heap.size W w) :
    ∃ X Y : Nat, Value.pointer (some ⟨w.heap.size + 1, 0, none⟩) = .pointer (some ⟨X, 0, none⟩) ∧ Value.pointer (some ⟨w.heap.size, 0, none⟩) = .pointer (some ⟨Y, 0, none⟩) ∧ ((w.alloc (.cells #[.int .i64 c, .int .i64 d] e)).alloc (.cells #[.int .i64 a, .int .i64 b] e)).cell? ⟨X, 1, none⟩ = some (.int .i64 b) ∧ ((w.alloc (.cells #[.int .i64 c, .int .i64 d] e)).alloc (.cells #[.int .i64 a, .int .i64 b] e)).cell? ⟨Y, 0, none⟩ = some (.int .i64 c) ∧ Below W.heap.size W ((w.alloc (.cells #[.int .i64 c, .int .i64 d] e)).alloc (.cells #[.int .i64 a, .int .i64 b] e)) := by
  refine ⟨_, _, rfl, rfl, ?_, ?_, bal (bal hW _) _⟩ <;> go_simp
theorem rel_x {W w : World} {a b c d : Int} {e : TypeId} {B : Nat} (h0 : w.cell? ⟨B, 0, none⟩ = some (.int .i64 0)) (h1 : w.cell? ⟨B, 1, none⟩ = some (.int .i64 0)) (hW : Below W.heap.size W w) (hB : W.heap.size ≤ B) :
    ∃ X Y : Nat, Value.pointer (some ⟨B, 0, none⟩) = .pointer (some ⟨X, 0, none⟩) ∧ Value.pointer (some ⟨w.heap.size, 0, none⟩) = .pointer (some ⟨Y, 0, none⟩) ∧ (((w.setCell ⟨B, 0, none⟩ (.int .i64 a)).setCell ⟨B, 1, none⟩ (.int .i64 b)).alloc (.cells #[.int .i64 c, .int .i64 d] e)).cell? ⟨X, 1, none⟩ = some (.int .i64 b) ∧ (((w.setCell ⟨B, 0, none⟩ (.int .i64 a)).setCell ⟨B, 1, none⟩ (.int .i64 b)).alloc (.cells #[.int .i64 c, .int .i64 d] e)).cell? ⟨Y, 0, none⟩ = some (.int .i64 c) ∧ Below W.heap.size W (((w.setCell ⟨B, 0, none⟩ (.int .i64 a)).setCell ⟨B, 1, none⟩ (.int .i64 b)).alloc (.cells #[.int .i64 c, .int .i64 d] e)) := by
  refine ⟨_, _, rfl, rfl, (pr_two h0 h1).2, ?_, bal ((hW.setCell hB _).setCell hB _) _⟩
  rw [World.cell?_alloc_at _ _ _ _ (by simp)]; rfl
theorem rel_y {W w : World} {a b c d : Int} {e : TypeId} {B : Nat} (h0 : w.cell? ⟨B, 0, none⟩ = some (.int .i64 0)) (h1 : w.cell? ⟨B, 1, none⟩ = some (.int .i64 0)) (hW : Below W.heap.size W w) (hB : W.heap.size ≤ B) :
    ∃ X Y : Nat, Value.pointer (some ⟨w.heap.size, 0, none⟩) = .pointer (some ⟨X, 0, none⟩) ∧ Value.pointer (some ⟨B, 0, none⟩) = .pointer (some ⟨Y, 0, none⟩) ∧ (((w.setCell ⟨B, 0, none⟩ (.int .i64 c)).setCell ⟨B, 1, none⟩ (.int .i64 d)).alloc (.cells #[.int .i64 a, .int .i64 b] e)).cell? ⟨X, 1, none⟩ = some (.int .i64 b) ∧ (((w.setCell ⟨B, 0, none⟩ (.int .i64 c)).setCell ⟨B, 1, none⟩ (.int .i64 d)).alloc (.cells #[.int .i64 a, .int .i64 b] e)).cell? ⟨Y, 0, none⟩ = some (.int .i64 c) ∧ Below W.heap.size W (((w.setCell ⟨B, 0, none⟩ (.int .i64 c)).setCell ⟨B, 1, none⟩ (.int .i64 d)).alloc (.cells #[.int .i64 a, .int .i64 b] e)) := by
  refine ⟨_, _, rfl, rfl, ?_, (pr_two h0 h1).1, bal ((hW.setCell hB _).setCell hB _) _⟩
  rw [World.cell?_alloc_at _ _ _ _ (by simp)]; rfl
theorem spG_ok {p q a n m how : Int} (hp : 0 ≤ p ∧ p ≤ q) (hq : q ≤ 1000) (ha : 0 ≤ a ∧ a ≤ 500) (hn : 0 ≤ n) (hm : 0 ≤ m) (hh : 0 ≤ how ∧ how ≤ 2) : 0 ≤ spF p q a n m how ∧ spF p q a n m how ≤ spT p q a n m how := by
  have f1 := farG_no hp.1 (by omega)
  have f2 := farG_no (x := q) (by omega) (by omega)
  obtain ⟨e1, e2⟩ := spF_how (a := a) (n := n) (m := m) f1 f2 hh
  rw [e1, e2]
  refine ⟨mvG_nonneg ⟨hp.1, by omega⟩ ha hm, ?_⟩
  rcases (show how = 0 ∨ how = 1 ∨ how = 2 by omega) with rfl | rfl | rfl
  · exact Int.le_trans (mvG_mono (y := q) ⟨hp.1, by omega⟩ ⟨hp.2, hq⟩ ha hn hm) (mvG_right ⟨by omega, hq⟩ ha hm)
  · exact mvG_mono ⟨hp.1, by omega⟩ ⟨hp.2, hq⟩ ha hn hm
  · exact mvG_mono ⟨hp.1, by omega⟩ ⟨hp.2, hq⟩ ha hn hm
theorem spG_next {p q a n m : Int} (hp : 0 ≤ p ∧ p ≤ q) (hq : q ≤ 1000) (ha : 0 ≤ a ∧ a ≤ 500) (hm : 0 ≤ m) : spT p q a n m 1 ≤ spF q q a n m 2 := by
  have f1 := farG_no hp.1 (by omega)
  have f2 := farG_no (x := q) (by omega) (by omega)
  rw [(spF_how (a := a) (n := n) (m := m) f1 f2 (show (0 : Int) ≤ 1 ∧ (1 : Int) ≤ 2 by omega)).2, (spF_how (a := a) (n := n) (m := m) f2 f2 (show (0 : Int) ≤ 2 ∧ (2 : Int) ≤ 2 by omega)).1]
  exact mvG_right ⟨by omega, hq⟩ ha hm
set_option maxRecDepth 20000 in
set_option maxHeartbeats 80000000 in
theorem orders_w (a1 a2 : Option Addr) (c1 c2 n m : Nat) (i0 x1 x2 : Int) (W : World) (hn : n ≤ 35184372088832) (hm : m ≤ 35184372088832) :
    Calls Try.prog 6 #[.agg #[.int .i64 i0, .slice a1 n c1, .slice a2 m c2], .int .i64 x1, .int .i64 x2] W fun e w' => e = .returned (.bool true) ∧ Below W.heap.size W w' := by
  go_enter Try.func6, Try.ntmps6
  go_wp2_with fail
  refine (index_z i0 500 500 _ rfl (by omega) (by omega)).mono ?_
  rintro e w' ⟨⟨i, hi, rfl⟩, rfl⟩
  obtain ⟨V, hV⟩ : ∃ V, V = W.alloc (.cells #[.int .i64 (i : Int), .slice a1 n c1, .slice a2 m c2] 24) := ⟨_, rfl⟩
  have hx : Below W.heap.size W V := by subst hV; (repeat' (first | exact Below.refl _ _ | assumption | refine bdrewN ?_ _ | refine Below.drew ?_ | refine bal ?_ _ | refine bthen ?_ (by assumption)))
  have hv : Below V.heap.size V V := Below.refl _ _
  have hk := box_kept rfl hV
  have K := hid hk
  obtain ⟨y0, y1, y2⟩ := hk V hv
  clear hk
  go_upto_region 2 with fail
  rw [← hV]; clear hV
  go_wp2_with fail
  refine (index_z x1 1000 1000 _ rfl (by omega) (by omega)).mono ?_
  rintro e w' ⟨⟨p, hp, rfl⟩, rfl⟩
  go_wp2_with fail
  refine (index_z x2 1000 1000 _ rfl (by omega) (by omega)).mono ?_
  rintro e w' ⟨⟨q, hq, rfl⟩, rfl⟩
  rcases Nat.lt_or_ge q p with hpq | hpq
  · go_upto_region 5 with fail
    have m1 := mvG_right (n := n) (x := (q : Int)) (a := i) (m := m) (by omega) (by omega) (by omega)
    have m2 := mvG_right (n := n) (x := (p : Int)) (a := i) (m := m) (by omega) (by omega) (by omega)
    have m3 := mvG_mono (n := n) (x := (q : Int)) (y := p) (a := i) (m := m) (r := false) (by omega) (by omega) (by omega) (by omega) (by omega)
    have m4 := mvG_mono (n := n) (x := (q : Int)) (y := p) (a := i) (m := m) (r := true) (by omega) (by omega) (by omega) (by omega) (by omega)
    have hS : Hid (∀ how : Int, 0 ≤ how ∧ how ≤ 2 → 0 ≤ spF q p i n m how ∧ spF q p i n m how ≤ spT q p i n m how) := fun how hh => spG_ok (by omega) (by omega) (by omega) (by omega) (by omega) hh
    have hN : Hid (spT q p i n m 1 ≤ spF p p i n m 2) := spG_next (by omega) (by omega) (by omega) (by omega)
    generalize hA : mvG q i n m false = A at m1 m2 m3 m4
    generalize hB : mvG q i n m true = B at m1 m2 m3 m4
    generalize hC : mvG p i n m false = C at m1 m2 m3 m4
    generalize hD : mvG p i n m true = D at m1 m2 m3 m4
    have HA := hid hA
    have HB := hid hB
    have HC := hid hC
    have HD := hid hD
    clear hA hB hC hD
    have hv0 : Below V.heap.size V V.drew := hv.drew
    go_region_held3 (fun w' => Below V.heap.size V w' ∧ w'.cell? ⟨W.heap.size, 0, none⟩ = some (.int .i64 i) ∧ w'.cell? ⟨W.heap.size, 1, none⟩ = some (.slice a1 n c1) ∧ w'.cell? ⟨W.heap.size, 2, none⟩ = some (.slice a2 m c2)) (first | assumption | exact ⟨by assumption, by assumption, by assumption, by assumption⟩ | go_keep)
      (first | (go_at_call 9; (with_reducible refine (place_v _ hn hm HA.out).mono ?_); rintro e w3 ⟨rfl, hb3⟩; have hx3 : Below V.heap.size V w3 := bthen (by assumption) hb3; have kk := K.out _ hx3; obtain ⟨z0, z1, z2⟩ := kk)
             | (go_at_call 9; (with_reducible refine (place_v _ hn hm HB.out).mono ?_); rintro e w4 ⟨rfl, hb4⟩; have hx4 : Below V.heap.size V w4 := bthen (by assumption) hb4; have kk := K.out _ hx4; obtain ⟨u0, u1, u2⟩ := kk))
    clear hb3 hb4 hx3 z0 z1 z2 hv0
    go_upto_region 6 with fail
    have hv0 : Below V.heap.size V w4.drew := hx4.drew
    go_region_held3 (fun w' => Below V.heap.size V w' ∧ w'.cell? ⟨W.heap.size, 0, none⟩ = some (.int .i64 i) ∧ w'.cell? ⟨W.heap.size, 1, none⟩ = some (.slice a1 n c1) ∧ w'.cell? ⟨W.heap.size, 2, none⟩ = some (.slice a2 m c2)) (first | assumption | exact ⟨by assumption, by assumption, by assumption, by assumption⟩ | go_keep)
      (first | (go_at_call 9; (with_reducible refine (place_v _ hn hm HC.out).mono ?_); rintro e w5 ⟨rfl, hb5⟩; have hx5 : Below V.heap.size V w5 := bthen (by assumption) hb5; have kk := K.out _ hx5; obtain ⟨z0, z1, z2⟩ := kk)
             | (go_at_call 9; (with_reducible refine (place_v _ hn hm HD.out).mono ?_); rintro e w6 ⟨rfl, hb6⟩; have hx6 : Below V.heap.size V w6 := bthen (by assumption) hb6; have kk := K.out _ hx6; obtain ⟨t0, t1, t2⟩ := kk))
    clear hb5 hb6 hx5 z0 z1 z2 hv0 u0 u1 u2 hx4 y1 y2
    have y00 := y0
    clear y0
    go_upto_region 9 with fail
    have zW : W.heap.size < w6.heap.size := by have := hx6.size; have := World.block_lt_of_cell? V _ y00; simp only at this; omega
    obtain ⟨Z, hZ⟩ : ∃ Z, Z = (w6.alloc (.cells #[.int .i64 (q : Int), .int .i64 (p : Int)] 26)).alloc (.cells #[.int .i64 0, .int .i64 1, .int .i64 2] 3) := ⟨_, rfl⟩
    have hz : Below W.heap.size W Z := by subst hZ; exact bal (bal (bthen hx hx6) _) _
    have hzz : Below Z.heap.size Z Z := Below.refl _ _
    have hk : ∀ w', Below Z.heap.size Z w' → (w'.cell? ⟨W.heap.size, 0, none⟩ = some (.int .i64 i) ∧ w'.cell? ⟨W.heap.size, 1, none⟩ = some (.slice a1 n c1) ∧ w'.cell? ⟨W.heap.size, 2, none⟩ = some (.slice a2 m c2)) ∧
        (w'.cell? ⟨w6.heap.size, 0, none⟩ = some (.int .i64 (q : Int)) ∧ w'.cell? ⟨w6.heap.size, 1, none⟩ = some (.int .i64 (p : Int))) ∧
        ∀ k : Nat, k < 3 → w'.cell? ⟨w6.heap.size + 1, k, none⟩ = some (.int .i64 (k : Int)) := by
      intro w' hb
      have hb6 : Below V.heap.size V w' := by subst hZ; exact bthen (bal (bal hx6 _) _) hb
      subst hZ
      have hk : Kpt (fun _ => False) _ w' := Kpt.of hb
      refine ⟨K.out _ hb6, ⟨hk.cell (by go_simp) id, hk.cell (by go_simp) id⟩, fun k hk3 => ?_⟩
      rcases (show k = 0 ∨ k = 1 ∨ k = 2 by omega) with rfl | rfl | rfl
      · exact hk.cell (by go_simp) id
      · exact hk.cell (by go_simp) id
      · exact hk.cell (by go_simp) id
    have KZ := hid hk
    clear hk
    go_wp2_with fail
    rw [← hZ]
    have zF : w6.heap.size + 1 < Z.heap.size := by subst hZ; simp
    clear hZ t0 t1 t2 K
    generalize w6.heap.size = FB at KZ zF zW ⊢
    clear hx6 hx
    go_loopw [13, 14, 65] (fun _ _ iv wr => ∃ k : Nat, k ≤ 3 ∧ iv = .int .i64 k ∧ Below Z.heap.size Z wr) (fun _ _ iv _ => 3 - (intOf iv).toNat)
    case atStart => exact ⟨0, by omega, rfl, hzz⟩
    case round =>
      obtain ⟨k, hk3, rfl, hb⟩ := hrel
      by_cases hlt : k < 3
      · have kk := KZ.out _ hb
        obtain ⟨⟨y0, y1, y2⟩, ⟨f0, f1⟩, hl⟩ := kk
        have l0 := hl k hlt
        have hs := hS.out k (by omega)
        generalize hA : spF q p i n m k = sA at hs
        generalize hB : spT q p i n m k = sB at hs
        have HAB := hid (And.intro hA hB)
        clear hl hA hB
        go_wp2_with (go_at_call 11; (with_reducible refine (span_v a1 a2 c1 c2 n m _ _ _ _ _ hn hm HAB.out).mono ?_); rintro e w7 ⟨rfl, hb7⟩; have hb8 := bthen hb hb7; clear hb7)
        go_roundw
        case rel => exact ⟨k + 1, by omega, by go_num, bal hb8 _⟩
        case measure => simp [intOf]; omega
      · obtain rfl : k = 3 := by omega
        clear hlt hk3
        have kk := KZ.out _ hb
        obtain ⟨⟨y0, y1, y2⟩, ⟨f0, f1⟩, -⟩ := kk
        have hn2 := hN.out
        generalize hA1 : spF q p i n m 1 = A1 at hn2
        generalize hB1 : spT q p i n m 1 = B1 at hn2
        generalize hA2 : spF p p i n m 2 = A2 at hn2
        generalize hB2 : spT p p i n m 2 = B2 at hn2
        have H1 := hid (And.intro hA1 hB1)
        have H2 := hid (And.intro hA2 hB2)
        clear hA1 hB1 hA2 hB2 hS hN HA HB HC HD
        go_upto_region 17 with fail
        go_cut [15, 16] (fun s15 s16 wc => ∃ X Y : Nat, s15 = .pointer (some ⟨X, 0, none⟩) ∧ s16 = .pointer (some ⟨Y, 0, none⟩) ∧ wc.cell? ⟨X, 1, none⟩ = some (.int .i64 B1) ∧ wc.cell? ⟨Y, 0, none⟩ = some (.int .i64 A2) ∧ Below W.heap.size W wc)
        case first =>
          have hzr := hb.size
          have hv0 : Below Z.heap.size Z wr.drew := hb.drew
          have kd := KZ.out _ hv0
          obtain ⟨⟨d0, d1, d2⟩, ⟨d3, d4⟩, -⟩ := kd
          go_region_held3 (fun w' => w'.cell? ⟨W.heap.size, 0, none⟩ = some (.int .i64 i) ∧ w'.cell? ⟨W.heap.size, 1, none⟩ = some (.slice a1 n c1) ∧ w'.cell? ⟨W.heap.size, 2, none⟩ = some (.slice a2 m c2) ∧ w'.cell? ⟨FB, 0, none⟩ = some (.int .i64 (q : Int)) ∧ w'.cell? ⟨FB, 1, none⟩ = some (.int .i64 (p : Int))) (first | (first | (with_reducible assumption) | exact ⟨by with_reducible assumption, by with_reducible assumption, by with_reducible assumption, by with_reducible assumption, by with_reducible assumption⟩) | ((with_reducible refine five_alloc ?_); (first | (with_reducible assumption) | exact ⟨by with_reducible assumption, by with_reducible assumption, by with_reducible assumption, by with_reducible assumption, by with_reducible assumption⟩)) | ((with_reducible refine five_store ?_ (by omega) (by omega)); (first | (with_reducible assumption) | exact ⟨by with_reducible assumption, by with_reducible assumption, by with_reducible assumption, by with_reducible assumption, by with_reducible assumption⟩)) | ((with_reducible refine five_alloc ?_); ((with_reducible refine five_alloc ?_); (first | (with_reducible assumption) | exact ⟨by with_reducible assumption, by with_reducible assumption, by with_reducible assumption, by with_reducible assumption, by with_reducible assumption⟩))) | ((with_reducible refine five_alloc ?_); ((with_reducible refine five_store ?_ (by omega) (by omega)); (first | (with_reducible assumption) | exact ⟨by with_reducible assumption, by with_reducible assumption, by with_reducible assumption, by with_reducible assumption, by with_reducible assumption⟩))) | ((with_reducible refine five_store ?_ (by omega) (by omega)); ((with_reducible refine five_store ?_ (by omega) (by omega)); (first | (with_reducible assumption) | exact ⟨by with_reducible assumption, by with_reducible assumption, by with_reducible assumption, by with_reducible assumption, by with_reducible assumption⟩))) | ((with_reducible refine five_drew ?_); (first | (with_reducible assumption) | exact ⟨by with_reducible assumption, by with_reducible assumption, by with_reducible assumption, by with_reducible assumption, by with_reducible assumption⟩)) | ((with_reducible refine five_drew ?_); ((with_reducible refine five_alloc ?_); (first | (with_reducible assumption) | exact ⟨by with_reducible assumption, by with_reducible assumption, by with_reducible assumption, by with_reducible assumption, by with_reducible assumption⟩))) | ((with_reducible refine five_drew ?_); ((with_reducible refine five_alloc ?_); ((with_reducible refine five_alloc ?_); (first | (with_reducible assumption) | exact ⟨by with_reducible assumption, by with_reducible assumption, by with_reducible assumption, by with_reducible assumption, by with_reducible assumption⟩)))))
            (first | (go_at_call 11; (with_reducible refine (span_v a1 a2 c1 c2 n m _ _ _ _ _ hn hm H1.out).mono ?_); rintro e w3 ⟨rfl, hb3⟩; have hx3 : Below Z.heap.size Z w3 := bthen (by (repeat' (first | exact Below.refl _ _ | assumption | refine bdrewN ?_ _ | refine Below.drew ?_ | refine bal ?_ _ | refine bthen ?_ (by assumption)))) hb3; have hs3 := hb3.size; (try simp at hs3); have kk := KZ.out _ hx3; obtain ⟨⟨y0', y1', y2'⟩, ⟨f0', f1'⟩, -⟩ := kk; (try (have qa0 : w3.cell? ⟨wr.heap.size, 0, none⟩ = some (.int .i64 0) := (hb3.cell (p := ⟨wr.heap.size, 0, none⟩) (by first | assumption | (simp; done) | (simp; omega))).trans (by first | assumption | (go_simp; done) | (simp; done)); have ga0 : w3.frozen? ⟨wr.heap.size, 0, none⟩ = false := (hb3.frozen (p := ⟨wr.heap.size, 0, none⟩) (by first | assumption | (simp; done) | (simp; omega))).trans (by first | assumption | (go_simp; done) | (simp; done)); have qa1 : w3.cell? ⟨wr.heap.size, 1, none⟩ = some (.int .i64 0) := (hb3.cell (p := ⟨wr.heap.size, 1, none⟩) (by first | assumption | (simp; done) | (simp; omega))).trans (by first | assumption | (go_simp; done) | (simp; done)); have ga1 : w3.frozen? ⟨wr.heap.size, 1, none⟩ = false := (hb3.frozen (p := ⟨wr.heap.size, 1, none⟩) (by first | assumption | (simp; done) | (simp; omega))).trans (by first | assumption | (go_simp; done) | (simp; done)); have la : wr.heap.size < w3.heap.size := World.block_lt_of_cell? w3 _ qa0)); (try (have qb0 : w3.cell? ⟨wr.heap.size + 1, 0, none⟩ = some (.int .i64 0) := (hb3.cell (p := ⟨wr.heap.size + 1, 0, none⟩) (by first | assumption | (simp; done) | (simp; omega))).trans (by first | assumption | (go_simp; done) | (simp; done)); have gb0 : w3.frozen? ⟨wr.heap.size + 1, 0, none⟩ = false := (hb3.frozen (p := ⟨wr.heap.size + 1, 0, none⟩) (by first | assumption | (simp; done) | (simp; omega))).trans (by first | assumption | (go_simp; done) | (simp; done)); have qb1 : w3.cell? ⟨wr.heap.size + 1, 1, none⟩ = some (.int .i64 0) := (hb3.cell (p := ⟨wr.heap.size + 1, 1, none⟩) (by first | assumption | (simp; done) | (simp; omega))).trans (by first | assumption | (go_simp; done) | (simp; done)); have gb1 : w3.frozen? ⟨wr.heap.size + 1, 1, none⟩ = false := (hb3.frozen (p := ⟨wr.heap.size + 1, 1, none⟩) (by first | assumption | (simp; done) | (simp; omega))).trans (by first | assumption | (go_simp; done) | (simp; done)); have lb : wr.heap.size + 1 < w3.heap.size := World.block_lt_of_cell? w3 _ qb0)))
                   | (go_at_call 11; (with_reducible refine (span_v a1 a2 c1 c2 n m _ _ _ _ _ hn hm H2.out).mono ?_); rintro e w4 ⟨rfl, hb4⟩; have hx4 : Below Z.heap.size Z w4 := bthen (by (repeat' (first | exact Below.refl _ _ | assumption | refine bdrewN ?_ _ | refine Below.drew ?_ | refine bal ?_ _ | refine bthen ?_ (by assumption)))) hb4; have hs4 := hb4.size; (try simp at hs4); have kk := KZ.out _ hx4; obtain ⟨⟨y0'', y1'', y2''⟩, ⟨f0'', f1''⟩, -⟩ := kk; (try (have qc0 : w4.cell? ⟨wr.heap.size, 0, none⟩ = some (.int .i64 0) := (hb4.cell (p := ⟨wr.heap.size, 0, none⟩) (by first | assumption | (simp; done) | (simp; omega))).trans (by first | assumption | (go_simp; done) | (simp; done)); have gc0 : w4.frozen? ⟨wr.heap.size, 0, none⟩ = false := (hb4.frozen (p := ⟨wr.heap.size, 0, none⟩) (by first | assumption | (simp; done) | (simp; omega))).trans (by first | assumption | (go_simp; done) | (simp; done)); have qc1 : w4.cell? ⟨wr.heap.size, 1, none⟩ = some (.int .i64 0) := (hb4.cell (p := ⟨wr.heap.size, 1, none⟩) (by first | assumption | (simp; done) | (simp; omega))).trans (by first | assumption | (go_simp; done) | (simp; done)); have gc1 : w4.frozen? ⟨wr.heap.size, 1, none⟩ = false := (hb4.frozen (p := ⟨wr.heap.size, 1, none⟩) (by first | assumption | (simp; done) | (simp; omega))).trans (by first | assumption | (go_simp; done) | (simp; done)); have lc : wr.heap.size < w4.heap.size := World.block_lt_of_cell? w4 _ qc0)); (try (have qd0 : w4.cell? ⟨wr.heap.size + 1, 0, none⟩ = some (.int .i64 0) := (hb4.cell (p := ⟨wr.heap.size + 1, 0, none⟩) (by first | assumption | (simp; done) | (simp; omega))).trans (by first | assumption | (go_simp; done) | (simp; done)); have gd0 : w4.frozen? ⟨wr.heap.size + 1, 0, none⟩ = false := (hb4.frozen (p := ⟨wr.heap.size + 1, 0, none⟩) (by first | assumption | (simp; done) | (simp; omega))).trans (by first | assumption | (go_simp; done) | (simp; done)); have qd1 : w4.cell? ⟨wr.heap.size + 1, 1, none⟩ = some (.int .i64 0) := (hb4.cell (p := ⟨wr.heap.size + 1, 1, none⟩) (by first | assumption | (simp; done) | (simp; omega))).trans (by first | assumption | (go_simp; done) | (simp; done)); have gd1 : w4.frozen? ⟨wr.heap.size + 1, 1, none⟩ = false := (hb4.frozen (p := ⟨wr.heap.size + 1, 1, none⟩) (by first | assumption | (simp; done) | (simp; omega))).trans (by first | assumption | (go_simp; done) | (simp; done)); have ld : wr.heap.size + 1 < w4.heap.size := World.block_lt_of_cell? w4 _ qd0)); (try (have qe0 : w4.cell? ⟨w3.heap.size, 0, none⟩ = some (.int .i64 0) := (hb4.cell (p := ⟨w3.heap.size, 0, none⟩) (by first | assumption | (simp; done) | (simp; omega))).trans (by first | assumption | (go_simp; done) | (simp; done)); have ge0 : w4.frozen? ⟨w3.heap.size, 0, none⟩ = false := (hb4.frozen (p := ⟨w3.heap.size, 0, none⟩) (by first | assumption | (simp; done) | (simp; omega))).trans (by first | assumption | (go_simp; done) | (simp; done)); have qe1 : w4.cell? ⟨w3.heap.size, 1, none⟩ = some (.int .i64 0) := (hb4.cell (p := ⟨w3.heap.size, 1, none⟩) (by first | assumption | (simp; done) | (simp; omega))).trans (by first | assumption | (go_simp; done) | (simp; done)); have ge1 : w4.frozen? ⟨w3.heap.size, 1, none⟩ = false := (hb4.frozen (p := ⟨w3.heap.size, 1, none⟩) (by first | assumption | (simp; done) | (simp; omega))).trans (by first | assumption | (go_simp; done) | (simp; done)); have le : w3.heap.size < w4.heap.size := World.block_lt_of_cell? w4 _ qe0)); (try (have qf0 : w4.cell? ⟨w3.heap.size + 1, 0, none⟩ = some (.int .i64 0) := (hb4.cell (p := ⟨w3.heap.size + 1, 0, none⟩) (by first | assumption | (simp; done) | (simp; omega))).trans (by first | assumption | (go_simp; done) | (simp; done)); have gf0 : w4.frozen? ⟨w3.heap.size + 1, 0, none⟩ = false := (hb4.frozen (p := ⟨w3.heap.size + 1, 0, none⟩) (by first | assumption | (simp; done) | (simp; omega))).trans (by first | assumption | (go_simp; done) | (simp; done)); have qf1 : w4.cell? ⟨w3.heap.size + 1, 1, none⟩ = some (.int .i64 0) := (hb4.cell (p := ⟨w3.heap.size + 1, 1, none⟩) (by first | assumption | (simp; done) | (simp; omega))).trans (by first | assumption | (go_simp; done) | (simp; done)); have gf1 : w4.frozen? ⟨w3.heap.size + 1, 1, none⟩ = false := (hb4.frozen (p := ⟨w3.heap.size + 1, 1, none⟩) (by first | assumption | (simp; done) | (simp; omega))).trans (by first | assumption | (go_simp; done) | (simp; done)); have lf : w3.heap.size + 1 < w4.heap.size := World.block_lt_of_cell? w4 _ qf0))))
          all_goals
            go_wp2_with fail
            go_meet
            have hW4 : Below W.heap.size W w4 := hz.trans (hx4.mono hz.size)
            have hW0 := hz.size
            first
              | (with_reducible refine rel_four ?_ ?_ ?_ ?_ ?_ hW4 ?_ ?_) <;> (first | (with_reducible assumption) | omega)
              | (with_reducible refine rel_x ?_ ?_ hW4 ?_) <;> (first | (with_reducible assumption) | omega)
              | (with_reducible refine rel_y ?_ ?_ hW4 ?_) <;> (first | (with_reducible assumption) | omega)
              | (with_reducible exact rel_xy hW4)
              | (with_reducible exact rel_yx hW4)
        case rest =>
          obtain ⟨X, Y, rfl, rfl, u0, u1, hbc⟩ := hcut
          go_wp2_with (refine (known_c wc).mono ?_; rintro e w3 ⟨rfl, hb3⟩)
          go_ret
          exact ⟨rfl, bthen hbc hb3⟩
  · go_upto_region 5 with fail
    have m1 := mvG_right (n := n) (x := (p : Int)) (a := i) (m := m) (by omega) (by omega) (by omega)
    have m2 := mvG_right (n := n) (x := (q : Int)) (a := i) (m := m) (by omega) (by omega) (by omega)
    have m3 := mvG_mono (n := n) (x := (p : Int)) (y := q) (a := i) (m := m) (r := false) (by omega) (by omega) (by omega) (by omega) (by omega)
    have m4 := mvG_mono (n := n) (x := (p : Int)) (y := q) (a := i) (m := m) (r := true) (by omega) (by omega) (by omega) (by omega) (by omega)
    have hS : Hid (∀ how : Int, 0 ≤ how ∧ how ≤ 2 → 0 ≤ spF p q i n m how ∧ spF p q i n m how ≤ spT p q i n m how) := fun how hh => spG_ok (by omega) (by omega) (by omega) (by omega) (by omega) hh
    have hN : Hid (spT p q i n m 1 ≤ spF q q i n m 2) := spG_next (by omega) (by omega) (by omega) (by omega)
    generalize hA : mvG p i n m false = A at m1 m2 m3 m4
    generalize hB : mvG p i n m true = B at m1 m2 m3 m4
    generalize hC : mvG q i n m false = C at m1 m2 m3 m4
    generalize hD : mvG q i n m true = D at m1 m2 m3 m4
    have HA := hid hA
    have HB := hid hB
    have HC := hid hC
    have HD := hid hD
    clear hA hB hC hD
    have hv0 : Below V.heap.size V V.drew := hv.drew
    go_region_held3 (fun w' => Below V.heap.size V w' ∧ w'.cell? ⟨W.heap.size, 0, none⟩ = some (.int .i64 i) ∧ w'.cell? ⟨W.heap.size, 1, none⟩ = some (.slice a1 n c1) ∧ w'.cell? ⟨W.heap.size, 2, none⟩ = some (.slice a2 m c2)) (first | assumption | exact ⟨by assumption, by assumption, by assumption, by assumption⟩ | go_keep)
      (first | (go_at_call 9; (with_reducible refine (place_v _ hn hm HA.out).mono ?_); rintro e w3 ⟨rfl, hb3⟩; have hx3 : Below V.heap.size V w3 := bthen (by assumption) hb3; have kk := K.out _ hx3; obtain ⟨z0, z1, z2⟩ := kk)
             | (go_at_call 9; (with_reducible refine (place_v _ hn hm HB.out).mono ?_); rintro e w4 ⟨rfl, hb4⟩; have hx4 : Below V.heap.size V w4 := bthen (by assumption) hb4; have kk := K.out _ hx4; obtain ⟨u0, u1, u2⟩ := kk))
    clear hb3 hb4 hx3 z0 z1 z2 hv0
    go_upto_region 6 with fail
    have hv0 : Below V.heap.size V w4.drew := hx4.drew
    go_region_held3 (fun w' => Below V.heap.size V w' ∧ w'.cell? ⟨W.heap.size, 0, none⟩ = some (.int .i64 i) ∧ w'.cell? ⟨W.heap.size, 1, none⟩ = some (.slice a1 n c1) ∧ w'.cell? ⟨W.heap.size, 2, none⟩ = some (.slice a2 m c2)) (first | assumption | exact ⟨by assumption, by assumption, by assumption, by assumption⟩ | go_keep)
      (first | (go_at_call 9; (with_reducible refine (place_v _ hn hm HC.out).mono ?_); rintro e w5 ⟨rfl, hb5⟩; have hx5 : Below V.heap.size V w5 := bthen (by assumption) hb5; have kk := K.out _ hx5; obtain ⟨z0, z1, z2⟩ := kk)
             | (go_at_call 9; (with_reducible refine (place_v _ hn hm HD.out).mono ?_); rintro e w6 ⟨rfl, hb6⟩; have hx6 : Below V.heap.size V w6 := bthen (by assumption) hb6; have kk := K.out _ hx6; obtain ⟨t0, t1, t2⟩ := kk))
    clear hb5 hb6 hx5 z0 z1 z2 hv0 u0 u1 u2 hx4 y1 y2
    have y00 := y0
    clear y0
    go_upto_region 9 with fail
    have zW : W.heap.size < w6.heap.size := by have := hx6.size; have := World.block_lt_of_cell? V _ y00; simp only at this; omega
    obtain ⟨Z, hZ⟩ : ∃ Z, Z = (w6.alloc (.cells #[.int .i64 (p : Int), .int .i64 (q : Int)] 26)).alloc (.cells #[.int .i64 0, .int .i64 1, .int .i64 2] 3) := ⟨_, rfl⟩
    have hz : Below W.heap.size W Z := by subst hZ; exact bal (bal (bthen hx hx6) _) _
    have hzz : Below Z.heap.size Z Z := Below.refl _ _
    have hk : ∀ w', Below Z.heap.size Z w' → (w'.cell? ⟨W.heap.size, 0, none⟩ = some (.int .i64 i) ∧ w'.cell? ⟨W.heap.size, 1, none⟩ = some (.slice a1 n c1) ∧ w'.cell? ⟨W.heap.size, 2, none⟩ = some (.slice a2 m c2)) ∧
        (w'.cell? ⟨w6.heap.size, 0, none⟩ = some (.int .i64 (p : Int)) ∧ w'.cell? ⟨w6.heap.size, 1, none⟩ = some (.int .i64 (q : Int))) ∧
        ∀ k : Nat, k < 3 → w'.cell? ⟨w6.heap.size + 1, k, none⟩ = some (.int .i64 (k : Int)) := by
      intro w' hb
      have hb6 : Below V.heap.size V w' := by subst hZ; exact bthen (bal (bal hx6 _) _) hb
      subst hZ
      have hk : Kpt (fun _ => False) _ w' := Kpt.of hb
      refine ⟨K.out _ hb6, ⟨hk.cell (by go_simp) id, hk.cell (by go_simp) id⟩, fun k hk3 => ?_⟩
      rcases (show k = 0 ∨ k = 1 ∨ k = 2 by omega) with rfl | rfl | rfl
      · exact hk.cell (by go_simp) id
      · exact hk.cell (by go_simp) id
      · exact hk.cell (by go_simp) id
    have KZ := hid hk
    clear hk
    go_wp2_with fail
    rw [← hZ]
    have zF : w6.heap.size + 1 < Z.heap.size := by subst hZ; simp
    clear hZ t0 t1 t2 K
    generalize w6.heap.size = FB at KZ zF zW ⊢
    clear hx6 hx
    go_loopw [13, 14, 65] (fun _ _ iv wr => ∃ k : Nat, k ≤ 3 ∧ iv = .int .i64 k ∧ Below Z.heap.size Z wr) (fun _ _ iv _ => 3 - (intOf iv).toNat)
    case atStart => exact ⟨0, by omega, rfl, hzz⟩
    case round =>
      obtain ⟨k, hk3, rfl, hb⟩ := hrel
      by_cases hlt : k < 3
      · have kk := KZ.out _ hb
        obtain ⟨⟨y0, y1, y2⟩, ⟨f0, f1⟩, hl⟩ := kk
        have l0 := hl k hlt
        have hs := hS.out k (by omega)
        generalize hA : spF p q i n m k = sA at hs
        generalize hB : spT p q i n m k = sB at hs
        have HAB := hid (And.intro hA hB)
        clear hl hA hB
        go_wp2_with (go_at_call 11; (with_reducible refine (span_v a1 a2 c1 c2 n m _ _ _ _ _ hn hm HAB.out).mono ?_); rintro e w7 ⟨rfl, hb7⟩; have hb8 := bthen hb hb7; clear hb7)
        go_roundw
        case rel => exact ⟨k + 1, by omega, by go_num, bal hb8 _⟩
        case measure => simp [intOf]; omega
      · obtain rfl : k = 3 := by omega
        clear hlt hk3
        have kk := KZ.out _ hb
        obtain ⟨⟨y0, y1, y2⟩, ⟨f0, f1⟩, -⟩ := kk
        have hn2 := hN.out
        generalize hA1 : spF p q i n m 1 = A1 at hn2
        generalize hB1 : spT p q i n m 1 = B1 at hn2
        generalize hA2 : spF q q i n m 2 = A2 at hn2
        generalize hB2 : spT q q i n m 2 = B2 at hn2
        have H1 := hid (And.intro hA1 hB1)
        have H2 := hid (And.intro hA2 hB2)
        clear hA1 hB1 hA2 hB2 hS hN HA HB HC HD
        go_upto_region 17 with fail
        go_cut [15, 16] (fun s15 s16 wc => ∃ X Y : Nat, s15 = .pointer (some ⟨X, 0, none⟩) ∧ s16 = .pointer (some ⟨Y, 0, none⟩) ∧ wc.cell? ⟨X, 1, none⟩ = some (.int .i64 B1) ∧ wc.cell? ⟨Y, 0, none⟩ = some (.int .i64 A2) ∧ Below W.heap.size W wc)
        case first =>
          have hzr := hb.size
          have hv0 : Below Z.heap.size Z wr.drew := hb.drew
          have kd := KZ.out _ hv0
          obtain ⟨⟨d0, d1, d2⟩, ⟨d3, d4⟩, -⟩ := kd
          go_region_held3 (fun w' => w'.cell? ⟨W.heap.size, 0, none⟩ = some (.int .i64 i) ∧ w'.cell? ⟨W.heap.size, 1, none⟩ = some (.slice a1 n c1) ∧ w'.cell? ⟨W.heap.size, 2, none⟩ = some (.slice a2 m c2) ∧ w'.cell? ⟨FB, 0, none⟩ = some (.int .i64 (p : Int)) ∧ w'.cell? ⟨FB, 1, none⟩ = some (.int .i64 (q : Int))) (first | (first | (with_reducible assumption) | exact ⟨by with_reducible assumption, by with_reducible assumption, by with_reducible assumption, by with_reducible assumption, by with_reducible assumption⟩) | ((with_reducible refine five_alloc ?_); (first | (with_reducible assumption) | exact ⟨by with_reducible assumption, by with_reducible assumption, by with_reducible assumption, by with_reducible assumption, by with_reducible assumption⟩)) | ((with_reducible refine five_store ?_ (by omega) (by omega)); (first | (with_reducible assumption) | exact ⟨by with_reducible assumption, by with_reducible assumption, by with_reducible assumption, by with_reducible assumption, by with_reducible assumption⟩)) | ((with_reducible refine five_alloc ?_); ((with_reducible refine five_alloc ?_); (first | (with_reducible assumption) | exact ⟨by with_reducible assumption, by with_reducible assumption, by with_reducible assumption, by with_reducible assumption, by with_reducible assumption⟩))) | ((with_reducible refine five_alloc ?_); ((with_reducible refine five_store ?_ (by omega) (by omega)); (first | (with_reducible assumption) | exact ⟨by with_reducible assumption, by with_reducible assumption, by with_reducible assumption, by with_reducible assumption, by with_reducible assumption⟩))) | ((with_reducible refine five_store ?_ (by omega) (by omega)); ((with_reducible refine five_store ?_ (by omega) (by omega)); (first | (with_reducible assumption) | exact ⟨by with_reducible assumption, by with_reducible assumption, by with_reducible assumption, by with_reducible assumption, by with_reducible assumption⟩))) | ((with_reducible refine five_drew ?_); (first | (with_reducible assumption) | exact ⟨by with_reducible assumption, by with_reducible assumption, by with_reducible assumption, by with_reducible assumption, by with_reducible assumption⟩)) | ((with_reducible refine five_drew ?_); ((with_reducible refine five_alloc ?_); (first | (with_reducible assumption) | exact ⟨by with_reducible assumption, by with_reducible assumption, by with_reducible assumption, by with_reducible assumption, by with_reducible assumption⟩))) | ((with_reducible refine five_drew ?_); ((with_reducible refine five_alloc ?_); ((with_reducible refine five_alloc ?_); (first | (with_reducible assumption) | exact ⟨by with_reducible assumption, by with_reducible assumption, by with_reducible assumption, by with_reducible assumption, by with_reducible assumption⟩)))))
            (first | (go_at_call 11; (with_reducible refine (span_v a1 a2 c1 c2 n m _ _ _ _ _ hn hm H1.out).mono ?_); rintro e w3 ⟨rfl, hb3⟩; have hx3 : Below Z.heap.size Z w3 := bthen (by (repeat' (first | exact Below.refl _ _ | assumption | refine bdrewN ?_ _ | refine Below.drew ?_ | refine bal ?_ _ | refine bthen ?_ (by assumption)))) hb3; have hs3 := hb3.size; (try simp at hs3); have kk := KZ.out _ hx3; obtain ⟨⟨y0', y1', y2'⟩, ⟨f0', f1'⟩, -⟩ := kk; (try (have qa0 : w3.cell? ⟨wr.heap.size, 0, none⟩ = some (.int .i64 0) := (hb3.cell (p := ⟨wr.heap.size, 0, none⟩) (by first | assumption | (simp; done) | (simp; omega))).trans (by first | assumption | (go_simp; done) | (simp; done)); have ga0 : w3.frozen? ⟨wr.heap.size, 0, none⟩ = false := (hb3.frozen (p := ⟨wr.heap.size, 0, none⟩) (by first | assumption | (simp; done) | (simp; omega))).trans (by first | assumption | (go_simp; done) | (simp; done)); have qa1 : w3.cell? ⟨wr.heap.size, 1, none⟩ = some (.int .i64 0) := (hb3.cell (p := ⟨wr.heap.size, 1, none⟩) (by first | assumption | (simp; done) | (simp; omega))).trans (by first | assumption | (go_simp; done) | (simp; done)); have ga1 : w3.frozen? ⟨wr.heap.size, 1, none⟩ = false := (hb3.frozen (p := ⟨wr.heap.size, 1, none⟩) (by first | assumption | (simp; done) | (simp; omega))).trans (by first | assumption | (go_simp; done) | (simp; done)); have la : wr.heap.size < w3.heap.size := World.block_lt_of_cell? w3 _ qa0)); (try (have qb0 : w3.cell? ⟨wr.heap.size + 1, 0, none⟩ = some (.int .i64 0) := (hb3.cell (p := ⟨wr.heap.size + 1, 0, none⟩) (by first | assumption | (simp; done) | (simp; omega))).trans (by first | assumption | (go_simp; done) | (simp; done)); have gb0 : w3.frozen? ⟨wr.heap.size + 1, 0, none⟩ = false := (hb3.frozen (p := ⟨wr.heap.size + 1, 0, none⟩) (by first | assumption | (simp; done) | (simp; omega))).trans (by first | assumption | (go_simp; done) | (simp; done)); have qb1 : w3.cell? ⟨wr.heap.size + 1, 1, none⟩ = some (.int .i64 0) := (hb3.cell (p := ⟨wr.heap.size + 1, 1, none⟩) (by first | assumption | (simp; done) | (simp; omega))).trans (by first | assumption | (go_simp; done) | (simp; done)); have gb1 : w3.frozen? ⟨wr.heap.size + 1, 1, none⟩ = false := (hb3.frozen (p := ⟨wr.heap.size + 1, 1, none⟩) (by first | assumption | (simp; done) | (simp; omega))).trans (by first | assumption | (go_simp; done) | (simp; done)); have lb : wr.heap.size + 1 < w3.heap.size := World.block_lt_of_cell? w3 _ qb0)))
                   | (go_at_call 11; (with_reducible refine (span_v a1 a2 c1 c2 n m _ _ _ _ _ hn hm H2.out).mono ?_); rintro e w4 ⟨rfl, hb4⟩; have hx4 : Below Z.heap.size Z w4 := bthen (by (repeat' (first | exact Below.refl _ _ | assumption | refine bdrewN ?_ _ | refine Below.drew ?_ | refine bal ?_ _ | refine bthen ?_ (by assumption)))) hb4; have hs4 := hb4.size; (try simp at hs4); have kk := KZ.out _ hx4; obtain ⟨⟨y0'', y1'', y2''⟩, ⟨f0'', f1''⟩, -⟩ := kk; (try (have qc0 : w4.cell? ⟨wr.heap.size, 0, none⟩ = some (.int .i64 0) := (hb4.cell (p := ⟨wr.heap.size, 0, none⟩) (by first | assumption | (simp; done) | (simp; omega))).trans (by first | assumption | (go_simp; done) | (simp; done)); have gc0 : w4.frozen? ⟨wr.heap.size, 0, none⟩ = false := (hb4.frozen (p := ⟨wr.heap.size, 0, none⟩) (by first | assumption | (simp; done) | (simp; omega))).trans (by first | assumption | (go_simp; done) | (simp; done)); have qc1 : w4.cell? ⟨wr.heap.size, 1, none⟩ = some (.int .i64 0) := (hb4.cell (p := ⟨wr.heap.size, 1, none⟩) (by first | assumption | (simp; done) | (simp; omega))).trans (by first | assumption | (go_simp; done) | (simp; done)); have gc1 : w4.frozen? ⟨wr.heap.size, 1, none⟩ = false := (hb4.frozen (p := ⟨wr.heap.size, 1, none⟩) (by first | assumption | (simp; done) | (simp; omega))).trans (by first | assumption | (go_simp; done) | (simp; done)); have lc : wr.heap.size < w4.heap.size := World.block_lt_of_cell? w4 _ qc0)); (try (have qd0 : w4.cell? ⟨wr.heap.size + 1, 0, none⟩ = some (.int .i64 0) := (hb4.cell (p := ⟨wr.heap.size + 1, 0, none⟩) (by first | assumption | (simp; done) | (simp; omega))).trans (by first | assumption | (go_simp; done) | (simp; done)); have gd0 : w4.frozen? ⟨wr.heap.size + 1, 0, none⟩ = false := (hb4.frozen (p := ⟨wr.heap.size + 1, 0, none⟩) (by first | assumption | (simp; done) | (simp; omega))).trans (by first | assumption | (go_simp; done) | (simp; done)); have qd1 : w4.cell? ⟨wr.heap.size + 1, 1, none⟩ = some (.int .i64 0) := (hb4.cell (p := ⟨wr.heap.size + 1, 1, none⟩) (by first | assumption | (simp; done) | (simp; omega))).trans (by first | assumption | (go_simp; done) | (simp; done)); have gd1 : w4.frozen? ⟨wr.heap.size + 1, 1, none⟩ = false := (hb4.frozen (p := ⟨wr.heap.size + 1, 1, none⟩) (by first | assumption | (simp; done) | (simp; omega))).trans (by first | assumption | (go_simp; done) | (simp; done)); have ld : wr.heap.size + 1 < w4.heap.size := World.block_lt_of_cell? w4 _ qd0)); (try (have qe0 : w4.cell? ⟨w3.heap.size, 0, none⟩ = some (.int .i64 0) := (hb4.cell (p := ⟨w3.heap.size, 0, none⟩) (by first | assumption | (simp; done) | (simp; omega))).trans (by first | assumption | (go_simp; done) | (simp; done)); have ge0 : w4.frozen? ⟨w3.heap.size, 0, none⟩ = false := (hb4.frozen (p := ⟨w3.heap.size, 0, none⟩) (by first | assumption | (simp; done) | (simp; omega))).trans (by first | assumption | (go_simp; done) | (simp; done)); have qe1 : w4.cell? ⟨w3.heap.size, 1, none⟩ = some (.int .i64 0) := (hb4.cell (p := ⟨w3.heap.size, 1, none⟩) (by first | assumption | (simp; done) | (simp; omega))).trans (by first | assumption | (go_simp; done) | (simp; done)); have ge1 : w4.frozen? ⟨w3.heap.size, 1, none⟩ = false := (hb4.frozen (p := ⟨w3.heap.size, 1, none⟩) (by first | assumption | (simp; done) | (simp; omega))).trans (by first | assumption | (go_simp; done) | (simp; done)); have le : w3.heap.size < w4.heap.size := World.block_lt_of_cell? w4 _ qe0)); (try (have qf0 : w4.cell? ⟨w3.heap.size + 1, 0, none⟩ = some (.int .i64 0) := (hb4.cell (p := ⟨w3.heap.size + 1, 0, none⟩) (by first | assumption | (simp; done) | (simp; omega))).trans (by first | assumption | (go_simp; done) | (simp; done)); have gf0 : w4.frozen? ⟨w3.heap.size + 1, 0, none⟩ = false := (hb4.frozen (p := ⟨w3.heap.size + 1, 0, none⟩) (by first | assumption | (simp; done) | (simp; omega))).trans (by first | assumption | (go_simp; done) | (simp; done)); have qf1 : w4.cell? ⟨w3.heap.size + 1, 1, none⟩ = some (.int .i64 0) := (hb4.cell (p := ⟨w3.heap.size + 1, 1, none⟩) (by first | assumption | (simp; done) | (simp; omega))).trans (by first | assumption | (go_simp; done) | (simp; done)); have gf1 : w4.frozen? ⟨w3.heap.size + 1, 1, none⟩ = false := (hb4.frozen (p := ⟨w3.heap.size + 1, 1, none⟩) (by first | assumption | (simp; done) | (simp; omega))).trans (by first | assumption | (go_simp; done) | (simp; done)); have lf : w3.heap.size + 1 < w4.heap.size := World.block_lt_of_cell? w4 _ qf0))))
          all_goals
            go_wp2_with fail
            go_meet
            have hW4 : Below W.heap.size W w4 := hz.trans (hx4.mono hz.size)
            have hW0 := hz.size
            first
              | (with_reducible refine rel_four ?_ ?_ ?_ ?_ ?_ hW4 ?_ ?_) <;> (first | (with_reducible assumption) | omega)
              | (with_reducible refine rel_x ?_ ?_ hW4 ?_) <;> (first | (with_reducible assumption) | omega)
              | (with_reducible refine rel_y ?_ ?_ hW4 ?_) <;> (first | (with_reducible assumption) | omega)
              | (with_reducible exact rel_xy hW4)
              | (with_reducible exact rel_yx hW4)
        case rest =>
          obtain ⟨X, Y, rfl, rfl, u0, u1, hbc⟩ := hcut
          go_wp2_with (refine (known_c wc).mono ?_; rintro e w3 ⟨rfl, hb3⟩)
          go_ret
          exact ⟨rfl, bthen hbc hb3⟩
end Go.Proofs.Ythciodfkhgpegaa
