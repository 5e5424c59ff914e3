/- Package gravity and the document's own answers for it: movable, far, Place, Moved. -/
import Derived.Test.YthciodfkhgpegaaGrvM
import Derived.Test.YthciodfkhgpegaaBase
namespace Go.Proofs.Ythciodfkhgpegaa
open Go.RowKit

set_option maxHeartbeats 400000 in
theorem movable_c (x : Int) (w : World) : Calls Try.prog 18 #[.int .i64 x] w fun e w' => e = .returned (.bool (!farG x)) ∧ w = w' := by
  go_enter Try.func18, Try.ntmps18
  go_wp2
  all_goals go_ret
  all_goals (refine ⟨ret_bool ?_, rfl⟩; go_light; rw [Bool.eq_iff_iff]; ((try simp [farG] at *) <;> (first | omega | (constructor <;> intro _ <;> omega) | trivial)))
set_option maxHeartbeats 400000 in
theorem far_c (x : Int) (w : World) : Calls Try.prog 19 #[.int .i64 x] w fun e w' => e = .returned (.bool (farG x)) ∧ w = w' := by
  go_enter Try.func19, Try.ntmps19
  go_wp2
  all_goals go_ret
  all_goals (refine ⟨ret_bool ?_, rfl⟩; go_light; rw [Bool.eq_iff_iff]; ((try simp [farG] at *) <;> (first | omega | (constructor <;> intro _ <;> omega) | trivial)))
theorem movable_v {b : Bool} (x : Int) (w : World) (h : (!farG x) = b) : Calls Try.prog 18 #[.int .i64 x] w fun e w' => e = .returned (.bool b) ∧ w = w' := by subst h; exact movable_c x w
theorem far_v {b : Bool} (x : Int) (w : World) (h : farG x = b) : Calls Try.prog 19 #[.int .i64 x] w fun e w' => e = .returned (.bool b) ∧ w = w' := by subst h; exact far_c x w
theorem mvG_far {x a n m : Int} {r : Bool} (h : farG x = true ∨ farG a = true) : mvG x a n m r = x := by simp only [mvG]; rw [if_pos h]
theorem mvG_near {x a n m : Int} {r : Bool} (h : farG x = false) (k : farG a = false) : mvG x a n m r = if x < a ∨ (x = a ∧ 0 < n) then x
  else if a + n < x ∨ (x = a + n ∧ 0 < n) then x + m - n
  else if r = true then a + m else a := by simp only [mvG]; rw [if_neg (by simp [h, k])]
theorem farG_in {x : Int} (h : farG x = false) : 0 ≤ x ∧ x ≤ 1099511627776 := by simp [farG] at h; omega

set_option maxRecDepth 20000 in
set_option maxHeartbeats 4000000 in
theorem place_c (a1 a2 : Option Addr) (c1 c2 n m : Nat) (x i : Int) (r : Bool) (w : World) (hn : n ≤ 35184372088832) (hm : m ≤ 35184372088832) :
    Calls Try.prog 9 #[.int .i64 x, .agg #[.int .i64 i, .slice a1 n c1, .slice a2 m c2], .bool r] w fun e w' => e = .returned (.int .i64 (mvG x i n m r)) ∧ Below w.heap.size w w' := by
  have hb0 : Hid (Below w.heap.size w (w.alloc (.cells #[.int .i64 i, .slice a1 n c1, .slice a2 m c2] 24))) := (Below.refl _ _).alloc (Nat.le_refl _) _
  cases hX : farG x
  · cases hI : farG i
    · have X0 := hid (show (!farG x) = true by simp [hX])
      have I0 := hid (show (!farG i) = true by simp [hI])
      have M := hid (mvG_near (n := n) (m := m) (r := r) hX hI)
      obtain ⟨x0, x1⟩ := farG_in hX
      obtain ⟨i0, i1⟩ := farG_in hI
      clear hX hI
      rcases (show x < i ∨ (x = i ∧ n = 0) ∨ (x = i ∧ 0 < n) ∨ (i < x ∧ x < i + n) ∨ (i < x ∧ x = i + n) ∨ (i < x ∧ i + n < x) by omega) with p1 | ⟨p1, p2⟩ | ⟨p1, p2⟩ | ⟨p1, p2⟩ | ⟨p1, p2⟩ | ⟨p1, p2⟩
      all_goals try subst p1
      all_goals try subst p2
      all_goals
        go_enter Try.func9, Try.ntmps9
        go_wp2_with (first | (go_at_call 18; (with_reducible refine (movable_v _ _ X0.out).mono ?_); rintro e w' ⟨rfl, rfl⟩) | (go_at_call 18; (with_reducible refine (movable_v _ _ I0.out).mono ?_); rintro e w' ⟨rfl, rfl⟩))
        go_quiet (fail)
        go_wp2
        all_goals go_ret
        all_goals (refine ⟨ret_int ?_, bdrewN hb0.out _⟩; rw [M.out]; go_light; (repeat' split) <;> (first | omega | (simp_all; done) | (simp_all; omega)))
    · have I0 := hid (show (!farG i) = false by simp [hI])
      have X0 := hid (show (!farG x) = true by simp [hX])
      have M := hid (mvG_far (x := x) (a := i) (n := n) (m := m) (r := r) (.inr hI))
      clear hX hI
      go_enter Try.func9, Try.ntmps9
      go_wp2_with (first | (go_at_call 18; (with_reducible refine (movable_v _ _ X0.out).mono ?_); rintro e w' ⟨rfl, rfl⟩) | (go_at_call 18; (with_reducible refine (movable_v _ _ I0.out).mono ?_); rintro e w' ⟨rfl, rfl⟩))
      all_goals go_ret
      exact ⟨ret_int M.out.symm, hb0.out⟩
  · have X0 := hid (show (!farG x) = false by simp [hX])
    have M := hid (mvG_far (x := x) (a := i) (n := n) (m := m) (r := r) (.inl hX))
    clear hX
    go_enter Try.func9, Try.ntmps9
    go_wp2_with (first | (go_at_call 18; (with_reducible refine (movable_v _ _ X0.out).mono ?_); rintro e w' ⟨rfl, rfl⟩))
    all_goals go_ret
    exact ⟨ret_int M.out.symm, hb0.out⟩
theorem place_v {y : Int} {a1 a2 : Option Addr} {c1 c2 n m : Nat} {x i : Int} {r : Bool} (w : World) (hn : n ≤ 35184372088832) (hm : m ≤ 35184372088832) (h : mvG x i n m r = y) :
    Calls Try.prog 9 #[.int .i64 x, .agg #[.int .i64 i, .slice a1 n c1, .slice a2 m c2], .bool r] w fun e w' => e = .returned (.int .i64 y) ∧ Below w.heap.size w w' := by subst h; exact place_c a1 a2 c1 c2 n m x i r w hn hm

set_option maxRecDepth 20000 in
set_option maxHeartbeats 4000000 in
theorem moved_c (a1 a2 : Option Addr) (c1 c2 n m : Nat) (x i : Int) (r : Bool) (w : World) (hn : n ≤ 35184372088832) (hm : m ≤ 35184372088832) :
    Calls Try.prog 10 #[.int .i64 x, .agg #[.int .i64 i, .slice a1 n c1, .slice a2 m c2], .bool r] w fun e w' => e = .returned (.int .i64 (mvG x i n m r)) ∧ Below w.heap.size w w' := by
  have hb0 : Hid (Below w.heap.size w (w.alloc (.cells #[.int .i64 i, .slice a1 n c1, .slice a2 m c2] 24))) := (Below.refl _ _).alloc (Nat.le_refl _) _
  cases hX : farG x
  · cases hI : farG i
    · have X0 := hid hX
      have I0 := hid hI
      have M := hid (mvG_near (n := n) (m := m) (r := r) hX hI)
      obtain ⟨x0, x1⟩ := farG_in hX
      obtain ⟨i0, i1⟩ := farG_in hI
      clear hX hI
      rcases (show x < i ∨ (x = i ∧ n = 0) ∨ (x = i ∧ 0 < n) ∨ (i < x ∧ x < i + n) ∨ (i < x ∧ x = i + n) ∨ (i < x ∧ i + n < x) by omega) with p1 | ⟨p1, p2⟩ | ⟨p1, p2⟩ | ⟨p1, p2⟩ | ⟨p1, p2⟩ | ⟨p1, p2⟩
      all_goals try subst p1
      all_goals try subst p2
      all_goals
        go_enter Try.func10, Try.ntmps10
        go_wp2_with (first | (go_at_call 19; (with_reducible refine (far_v _ _ X0.out).mono ?_); rintro e w' ⟨rfl, rfl⟩) | (go_at_call 19; (with_reducible refine (far_v _ _ I0.out).mono ?_); rintro e w' ⟨rfl, rfl⟩))
        go_quiet (fail)
        go_wp2
        all_goals go_ret
        all_goals (refine ⟨ret_int ?_, bdrewN hb0.out _⟩; rw [M.out]; go_light; (repeat' split) <;> (first | omega | (simp_all; done) | (simp_all; omega)))
    · have I0 := hid hI
      have X0 := hid hX
      have M := hid (mvG_far (x := x) (a := i) (n := n) (m := m) (r := r) (.inr hI))
      clear hX hI
      go_enter Try.func10, Try.ntmps10
      go_wp2_with (first | (go_at_call 19; (with_reducible refine (far_v _ _ X0.out).mono ?_); rintro e w' ⟨rfl, rfl⟩) | (go_at_call 19; (with_reducible refine (far_v _ _ I0.out).mono ?_); rintro e w' ⟨rfl, rfl⟩))
      all_goals go_ret
      exact ⟨ret_int M.out.symm, hb0.out⟩
  · have X0 := hid hX
    have M := hid (mvG_far (x := x) (a := i) (n := n) (m := m) (r := r) (.inl hX))
    clear hX
    go_enter Try.func10, Try.ntmps10
    go_wp2_with (first | (go_at_call 19; (with_reducible refine (far_v _ _ X0.out).mono ?_); rintro e w' ⟨rfl, rfl⟩))
    all_goals go_ret
    exact ⟨ret_int M.out.symm, hb0.out⟩
theorem moved_v {y : Int} {a1 a2 : Option Addr} {c1 c2 n m : Nat} {x i : Int} {r : Bool} (w : World) (hn : n ≤ 35184372088832) (hm : m ≤ 35184372088832) (h : mvG x i n m r = y) :
    Calls Try.prog 10 #[.int .i64 x, .agg #[.int .i64 i, .slice a1 n c1, .slice a2 m c2], .bool r] w fun e w' => e = .returned (.int .i64 y) ∧ Below w.heap.size w w' := by subst h; exact moved_c a1 a2 c1 c2 n m x i r w hn hm
end Go.Proofs.Ythciodfkhgpegaa
