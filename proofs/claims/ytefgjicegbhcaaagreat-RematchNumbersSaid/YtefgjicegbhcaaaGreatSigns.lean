/- Contracts of package signs and of the document's own answers for it: the functions of one number. -/
import Derived.Test.YtefgjicegbhcaaaGreatSignsM
namespace Go.Proofs.YtefgjicegbhcaaaGreat
open Go.RowKit

set_option maxHeartbeats 400000 in
theorem between_c (r a b : Int) (w : World) :
    Calls Tryz.prog 105 #[.int .i32 r, .int .i32 a, .int .i32 b] w fun e w' => e = .returned (.bool (btw r a b)) ∧ w = w' := by
  go_enter Tryz.func105, Tryz.ntmps105
  go_wp2
  all_goals go_ret
  all_goals (refine ⟨ret_bool ?_, rfl⟩; go_light; rw [Bool.eq_iff_iff]; ((try simp [btw] at *) <;> (first | omega | (constructor <;> intro _ <;> omega) | trivial)))

set_option maxHeartbeats 400000 in
theorem small_c (r : Int) (w : World) :
    Calls Tryz.prog 106 #[.int .i32 r] w fun e w' => e = .returned (.bool (sml r)) ∧ w = w' := by
  go_enter Tryz.func106, Tryz.ntmps106
  go_wp2_with (go_at_call 105; (with_reducible refine (between_c _ _ _ _).mono ?_); rintro e w' ⟨rfl, rfl⟩)
  all_goals go_ret
  all_goals (refine ⟨ret_bool ?_, rfl⟩; go_light; rw [Bool.eq_iff_iff]; ((try simp [btw, sml] at *) <;> (first | omega | (constructor <;> intro _ <;> omega) | trivial)))

set_option maxHeartbeats 400000 in
theorem capital_c (r : Int) (w : World) :
    Calls Tryz.prog 107 #[.int .i32 r] w fun e w' => e = .returned (.bool (cpt r)) ∧ w = w' := by
  go_enter Tryz.func107, Tryz.ntmps107
  go_wp2_with (go_at_call 105; (with_reducible refine (between_c _ _ _ _).mono ?_); rintro e w' ⟨rfl, rfl⟩)
  all_goals go_ret
  all_goals (refine ⟨ret_bool ?_, rfl⟩; go_light; rw [Bool.eq_iff_iff]; ((try simp [btw, cpt] at *) <;> (first | omega | (constructor <;> intro _ <;> omega) | trivial)))

set_option maxHeartbeats 1000000 in
theorem class_c (r : Int) (w : World) :
    Calls Tryz.prog 78 #[.int .i32 r] w fun e w' => e = .returned (.int .i64 (cls r)) ∧ w = w' := by
  go_enter Tryz.func78, Tryz.ntmps78
  go_wp2_with (first
    | (go_at_call 105; (with_reducible refine (between_c _ _ _ _).mono ?_); rintro e w' ⟨rfl, rfl⟩)
    | (go_at_call 106; (with_reducible refine (small_c _ _).mono ?_); rintro e w' ⟨rfl, rfl⟩)
    | (go_at_call 107; (with_reducible refine (capital_c _ _).mono ?_); rintro e w' ⟨rfl, rfl⟩))
  all_goals go_ret
  all_goals (refine ⟨ret_int (cls_eq ?_), rfl⟩; go_light; ((try simp [btw, sml, cpt] at *) <;> (first | omega | (constructor <;> intro _ <;> omega) | trivial)))

set_option maxHeartbeats 400000 in
theorem upper_c (r : Int) (w : World) (h : -2147483648 ≤ r ∧ r ≤ 2147483647) :
    Calls Tryz.prog 117 #[.int .i32 r] w fun e w' => e = .returned (.int .i32 (up r)) ∧ w = w' := by
  by_cases hs : sml r = true
  · have hu : up r = r - 32 := by simp [up, hs]
    have h3 : 97 ≤ r ∧ r ≤ 254 := by simp [sml] at hs; omega
    have H := hid hu; clear hu
    go_enter Tryz.func117, Tryz.ntmps117
    go_wp2_with (go_at_call 106; (with_reducible refine (small_c _ _).mono ?_); rintro e w' ⟨rfl, rfl⟩)
    go_ret
    exact ⟨by rw [H.out]; rfl, rfl⟩
  · have hu : up r = r := by simp [up, hs]
    have hs' : sml r = false := by simpa using hs
    have H := hid hu; clear hu hs
    go_enter Tryz.func117, Tryz.ntmps117
    go_wp2_with (go_at_call 106; (with_reducible refine (small_c _ _).mono ?_); rintro e w' ⟨rfl, rfl⟩)
    go_ret
    exact ⟨by rw [H.out]; rfl, rfl⟩
set_option maxHeartbeats 400000 in
theorem lower_c (r : Int) (w : World) (h : -2147483648 ≤ r ∧ r ≤ 2147483647) :
    Calls Tryz.prog 118 #[.int .i32 r] w fun e w' => e = .returned (.int .i32 (lo r)) ∧ w = w' := by
  by_cases hs : cpt r = true
  · have hu : lo r = r + 32 := by simp [lo, hs]
    have h3 : 65 ≤ r ∧ r ≤ 254 := by simp [cpt] at hs; omega
    have H := hid hu; clear hu
    go_enter Tryz.func118, Tryz.ntmps118
    go_wp2_with (go_at_call 107; (with_reducible refine (capital_c _ _).mono ?_); rintro e w' ⟨rfl, rfl⟩)
    go_ret
    exact ⟨by rw [H.out]; rfl, rfl⟩
  · have hu : lo r = r := by simp [lo, hs]
    have hs' : cpt r = false := by simpa using hs
    have H := hid hu; clear hu hs
    go_enter Tryz.func118, Tryz.ntmps118
    go_wp2_with (go_at_call 107; (with_reducible refine (capital_c _ _).mono ?_); rintro e w' ⟨rfl, rfl⟩)
    go_ret
    exact ⟨by rw [H.out]; rfl, rfl⟩
set_option maxHeartbeats 400000 in
theorem ofRun_c (r : Int) (w : World) :
    Calls Tryz.prog 133 #[.int .i32 r] w fun e w' => e = .returned (.bool (runs r)) ∧ w = w' := by
  go_enter Tryz.func133, Tryz.ntmps133
  go_wp2_with (go_at_call 78; (with_reducible refine (class_c _ _).mono ?_); rintro e w' ⟨rfl, rfl⟩)
  all_goals go_ret
  all_goals (refine ⟨ret_bool ?_, rfl⟩; go_light; rw [Bool.eq_iff_iff]; ((try simp [runs] at *) <;> (first | omega | (constructor <;> intro _ <;> omega) | trivial)))

/-! the document's own -/
set_option maxHeartbeats 400000 in
theorem rsign_c (r : Int) (w : World) :
    Calls Tryz.prog 56 #[.int .i32 r] w fun e w' => e = .returned (.bool (sgn r)) ∧ w = w' := by
  go_enter Tryz.func56, Tryz.ntmps56
  go_wp2
  all_goals go_ret
  all_goals (refine ⟨ret_bool ?_, rfl⟩; go_light; rw [Bool.eq_iff_iff]; ((try simp [sgn] at *) <;> (first | omega | (constructor <;> intro _ <;> omega) | trivial)))

def ltr (r : Int) : Bool := decide ((97 ≤ r ∧ r ≤ 122) ∨ (65 ≤ r ∧ r ≤ 90))
def dgt (r : Int) : Bool := decide (48 ≤ r ∧ r ≤ 57)
set_option maxHeartbeats 400000 in
theorem rletter_c (r : Int) (w : World) :
    Calls Tryz.prog 122 #[.int .i32 r] w fun e w' => e = .returned (.bool (ltr r)) ∧ w = w' := by
  go_enter Tryz.func122, Tryz.ntmps122
  go_wp2
  all_goals go_ret
  all_goals (refine ⟨ret_bool ?_, rfl⟩; go_light; rw [Bool.eq_iff_iff]; ((try simp [ltr] at *) <;> (first | omega | (constructor <;> intro _ <;> omega) | trivial)))
set_option maxHeartbeats 400000 in
theorem rdigit_c (r : Int) (w : World) :
    Calls Tryz.prog 87 #[.int .i32 r] w fun e w' => e = .returned (.bool (dgt r)) ∧ w = w' := by
  go_enter Tryz.func87, Tryz.ntmps87
  go_wp2
  all_goals go_ret
  all_goals (refine ⟨ret_bool ?_, rfl⟩; go_light; rw [Bool.eq_iff_iff]; ((try simp [dgt] at *) <;> (first | omega | (constructor <;> intro _ <;> omega) | trivial)))
set_option maxHeartbeats 1000000 in
theorem rclass_c (r : Int) (w : World) :
    Calls Tryz.prog 90 #[.int .i32 r] w fun e w' => e = .returned (.int .i64 (cls r)) ∧ w = w' := by
  go_enter Tryz.func90, Tryz.ntmps90
  go_wp2_with (first
    | (go_at_call 56; (with_reducible refine (rsign_c _ _).mono ?_); rintro e w' ⟨rfl, rfl⟩)
    | (go_at_call 122; (with_reducible refine (rletter_c _ _).mono ?_); rintro e w' ⟨rfl, rfl⟩)
    | (go_at_call 87; (with_reducible refine (rdigit_c _ _).mono ?_); rintro e w' ⟨rfl, rfl⟩))
  all_goals go_ret
  all_goals (refine ⟨ret_int (cls_eq ?_), rfl⟩; go_light; ((try simp [sgn, ltr, dgt] at *) <;> (first | omega | (constructor <;> intro _ <;> omega) | trivial)))
theorem up_eq {r c : Int} (h : (c = r - 32 ∧ ((97 ≤ r ∧ r ≤ 122) ∨ (224 ≤ r ∧ r ≤ 254 ∧ r ≠ 247))) ∨ (c = r ∧ ¬((97 ≤ r ∧ r ≤ 122) ∨ (224 ≤ r ∧ r ≤ 254 ∧ r ≠ 247)))) : c = up r := by
  unfold up; split <;> rename_i h1 <;> simp only [sml, decide_eq_true_eq] at h1 <;> omega
theorem lo_eq {r c : Int} (h : (c = r + 32 ∧ ((65 ≤ r ∧ r ≤ 90) ∨ (192 ≤ r ∧ r ≤ 222 ∧ r ≠ 215))) ∨ (c = r ∧ ¬((65 ≤ r ∧ r ≤ 90) ∨ (192 ≤ r ∧ r ≤ 222 ∧ r ≠ 215)))) : c = lo r := by
  unfold lo; split <;> rename_i h1 <;> simp only [cpt, decide_eq_true_eq] at h1 <;> omega
set_option maxHeartbeats 400000 in
theorem rupper_c (r : Int) (w : World) (h : -2147483648 ≤ r ∧ r ≤ 2147483647) :
    Calls Tryz.prog 64 #[.int .i32 r] w fun e w' => e = .returned (.int .i32 (up r)) ∧ w = w' := by
  go_enter Tryz.func64, Tryz.ntmps64
  go_wp2
  all_goals go_ret
  all_goals (refine ⟨ret_int (up_eq ?_), rfl⟩; go_light; ((try simp at *) <;> (first | omega | (constructor <;> intro _ <;> omega) | trivial)))
set_option maxHeartbeats 400000 in
theorem rlower_c (r : Int) (w : World) (h : -2147483648 ≤ r ∧ r ≤ 2147483647) :
    Calls Tryz.prog 65 #[.int .i32 r] w fun e w' => e = .returned (.int .i32 (lo r)) ∧ w = w' := by
  go_enter Tryz.func65, Tryz.ntmps65
  go_wp2
  all_goals go_ret
  all_goals (refine ⟨ret_int (lo_eq ?_), rfl⟩; go_light; ((try simp at *) <;> (first | omega | (constructor <;> intro _ <;> omega) | trivial)))
end Go.Proofs.YtefgjicegbhcaaaGreat
