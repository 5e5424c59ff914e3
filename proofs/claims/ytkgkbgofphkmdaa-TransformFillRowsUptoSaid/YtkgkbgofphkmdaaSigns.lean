/- Contracts of package signs and of the document's own answers for it: the functions of one number. -/
import Derived.Test.YtkgkbgofphkmdaaSignsM
namespace Go.Proofs.Ytkgkbgofphkmdaa
open Go.RowKit

set_option maxHeartbeats 400000 in
theorem between_c (r a b : Int) (w : World) :
    Calls Try.prog 42 #[.int .i32 r, .int .i32 a, .int .i32 b] w fun e w' => e = .returned (.bool (btw r a b)) ∧ w = w' := by
  go_enter Try.func42, Try.ntmps42
  go_wp2
  all_goals go_ret
  all_goals (refine ⟨ret_bool ?_, rfl⟩; go_light; rw [Bool.eq_iff_iff]; ((try simp [btw] at *) <;> (first | omega | (constructor <;> intro _ <;> omega) | trivial)))

set_option maxHeartbeats 400000 in
theorem small_c (r : Int) (w : World) :
    Calls Try.prog 43 #[.int .i32 r] w fun e w' => e = .returned (.bool (sml r)) ∧ w = w' := by
  go_enter Try.func43, Try.ntmps43
  go_wp2_with (go_at_call 42; (with_reducible refine (between_c _ _ _ _).mono ?_); rintro e w' ⟨rfl, rfl⟩)
  all_goals go_ret
  all_goals (refine ⟨ret_bool ?_, rfl⟩; go_light; rw [Bool.eq_iff_iff]; ((try simp [btw, sml] at *) <;> (first | omega | (constructor <;> intro _ <;> omega) | trivial)))

set_option maxHeartbeats 400000 in
theorem capital_c (r : Int) (w : World) :
    Calls Try.prog 44 #[.int .i32 r] w fun e w' => e = .returned (.bool (cpt r)) ∧ w = w' := by
  go_enter Try.func44, Try.ntmps44
  go_wp2_with (go_at_call 42; (with_reducible refine (between_c _ _ _ _).mono ?_); rintro e w' ⟨rfl, rfl⟩)
  all_goals go_ret
  all_goals (refine ⟨ret_bool ?_, rfl⟩; go_light; rw [Bool.eq_iff_iff]; ((try simp [btw, cpt] at *) <;> (first | omega | (constructor <;> intro _ <;> omega) | trivial)))

set_option maxHeartbeats 1000000 in
theorem class_c (r : Int) (w : World) :
    Calls Try.prog 28 #[.int .i32 r] w fun e w' => e = .returned (.int .i64 (cls r)) ∧ w = w' := by
  go_enter Try.func28, Try.ntmps28
  go_wp2_with (first
    | (go_at_call 42; (with_reducible refine (between_c _ _ _ _).mono ?_); rintro e w' ⟨rfl, rfl⟩)
    | (go_at_call 43; (with_reducible refine (small_c _ _).mono ?_); rintro e w' ⟨rfl, rfl⟩)
    | (go_at_call 44; (with_reducible refine (capital_c _ _).mono ?_); rintro e w' ⟨rfl, rfl⟩))
  all_goals go_ret
  all_goals (refine ⟨ret_int (cls_eq ?_), rfl⟩; go_light; ((try simp [btw, sml, cpt] at *) <;> (first | omega | (constructor <;> intro _ <;> omega) | trivial)))

set_option maxHeartbeats 400000 in
theorem upper_c (r : Int) (w : World) (h : -2147483648 ≤ r ∧ r ≤ 2147483647) :
    Calls Try.prog 73 #[.int .i32 r] w fun e w' => e = .returned (.int .i32 (up r)) ∧ w = w' := by
  by_cases hs : sml r = true
  · have hu : up r = r - 32 := by simp [up, hs]
    have h3 : 97 ≤ r ∧ r ≤ 254 := by simp [sml] at hs; omega
    have H := hid hu; clear hu
    go_enter Try.func73, Try.ntmps73
    go_wp2_with (go_at_call 43; (with_reducible refine (small_c _ _).mono ?_); rintro e w' ⟨rfl, rfl⟩)
    go_ret
    exact ⟨by rw [H.out]; rfl, rfl⟩
  · have hu : up r = r := by simp [up, hs]
    have hs' : sml r = false := by simpa using hs
    have H := hid hu; clear hu hs
    go_enter Try.func73, Try.ntmps73
    go_wp2_with (go_at_call 43; (with_reducible refine (small_c _ _).mono ?_); rintro e w' ⟨rfl, rfl⟩)
    go_ret
    exact ⟨by rw [H.out]; rfl, rfl⟩
set_option maxHeartbeats 400000 in
theorem lower_c (r : Int) (w : World) (h : -2147483648 ≤ r ∧ r ≤ 2147483647) :
    Calls Try.prog 74 #[.int .i32 r] w fun e w' => e = .returned (.int .i32 (lo r)) ∧ w = w' := by
  by_cases hs : cpt r = true
  · have hu : lo r = r + 32 := by simp [lo, hs]
    have h3 : 65 ≤ r ∧ r ≤ 254 := by simp [cpt] at hs; omega
    have H := hid hu; clear hu
    go_enter Try.func74, Try.ntmps74
    go_wp2_with (go_at_call 44; (with_reducible refine (capital_c _ _).mono ?_); rintro e w' ⟨rfl, rfl⟩)
    go_ret
    exact ⟨by rw [H.out]; rfl, rfl⟩
  · have hu : lo r = r := by simp [lo, hs]
    have hs' : cpt r = false := by simpa using hs
    have H := hid hu; clear hu hs
    go_enter Try.func74, Try.ntmps74
    go_wp2_with (go_at_call 44; (with_reducible refine (capital_c _ _).mono ?_); rintro e w' ⟨rfl, rfl⟩)
    go_ret
    exact ⟨by rw [H.out]; rfl, rfl⟩
set_option maxHeartbeats 400000 in
theorem ofRun_c (r : Int) (w : World) :
    Calls Try.prog 86 #[.int .i32 r] w fun e w' => e = .returned (.bool (runs r)) ∧ w = w' := by
  go_enter Try.func86, Try.ntmps86
  go_wp2_with (go_at_call 28; (with_reducible refine (class_c _ _).mono ?_); rintro e w' ⟨rfl, rfl⟩)
  all_goals go_ret
  all_goals (refine ⟨ret_bool ?_, rfl⟩; go_light; rw [Bool.eq_iff_iff]; ((try simp [runs] at *) <;> (first | omega | (constructor <;> intro _ <;> omega) | trivial)))

/-! the document's own -/
set_option maxHeartbeats 400000 in
theorem rsign_c (r : Int) (w : World) :
    Calls Try.prog 5 #[.int .i32 r] w fun e w' => e = .returned (.bool (sgn r)) ∧ w = w' := by
  go_enter Try.func5, Try.ntmps5
  go_wp2
  all_goals go_ret
  all_goals (refine ⟨ret_bool ?_, rfl⟩; go_light; rw [Bool.eq_iff_iff]; ((try simp [sgn] at *) <;> (first | omega | (constructor <;> intro _ <;> omega) | trivial)))

def ltr (r : Int) : Bool := decide ((97 ≤ r ∧ r ≤ 122) ∨ (65 ≤ r ∧ r ≤ 90))
def dgt (r : Int) : Bool := decide (48 ≤ r ∧ r ≤ 57)
set_option maxHeartbeats 400000 in
theorem rdigit_c (r : Int) (w : World) :
    Calls Try.prog 56 #[.int .i32 r] w fun e w' => e = .returned (.bool (dgt r)) ∧ w = w' := by
  go_enter Try.func56, Try.ntmps56
  go_wp2
  all_goals go_ret
  all_goals (refine ⟨ret_bool ?_, rfl⟩; go_light; rw [Bool.eq_iff_iff]; ((try simp [dgt] at *) <;> (first | omega | (constructor <;> intro _ <;> omega) | trivial)))
theorem up_eq {r c : Int} (h : (c = r - 32 ∧ ((97 ≤ r ∧ r ≤ 122) ∨ (224 ≤ r ∧ r ≤ 254 ∧ r ≠ 247))) ∨ (c = r ∧ ¬((97 ≤ r ∧ r ≤ 122) ∨ (224 ≤ r ∧ r ≤ 254 ∧ r ≠ 247)))) : c = up r := by
  unfold up; split <;> rename_i h1 <;> simp only [sml, decide_eq_true_eq] at h1 <;> omega
theorem lo_eq {r c : Int} (h : (c = r + 32 ∧ ((65 ≤ r ∧ r ≤ 90) ∨ (192 ≤ r ∧ r ≤ 222 ∧ r ≠ 215))) ∨ (c = r ∧ ¬((65 ≤ r ∧ r ≤ 90) ∨ (192 ≤ r ∧ r ≤ 222 ∧ r ≠ 215)))) : c = lo r := by
  unfold lo; split <;> rename_i h1 <;> simp only [cpt, decide_eq_true_eq] at h1 <;> omega
end Go.Proofs.Ytkgkbgofphkmdaa
