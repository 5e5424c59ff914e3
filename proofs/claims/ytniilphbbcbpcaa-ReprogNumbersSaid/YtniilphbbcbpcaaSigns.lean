/- Contracts of package signs and of the document's own answers for it: the functions of one number. -/
import Derived.Test.YtniilphbbcbpcaaSignsM
namespace Go.Proofs.Ytniilphbbcbpcaa
open Go.RowKit

set_option maxHeartbeats 400000 in
theorem between_c (r a b : Int) (w : World) :
    Calls Try.prog 60 #[.int .i32 r, .int .i32 a, .int .i32 b] w fun e w' => e = .returned (.bool (btw r a b)) ∧ w = w' := by
  go_enter Try.func60, Try.ntmps60
  go_wp2
  all_goals go_ret
  all_goals (refine ⟨ret_bool ?_, rfl⟩; go_light; rw [Bool.eq_iff_iff]; ((try simp [btw] at *) <;> (first | omega | (constructor <;> intro _ <;> omega) | trivial)))

set_option maxHeartbeats 400000 in
theorem small_c (r : Int) (w : World) :
    Calls Try.prog 61 #[.int .i32 r] w fun e w' => e = .returned (.bool (sml r)) ∧ w = w' := by
  go_enter Try.func61, Try.ntmps61
  go_wp2_with (go_at_call 60; (with_reducible refine (between_c _ _ _ _).mono ?_); rintro e w' ⟨rfl, rfl⟩)
  all_goals go_ret
  all_goals (refine ⟨ret_bool ?_, rfl⟩; go_light; rw [Bool.eq_iff_iff]; ((try simp [btw, sml] at *) <;> (first | omega | (constructor <;> intro _ <;> omega) | trivial)))

set_option maxHeartbeats 400000 in
theorem capital_c (r : Int) (w : World) :
    Calls Try.prog 62 #[.int .i32 r] w fun e w' => e = .returned (.bool (cpt r)) ∧ w = w' := by
  go_enter Try.func62, Try.ntmps62
  go_wp2_with (go_at_call 60; (with_reducible refine (between_c _ _ _ _).mono ?_); rintro e w' ⟨rfl, rfl⟩)
  all_goals go_ret
  all_goals (refine ⟨ret_bool ?_, rfl⟩; go_light; rw [Bool.eq_iff_iff]; ((try simp [btw, cpt] at *) <;> (first | omega | (constructor <;> intro _ <;> omega) | trivial)))

set_option maxHeartbeats 1000000 in
theorem class_c (r : Int) (w : World) :
    Calls Try.prog 43 #[.int .i32 r] w fun e w' => e = .returned (.int .i64 (cls r)) ∧ w = w' := by
  go_enter Try.func43, Try.ntmps43
  go_wp2_with (first
    | (go_at_call 60; (with_reducible refine (between_c _ _ _ _).mono ?_); rintro e w' ⟨rfl, rfl⟩)
    | (go_at_call 61; (with_reducible refine (small_c _ _).mono ?_); rintro e w' ⟨rfl, rfl⟩)
    | (go_at_call 62; (with_reducible refine (capital_c _ _).mono ?_); rintro e w' ⟨rfl, rfl⟩))
  all_goals go_ret
  all_goals (refine ⟨ret_int (cls_eq ?_), rfl⟩; go_light; ((try simp [btw, sml, cpt] at *) <;> (first | omega | (constructor <;> intro _ <;> omega) | trivial)))

/-! the document's own -/
set_option maxHeartbeats 400000 in
theorem rsign_c (r : Int) (w : World) :
    Calls Try.prog 31 #[.int .i32 r] w fun e w' => e = .returned (.bool (sgn r)) ∧ w = w' := by
  go_enter Try.func31, Try.ntmps31
  go_wp2
  all_goals go_ret
  all_goals (refine ⟨ret_bool ?_, rfl⟩; go_light; rw [Bool.eq_iff_iff]; ((try simp [sgn] at *) <;> (first | omega | (constructor <;> intro _ <;> omega) | trivial)))

def ltr (r : Int) : Bool := decide ((97 ≤ r ∧ r ≤ 122) ∨ (65 ≤ r ∧ r ≤ 90))
def dgt (r : Int) : Bool := decide (48 ≤ r ∧ r ≤ 57)
set_option maxHeartbeats 400000 in
theorem rletter_c (r : Int) (w : World) :
    Calls Try.prog 93 #[.int .i32 r] w fun e w' => e = .returned (.bool (ltr r)) ∧ w = w' := by
  go_enter Try.func93, Try.ntmps93
  go_wp2
  all_goals go_ret
  all_goals (refine ⟨ret_bool ?_, rfl⟩; go_light; rw [Bool.eq_iff_iff]; ((try simp [ltr] at *) <;> (first | omega | (constructor <;> intro _ <;> omega) | trivial)))
set_option maxHeartbeats 400000 in
theorem rdigit_c (r : Int) (w : World) :
    Calls Try.prog 92 #[.int .i32 r] w fun e w' => e = .returned (.bool (dgt r)) ∧ w = w' := by
  go_enter Try.func92, Try.ntmps92
  go_wp2
  all_goals go_ret
  all_goals (refine ⟨ret_bool ?_, rfl⟩; go_light; rw [Bool.eq_iff_iff]; ((try simp [dgt] at *) <;> (first | omega | (constructor <;> intro _ <;> omega) | trivial)))
set_option maxHeartbeats 1000000 in
theorem rclass_c (r : Int) (w : World) :
    Calls Try.prog 91 #[.int .i32 r] w fun e w' => e = .returned (.int .i64 (cls r)) ∧ w = w' := by
  go_enter Try.func91, Try.ntmps91
  go_wp2_with (first
    | (go_at_call 31; (with_reducible refine (rsign_c _ _).mono ?_); rintro e w' ⟨rfl, rfl⟩)
    | (go_at_call 93; (with_reducible refine (rletter_c _ _).mono ?_); rintro e w' ⟨rfl, rfl⟩)
    | (go_at_call 92; (with_reducible refine (rdigit_c _ _).mono ?_); rintro e w' ⟨rfl, rfl⟩))
  all_goals go_ret
  all_goals (refine ⟨ret_int (cls_eq ?_), rfl⟩; go_light; ((try simp [sgn, ltr, dgt] at *) <;> (first | omega | (constructor <;> intro _ <;> omega) | trivial)))
theorem up_eq {r c : Int} (h : (c = r - 32 ∧ ((97 ≤ r ∧ r ≤ 122) ∨ (224 ≤ r ∧ r ≤ 254 ∧ r ≠ 247))) ∨ (c = r ∧ ¬((97 ≤ r ∧ r ≤ 122) ∨ (224 ≤ r ∧ r ≤ 254 ∧ r ≠ 247)))) : c = up r := by
  unfold up; split <;> rename_i h1 <;> simp only [sml, decide_eq_true_eq] at h1 <;> omega
theorem lo_eq {r c : Int} (h : (c = r + 32 ∧ ((65 ≤ r ∧ r ≤ 90) ∨ (192 ≤ r ∧ r ≤ 222 ∧ r ≠ 215))) ∨ (c = r ∧ ¬((65 ≤ r ∧ r ≤ 90) ∨ (192 ≤ r ∧ r ≤ 222 ∧ r ≠ 215)))) : c = lo r := by
  unfold lo; split <;> rename_i h1 <;> simp only [cpt, decide_eq_true_eq] at h1 <;> omega
set_option maxHeartbeats 400000 in
theorem rlower_c (r : Int) (w : World) (h : -2147483648 ≤ r ∧ r ≤ 2147483647) :
    Calls Try.prog 90 #[.int .i32 r] w fun e w' => e = .returned (.int .i32 (lo r)) ∧ w = w' := by
  go_enter Try.func90, Try.ntmps90
  go_wp2
  all_goals go_ret
  all_goals (refine ⟨ret_int (lo_eq ?_), rfl⟩; go_light; ((try simp at *) <;> (first | omega | (constructor <;> intro _ <;> omega) | trivial)))
end Go.Proofs.Ytniilphbbcbpcaa
