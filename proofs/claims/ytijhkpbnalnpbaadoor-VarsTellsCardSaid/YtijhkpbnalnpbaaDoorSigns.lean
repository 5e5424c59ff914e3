/- Contracts of package signs and of the document's own answers for it: the functions of one number. -/
import Derived.Test.YtijhkpbnalnpbaaDoorSignsM
namespace Go.Proofs.YtijhkpbnalnpbaaDoor
open Go.RowKit

set_option maxHeartbeats 400000 in
theorem between_c (r a b : Int) (w : World) :
    Calls Tryd.prog 67 #[.int .i32 r, .int .i32 a, .int .i32 b] w fun e w' => e = .returned (.bool (btw r a b)) ∧ w = w' := by
  go_enter Tryd.func67, Tryd.ntmps67
  go_wp2
  all_goals go_ret
  all_goals (refine ⟨ret_bool ?_, rfl⟩; go_light; rw [Bool.eq_iff_iff]; ((try simp [btw] at *) <;> (first | omega | (constructor <;> intro _ <;> omega) | trivial)))

set_option maxHeartbeats 400000 in
theorem small_c (r : Int) (w : World) :
    Calls Tryd.prog 68 #[.int .i32 r] w fun e w' => e = .returned (.bool (sml r)) ∧ w = w' := by
  go_enter Tryd.func68, Tryd.ntmps68
  go_wp2_with (go_at_call 67; (with_reducible refine (between_c _ _ _ _).mono ?_); rintro e w' ⟨rfl, rfl⟩)
  all_goals go_ret
  all_goals (refine ⟨ret_bool ?_, rfl⟩; go_light; rw [Bool.eq_iff_iff]; ((try simp [btw, sml] at *) <;> (first | omega | (constructor <;> intro _ <;> omega) | trivial)))

set_option maxHeartbeats 400000 in
theorem capital_c (r : Int) (w : World) :
    Calls Tryd.prog 69 #[.int .i32 r] w fun e w' => e = .returned (.bool (cpt r)) ∧ w = w' := by
  go_enter Tryd.func69, Tryd.ntmps69
  go_wp2_with (go_at_call 67; (with_reducible refine (between_c _ _ _ _).mono ?_); rintro e w' ⟨rfl, rfl⟩)
  all_goals go_ret
  all_goals (refine ⟨ret_bool ?_, rfl⟩; go_light; rw [Bool.eq_iff_iff]; ((try simp [btw, cpt] at *) <;> (first | omega | (constructor <;> intro _ <;> omega) | trivial)))

set_option maxHeartbeats 1000000 in
theorem class_c (r : Int) (w : World) :
    Calls Tryd.prog 56 #[.int .i32 r] w fun e w' => e = .returned (.int .i64 (cls r)) ∧ w = w' := by
  go_enter Tryd.func56, Tryd.ntmps56
  go_wp2_with (first
    | (go_at_call 67; (with_reducible refine (between_c _ _ _ _).mono ?_); rintro e w' ⟨rfl, rfl⟩)
    | (go_at_call 68; (with_reducible refine (small_c _ _).mono ?_); rintro e w' ⟨rfl, rfl⟩)
    | (go_at_call 69; (with_reducible refine (capital_c _ _).mono ?_); rintro e w' ⟨rfl, rfl⟩))
  all_goals go_ret
  all_goals (refine ⟨ret_int (cls_eq ?_), rfl⟩; go_light; ((try simp [btw, sml, cpt] at *) <;> (first | omega | (constructor <;> intro _ <;> omega) | trivial)))

/-! the document's own -/
set_option maxHeartbeats 400000 in
theorem rsign_c (r : Int) (w : World) :
    Calls Tryd.prog 57 #[.int .i32 r] w fun e w' => e = .returned (.bool (sgn r)) ∧ w = w' := by
  go_enter Tryd.func57, Tryd.ntmps57
  go_wp2
  all_goals go_ret
  all_goals (refine ⟨ret_bool ?_, rfl⟩; go_light; rw [Bool.eq_iff_iff]; ((try simp [sgn] at *) <;> (first | omega | (constructor <;> intro _ <;> omega) | trivial)))

def ltr (r : Int) : Bool := decide ((97 ≤ r ∧ r ≤ 122) ∨ (65 ≤ r ∧ r ≤ 90))
def dgt (r : Int) : Bool := decide (48 ≤ r ∧ r ≤ 57)
theorem up_eq {r c : Int} (h : (c = r - 32 ∧ ((97 ≤ r ∧ r ≤ 122) ∨ (224 ≤ r ∧ r ≤ 254 ∧ r ≠ 247))) ∨ (c = r ∧ ¬((97 ≤ r ∧ r ≤ 122) ∨ (224 ≤ r ∧ r ≤ 254 ∧ r ≠ 247)))) : c = up r := by
  unfold up; split <;> rename_i h1 <;> simp only [sml, decide_eq_true_eq] at h1 <;> omega
theorem lo_eq {r c : Int} (h : (c = r + 32 ∧ ((65 ≤ r ∧ r ≤ 90) ∨ (192 ≤ r ∧ r ≤ 222 ∧ r ≠ 215))) ∨ (c = r ∧ ¬((65 ≤ r ∧ r ≤ 90) ∨ (192 ≤ r ∧ r ≤ 222 ∧ r ≠ 215)))) : c = lo r := by
  unfold lo; split <;> rename_i h1 <;> simp only [cpt, decide_eq_true_eq] at h1 <;> omega
end Go.Proofs.YtijhkpbnalnpbaaDoor
