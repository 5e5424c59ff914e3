/- Package lex: the kind of a sign, what a token takes, one token, the fault, the tokens. -/
import Derived.Test.YtefgjicegbhcaaaLxM
import Derived.Test.YtefgjicegbhcaaaLxS
import Derived.Test.YtefgjicegbhcaaaKeepR
import Derived.Laws.ResultCell
namespace Go.Proofs.Ytefgjicegbhcaaa
open Go.RowKit

theorem has_mrk (r : Int) : hasB { data := #[36, 123, 125, 58, 124, 44, 47, 92] } r = mrk r := by
  unfold hasB mrk
  rw [Bool.eq_iff_iff]
  simp
  omega
theorem kno_eq {r c : Int} (h : (48 ≤ r ∧ r ≤ 57 ∧ c = 1) ∨ (((97 ≤ r ∧ r ≤ 122) ∨ (65 ≤ r ∧ r ≤ 90) ∨ r = 95) ∧ c = 2) ∨ (mrk r = true ∧ c = r) ∨ (¬ (48 ≤ r ∧ r ≤ 57) ∧ ¬ ((97 ≤ r ∧ r ≤ 122) ∨ (65 ≤ r ∧ r ≤ 90) ∨ r = 95) ∧ mrk r = false ∧ c = 0)) : c = kno r := by
  unfold kno
  rcases h with ⟨h1, h2, rfl⟩ | ⟨h1, rfl⟩ | ⟨h1, rfl⟩ | ⟨h1, h2, h3, rfl⟩
  · rw [if_pos (by simp only [dgi, decide_eq_true_eq]; omega)]
  · rw [if_neg (by simp only [dgi, decide_eq_true_eq]; omega), if_pos (by simp only [bgn, decide_eq_true_eq]; omega)]
  · rw [if_neg (by simp only [mrk, decide_eq_true_eq] at h1; simp only [dgi, decide_eq_true_eq]; omega), if_neg (by simp only [mrk, decide_eq_true_eq] at h1; simp only [bgn, decide_eq_true_eq]; omega), if_pos h1]
  · rw [if_neg (by simp only [dgi, decide_eq_true_eq]; omega), if_neg (by simp only [bgn, decide_eq_true_eq]; omega), if_neg (by rw [h3]; decide)]
set_option maxHeartbeats 1000000 in
theorem kind_c (r : Int) (w : World) (h : sgn r = true) :
    Calls Try.prog 35 #[.int .i32 r] w fun e w' => e = .returned (.int .i64 (kno r)) ∧ Below w.heap.size w w' := by
  have hc := hid (crune_c { data := #[36, 123, 125, 58, 124, 44, 47, 92] } r w (by decide) (by decide) h)
  rw [has_mrk] at hc
  have hr : 0 ≤ r ∧ r ≤ 1114111 := by simp only [sgn, decide_eq_true_eq] at h; omega
  go_enter Try.func35, Try.ntmps35
  go_wp2_with (go_at_call 41; refine hc.out.mono ?_; rintro e w' ⟨rfl, hb⟩)
  all_goals go_ret
  all_goals (refine ⟨ret_int (kno_eq ?_), by first | assumption | exact Below.refl _ _⟩; go_light; first | exact .inr (.inr (.inl ⟨by assumption, rfl⟩)) | (refine .inr (.inr (.inr ⟨?_, ?_, by assumption, rfl⟩)) <;> (simp at *; omega)) | (simp at *; omega))
theorem tke_def (k r : Int) : tke k r = (decide (k = 2 ∧ (kno r = 2 ∨ kno r = 1)) || decide (k = 1 ∧ kno r = 1) || decide (k = 0 ∧ kno r = 0)) := by
  have e2 : gos r = decide (kno r = 2 ∨ kno r = 1) := by
    rw [Bool.eq_iff_iff]
    rcases kno_cases r with ⟨h1, h2⟩ | ⟨h1, h2⟩ | ⟨h1, h2⟩ | ⟨h1, h2, h3⟩
    · simp only [dgi, gos, decide_eq_true_eq] at h2 ⊢; omega
    · simp only [bgn, gos, decide_eq_true_eq] at h2 ⊢; omega
    · have := mrk_ge h2; simp only [mrk, gos, decide_eq_true_eq] at h2 ⊢; omega
    · rw [h3]; simp; omega
  have e1 : dgi r = decide (kno r = 1) := by
    rw [Bool.eq_iff_iff]
    rcases kno_cases r with ⟨h1, h2⟩ | ⟨h1, h2⟩ | ⟨h1, h2⟩ | ⟨h1, h2, h3⟩
    · rw [h2]; simp; omega
    · unfold kno at h1
      by_cases hd : dgi r = true
      · rw [if_pos hd] at h1; omega
      · simp [hd]; unfold kno; rw [if_neg hd, if_pos h2]; decide
    · have := mrk_ge h2; simp only [mrk, dgi, decide_eq_true_eq] at h2 ⊢; omega
    · simp only [gos, dgi, decide_eq_false_iff_not, decide_eq_true_eq] at h3 ⊢; omega
  have e0 : (!mrk r && !gos r) = decide (kno r = 0) := by
    rw [Bool.eq_iff_iff]
    rcases kno_cases r with ⟨h1, h2⟩ | ⟨h1, h2⟩ | ⟨h1, h2⟩ | ⟨h1, h2, h3⟩
    · simp only [dgi, decide_eq_true_eq] at h2
      have : gos r = true := by simp only [gos, decide_eq_true_eq]; omega
      rw [this]; simp; omega
    · simp only [bgn, decide_eq_true_eq] at h2
      have : gos r = true := by simp only [gos, decide_eq_true_eq]; omega
      rw [this]; simp; omega
    · have := mrk_ge h2; rw [h2]; simp; omega
    · rw [h2, h3]; simp; omega
  unfold tke
  rw [e0, e2, e1]
  by_cases h2 : k = 2
  · subst h2; simp
  · by_cases h1 : k = 1
    · subst h1; simp
    · by_cases h0 : k = 0
      · subst h0; simp
      · simp [h0, h1, h2]
set_option maxHeartbeats 1000000 in
theorem takes_c (k r : Int) (w : World) (h : sgn r = true) :
    Calls Try.prog 36 #[.int .i64 k, .int .i32 r] w fun e w' => e = .returned (.bool (tke k r)) ∧ Below w.heap.size w w' := by
  have hc := hid (kind_c r w h)
  have ht := hid (tke_def k r)
  go_enter Try.func36, Try.ntmps36
  go_wp2_with (go_at_call 35; refine hc.out.mono ?_; rintro e w' ⟨rfl, hb⟩)
  all_goals go_ret
  all_goals (refine ⟨ret_bool ?_, by assumption⟩; rw [ht.out]; go_light; clear hc ht; first | (rw [Bool.eq_iff_iff]; simp at *; omega) | (simp at *; omega) | (simp [*]; done))
end Go.Proofs.Ytefgjicegbhcaaa
