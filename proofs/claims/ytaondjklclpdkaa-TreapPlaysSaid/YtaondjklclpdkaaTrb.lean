/- Which mark stands ahead, which lies above; which spans may be: of the code, of the document. -/
import Derived.Test.YtaondjklclpdkaaTra
import Derived.Test.YtaondjklclpdkaaTsa
namespace Go.Proofs.Ytaondjklclpdkaa
open Go.RowKit

/-- a mark as a value -/
theorem dec_of {p : Prop} [Decidable p] {b : Bool} (h : b = true ↔ p) : b = decide p := by
  cases b <;> simp_all
/-- what a comparison tells: new memory alone is written -/
def Tld (w : World) (b : Bool) (e : Ending) (w' : World) : Prop := e = .returned (.bool b) ∧ Below w.heap.size w w'
set_option maxHeartbeats 4000000 in
theorem precedes_c (a b : Mk) (w : World) :
    Calls Try.prog 50 #[.agg #[.int .i64 a.id, .int .i64 a.fr, .int .i64 a.to, .int .i64 a.pr], .agg #[.int .i64 b.id, .int .i64 b.fr, .int .i64 b.to, .int .i64 b.pr]] w (Tld w (decide (ahd a b))) := by
  obtain ⟨ai, af, at_, ap⟩ := a
  obtain ⟨bi, bf, bt, bp⟩ := b
  dsimp only
  by_cases h1 : af = bf
  · subst h1
    by_cases h2 : at_ = bt
    · subst h2
      have hx : decide (ahd ⟨ai, af, at_, ap⟩ ⟨bi, af, at_, bp⟩) = decide (ai < bi) := by
        apply decide_eq_decide.2; simp [ahd] <;> (intros; omega)
      rw [hx]
      go_enter Try.func50, Try.ntmps50
      go_wp2
      go_ret
      exact ⟨rfl, by (repeat' (first | exact Below.refl _ _ | assumption | refine bdrewN ?_ _ | refine Below.drew ?_ | refine bal ?_ _ | refine bthen ?_ (by assumption)))⟩
    · have hx : decide (ahd ⟨ai, af, at_, ap⟩ ⟨bi, af, bt, bp⟩) = decide (bt < at_) := by
        apply decide_eq_decide.2; simp [ahd] <;> (intros; omega)
      rw [hx]
      have ht : (at_ == bt) = false := by simpa using h2
      go_enter Try.func50, Try.ntmps50
      go_wp2
      go_ret
      exact ⟨rfl, by (repeat' (first | exact Below.refl _ _ | assumption | refine bdrewN ?_ _ | refine Below.drew ?_ | refine bal ?_ _ | refine bthen ?_ (by assumption)))⟩
  · have hx : decide (ahd ⟨ai, af, at_, ap⟩ ⟨bi, bf, bt, bp⟩) = decide (af < bf) := by
      apply decide_eq_decide.2; simp [ahd] <;> (intros; omega)
    rw [hx]
    have ht : (af == bf) = false := by simpa using h1
    go_enter Try.func50, Try.ntmps50
    go_wp2
    go_ret
    exact ⟨rfl, by (repeat' (first | exact Below.refl _ _ | assumption | refine bdrewN ?_ _ | refine Below.drew ?_ | refine bal ?_ _ | refine bthen ?_ (by assumption)))⟩
set_option maxHeartbeats 4000000 in
theorem ahead_c (a b : Mk) (w : World) :
    Calls Try.prog 21 #[.agg #[.int .i64 a.id, .int .i64 a.fr, .int .i64 a.to, .int .i64 a.pr], .agg #[.int .i64 b.id, .int .i64 b.fr, .int .i64 b.to, .int .i64 b.pr]] w (Tld w (decide (ahd a b))) := by
  obtain ⟨ai, af, at_, ap⟩ := a
  obtain ⟨bi, bf, bt, bp⟩ := b
  dsimp only
  by_cases h1 : af = bf
  · subst h1
    by_cases h2 : at_ = bt
    · subst h2
      have hx : decide (ahd ⟨ai, af, at_, ap⟩ ⟨bi, af, at_, bp⟩) = decide (ai < bi) := by
        apply decide_eq_decide.2; simp [ahd] <;> (intros; omega)
      rw [hx]
      go_enter Try.func21, Try.ntmps21
      go_wp2
      go_ret
      exact ⟨rfl, by (repeat' (first | exact Below.refl _ _ | assumption | refine bdrewN ?_ _ | refine Below.drew ?_ | refine bal ?_ _ | refine bthen ?_ (by assumption)))⟩
    · have hx : decide (ahd ⟨ai, af, at_, ap⟩ ⟨bi, af, bt, bp⟩) = decide (bt < at_) := by
        apply decide_eq_decide.2; simp [ahd] <;> (intros; omega)
      rw [hx]
      have ht : (at_ == bt) = false := by simpa using h2
      go_enter Try.func21, Try.ntmps21
      go_wp2
      go_ret
      exact ⟨rfl, by (repeat' (first | exact Below.refl _ _ | assumption | refine bdrewN ?_ _ | refine Below.drew ?_ | refine bal ?_ _ | refine bthen ?_ (by assumption)))⟩
  · have hx : decide (ahd ⟨ai, af, at_, ap⟩ ⟨bi, bf, bt, bp⟩) = decide (af < bf) := by
      apply decide_eq_decide.2; simp [ahd] <;> (intros; omega)
    rw [hx]
    have ht : (af == bf) = false := by simpa using h1
    go_enter Try.func21, Try.ntmps21
    go_wp2
    go_ret
    exact ⟨rfl, by (repeat' (first | exact Below.refl _ _ | assumption | refine bdrewN ?_ _ | refine Below.drew ?_ | refine bal ?_ _ | refine bthen ?_ (by assumption)))⟩
set_option maxHeartbeats 4000000 in
theorem outranks_c (a b : Mk) (w : World) :
    Calls Try.prog 48 #[.agg #[.int .i64 a.id, .int .i64 a.fr, .int .i64 a.to, .int .i64 a.pr], .agg #[.int .i64 b.id, .int .i64 b.fr, .int .i64 b.to, .int .i64 b.pr]] w (Tld w (decide (ovr a b))) := by
  obtain ⟨ai, af, at_, ap⟩ := a
  obtain ⟨bi, bf, bt, bp⟩ := b
  dsimp only
  by_cases h1 : ap = bp
  · subst h1
    have hx : decide (ovr ⟨ai, af, at_, ap⟩ ⟨bi, bf, bt, ap⟩) = decide (ai < bi) := by
      apply decide_eq_decide.2; simp [ovr] <;> (intros; omega)
    rw [hx]
    go_enter Try.func48, Try.ntmps48
    go_wp2
    go_ret
    exact ⟨rfl, by (repeat' (first | exact Below.refl _ _ | assumption | refine bdrewN ?_ _ | refine Below.drew ?_ | refine bal ?_ _ | refine bthen ?_ (by assumption)))⟩
  · have hx : decide (ovr ⟨ai, af, at_, ap⟩ ⟨bi, bf, bt, bp⟩) = decide (bp < ap) := by
      apply decide_eq_decide.2; simp [ovr] <;> (intros; omega)
    rw [hx]
    have ht : (ap == bp) = false := by simpa using h1
    go_enter Try.func48, Try.ntmps48
    go_wp2
    go_ret
    exact ⟨rfl, by (repeat' (first | exact Below.refl _ _ | assumption | refine bdrewN ?_ _ | refine Below.drew ?_ | refine bal ?_ _ | refine bthen ?_ (by assumption)))⟩
set_option maxHeartbeats 4000000 in
theorem over_c (a b : Mk) (w : World) :
    Calls Try.prog 43 #[.agg #[.int .i64 a.id, .int .i64 a.fr, .int .i64 a.to, .int .i64 a.pr], .agg #[.int .i64 b.id, .int .i64 b.fr, .int .i64 b.to, .int .i64 b.pr]] w (Tld w (decide (ovr a b))) := by
  obtain ⟨ai, af, at_, ap⟩ := a
  obtain ⟨bi, bf, bt, bp⟩ := b
  dsimp only
  by_cases h1 : bp < ap
  · have hx : decide (ovr ⟨ai, af, at_, ap⟩ ⟨bi, bf, bt, bp⟩) = true := by
      apply decide_eq_true; simp only [ovr]; omega
    rw [hx]
    have ht : decide (bp < ap) = true := by simpa using h1
    go_enter Try.func43, Try.ntmps43
    go_wp2
    go_ret
    exact ⟨rfl, by (repeat' (first | exact Below.refl _ _ | assumption | refine bdrewN ?_ _ | refine Below.drew ?_ | refine bal ?_ _ | refine bthen ?_ (by assumption)))⟩
  · have ht : decide (bp < ap) = false := by simpa using h1
    by_cases h2 : ap = bp
    · subst h2
      have hx : decide (ovr ⟨ai, af, at_, ap⟩ ⟨bi, bf, bt, ap⟩) = decide (ai < bi) := by
        apply decide_eq_decide.2; simp [ovr] <;> (intros; omega)
      rw [hx]
      go_enter Try.func43, Try.ntmps43
      go_wp2
      go_ret
      exact ⟨rfl, by (repeat' (first | exact Below.refl _ _ | assumption | refine bdrewN ?_ _ | refine Below.drew ?_ | refine bal ?_ _ | refine bthen ?_ (by assumption)))⟩
    · have hx : decide (ovr ⟨ai, af, at_, ap⟩ ⟨bi, bf, bt, bp⟩) = false := by
        apply decide_eq_false; simp only [ovr]; omega
      rw [hx]
      have ht2 : (ap == bp) = false := by simpa using h2
      go_enter Try.func43, Try.ntmps43
      go_wp2
      go_ret
      exact ⟨rfl, by (repeat' (first | exact Below.refl _ _ | assumption | refine bdrewN ?_ _ | refine Below.drew ?_ | refine bal ?_ _ | refine bthen ?_ (by assumption)))⟩
set_option maxHeartbeats 4000000 in
theorem may_c (f t : Int) (w : World) : Calls Try.prog 32 #[.int .i64 f, .int .i64 t] w fun e w' => e = .returned (.bool (spanOk f t)) ∧ w = w' := by
  go_enter Try.func32, Try.ntmps32
  go_wp2
  all_goals (go_ret; refine ⟨ret_bool ?_, rfl⟩; unfold spanOk; go_light; rw [Bool.eq_iff_iff]; ((try simp at *) <;> (first | omega | (constructor <;> intro _ <;> omega) | trivial)))
set_option maxHeartbeats 4000000 in
theorem bad_c (f t : Int) (w : World) : Calls Try.prog 41 #[.int .i64 f, .int .i64 t] w fun e w' => e = .returned (.bool (!spanOk f t)) ∧ w = w' := by
  go_enter Try.func41, Try.ntmps41
  go_wp2
  all_goals (go_ret; refine ⟨ret_bool ?_, rfl⟩; unfold spanOk; go_light; rw [Bool.eq_iff_iff]; ((try simp at *) <;> (first | omega | (constructor <;> intro _ <;> omega) | trivial)))
end Go.Proofs.Ytaondjklclpdkaa
