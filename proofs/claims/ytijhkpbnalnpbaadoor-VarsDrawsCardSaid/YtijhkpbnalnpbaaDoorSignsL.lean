/- Contracts of layer 1: the functions that read lists: May, Same, Less of package signs, of the document's own, and slices.Equal, slices.Compare. -/
import Derived.Test.YtijhkpbnalnpbaaDoorSigns
namespace Go.Proofs.YtijhkpbnalnpbaaDoor
open Go.RowKit

theorem may_app (l : List Int) (x : Int) : may (l ++ [x]) = (may l && sgn x) := by simp [may]
theorem may_snoc_false {l : List Int} {k : Nat} (hk : k < l.length) (h : sgn (gt l k) = false) : may l = false := by
  cases hm : may l with
  | false => rfl
  | true => rw [may, List.all_eq_true] at hm; rw [hm _ (gt_mem hk)] at h; cases h

set_option maxHeartbeats 400000 in
theorem may_c (a : Option Addr) (c : Nat) (l : List Int) (w : World) (h : Sl w a l) :
    Calls Tryd.prog 46 #[.slice a l.length c] w fun e w' => e = .returned (.bool (may l)) ∧ w = w' := by
  have hl := h.len
  go_enter Tryd.func46, Tryd.ntmps46
  go_wp2
  go_loop [7] (fun i => ∃ k : Nat, k ≤ l.length ∧ i = .int .i64 k ∧ Hid (may (l.take k) = true)) (fun i => l.length - (intOf i).toNat)
  case atStart => exact ⟨0, Nat.zero_le _, rfl, rfl⟩
  case round =>
    obtain ⟨k, hk, rfl, hm⟩ := hrel
    by_cases hlt : k < l.length
    · obtain ⟨b, o, rfl, hc⟩ := h.at hlt
      have ck := hc k hlt
      have Hs : Hid (sgn (gt l k) = false → may l = false) := may_snoc_false hlt
      have Ht : Hid (l.take (k + 1) = l.take k ++ [gt l k]) := take_succ hlt
      have Hc : Hid (cls (gt l k) = 0 ↔ sgn (gt l k) = false) := by
        unfold Hid cls; split
        · rename_i h1; simp only [h1]; constructor
          · intro h2; split at h2
            · cases h2
            · split at h2
              · cases h2
              · split at h2 <;> cases h2
          · intro h2; cases h2
        · rename_i h1; simpa using h1
      clear hc
      by_cases h0 : cls (gt l k) = 0
      · have h0' : (cls (gt l k) == 0) = true := by simpa using h0
        have H0 := hid h0; clear h0
        go_wp2_with (go_at_call 56; (with_reducible refine (class_c _ _).mono ?_); rintro e w' ⟨rfl, rfl⟩)
        go_ret
        exact ⟨ret_bool (Hs.out (Hc.out.1 H0.out)).symm, rfl⟩
      · have h0' : (cls (gt l k) == 0) = false := by simpa using h0
        have H0 := hid h0; clear h0
        go_wp2_with (go_at_call 56; (with_reducible refine (class_c _ _).mono ?_); rintro e w' ⟨rfl, rfl⟩)
        go_round
        case rel =>
          refine ⟨k + 1, by omega, by go_num, ?_⟩
          unfold Hid at *; rw [Ht, may_app, hm]
          cases hs : sgn (gt l k) with
          | true => rfl
          | false => exact absurd (Hc.2 hs) H0
        case measure => simp [intOf]; omega
    · go_wp2
      go_ret
      have : l.take k = l := List.take_of_length_le (by omega)
      exact ⟨ret_bool (by unfold Hid at hm; rw [this] at hm; exact hm.symm), rfl⟩

set_option maxHeartbeats 400000 in
theorem rmay_c (a : Option Addr) (c : Nat) (l : List Int) (w : World) (h : Sl w a l) :
    Calls Tryd.prog 47 #[.slice a l.length c] w fun e w' => e = .returned (.bool (may l)) ∧ w = w' := by
  have hl := h.len
  go_enter Tryd.func47, Tryd.ntmps47
  go_wp2
  go_loop [3] (fun i => ∃ k : Nat, k ≤ l.length ∧ i = .int .i64 k ∧ Hid (may (l.take k) = true)) (fun i => l.length - (intOf i).toNat)
  case atStart => exact ⟨0, Nat.zero_le _, rfl, rfl⟩
  case round =>
    obtain ⟨k, hk, rfl, hm⟩ := hrel
    by_cases hlt : k < l.length
    · obtain ⟨b, o, rfl, hc⟩ := h.at hlt
      have ck := hc k hlt
      have Hs : Hid (sgn (gt l k) = false → may l = false) := may_snoc_false hlt
      have Ht : Hid (l.take (k + 1) = l.take k ++ [gt l k]) := take_succ hlt
      clear hc
      by_cases h0 : sgn (gt l k) = true
      · have H0 := hid h0
        go_wp2_with (go_at_call 57; (with_reducible refine (rsign_c _ _).mono ?_); rintro e w' ⟨rfl, rfl⟩)
        go_round
        case rel =>
          refine ⟨k + 1, by omega, by go_num, ?_⟩
          unfold Hid at *; rw [Ht, may_app, hm, H0]; rfl
        case measure => simp [intOf]; omega
      · have h0' : sgn (gt l k) = false := by simpa using h0
        have H0 := hid h0'; clear h0
        go_wp2_with (go_at_call 57; (with_reducible refine (rsign_c _ _).mono ?_); rintro e w' ⟨rfl, rfl⟩)
        go_ret
        exact ⟨ret_bool (Hs.out H0.out).symm, rfl⟩
    · go_wp2
      go_ret
      have : l.take k = l := List.take_of_length_le (by omega)
      exact ⟨ret_bool (by unfold Hid at hm; rw [this] at hm; exact hm.symm), rfl⟩

/-! equality -/


set_option maxHeartbeats 400000 in
theorem equal_c (a1 a2 : Option Addr) (c1 c2 : Nat) (l1 l2 : List Int) (w : World) (h1 : Sl w a1 l1) (h2 : Sl w a2 l2) :
    Calls Tryd.prog 48 #[.slice a1 l1.length c1, .slice a2 l2.length c2] w fun e w' => e = .returned (.bool (eqM l1 l2)) ∧ ∃ n, w' = w.drewN n := by
  have hl1 := h1.len
  have hl2 := h2.len
  go_enter Tryd.func48, Tryd.ntmps48
  by_cases hlen : l1.length = l2.length
  · have hl : ((l1.length : Int) != l2.length) = false := by simp [hlen]
    have Hlen := hid hlen; clear hlen
    go_wp2
    go_loopw [13] (fun i wr => ∃ k : Nat, k ≤ l1.length ∧ i = .int .i64 k ∧ Hid (l1.take k = l2.take k) ∧ ∃ n, wr = w.drewN n) (fun i _ => l1.length - (intOf i).toNat)
    case atStart => exact ⟨0, Nat.zero_le _, rfl, rfl, 0, rfl⟩
    case round =>
      obtain ⟨k, hk, rfl, hm, n, rfl⟩ := hrel
      by_cases hlt : k < l1.length
      · obtain ⟨b1, o1, rfl, hc1⟩ := h1.at hlt
        obtain ⟨b2, o2, rfl, hc2⟩ := h2.at (i := k) (by have := Hlen.out; omega)
        have c1k := hc1 k hlt
        have c2k := hc2 k (by have := Hlen.out; omega)
        have hlt2 : k < l2.length := (by have := Hlen.out; omega)
        have Hts : Hid (l1.take (k + 1) = l1.take k ++ [gt l1 k] ∧ l2.take (k + 1) = l2.take k ++ [gt l2 k]) := ⟨take_succ hlt, take_succ hlt2⟩
        clear hc1 hc2
        go_wp2
        go_quiet (fail)
        go_wp2
        · have hne : (gt l1 k != gt l2 k) = true := by assumption
          go_ret
          exact ⟨ret_bool (by simp [eqM, take_ne hlt hlt2 (by simpa using hne)]), by first | exact ⟨_, rfl⟩ | exact drewN_ex _ _ _ | exact drewN_ex2 _ _ _ _⟩
        · have heq : (gt l1 k != gt l2 k) = false := by assumption
          go_round
          case rel => exact ⟨k + 1, by omega, by go_num, by (unfold Hid at *; rw [Hts.1, Hts.2, hm, show gt l1 k = gt l2 k from by simpa using heq]), _, rfl⟩
          case measure => simp [intOf]; omega
      · go_wp2
        go_ret
        exact ⟨ret_bool (by
          have e1 : l1.take k = l1 := List.take_of_length_le (by omega)
          have e2 : l2.take k = l2 := List.take_of_length_le (by have := Hlen.out; omega)
          unfold Hid at hm; rw [e1, e2] at hm; simp [eqM, hm]), _, rfl⟩
  · have hl : ((l1.length : Int) != l2.length) = true := by simp; omega
    go_wp2
    go_ret
    refine ⟨ret_bool ?_, 0, rfl⟩
    have : l1 ≠ l2 := fun h => hlen (by rw [h])
    simp [eqM, this]

set_option maxHeartbeats 400000 in
theorem rsame_c (a1 a2 : Option Addr) (c1 c2 : Nat) (l1 l2 : List Int) (w : World) (h1 : Sl w a1 l1) (h2 : Sl w a2 l2) :
    Calls Tryd.prog 14 #[.slice a1 l1.length c1, .slice a2 l2.length c2] w fun e w' => e = .returned (.bool (eqM l1 l2)) ∧ ∃ n, w' = w.drewN n := by
  have hl1 := h1.len
  have hl2 := h2.len
  go_enter Tryd.func14, Tryd.ntmps14
  by_cases hlen : l1.length = l2.length
  · have hl : ((l1.length : Int) != l2.length) = false := by simp [hlen]
    have Hlen := hid hlen; clear hlen
    go_wp2
    go_loopw [5] (fun i wr => ∃ k : Nat, k ≤ l1.length ∧ i = .int .i64 k ∧ Hid (l1.take k = l2.take k) ∧ ∃ n, wr = w.drewN n) (fun i _ => l1.length - (intOf i).toNat)
    case atStart => exact ⟨0, Nat.zero_le _, rfl, rfl, 0, rfl⟩
    case round =>
      obtain ⟨k, hk, rfl, hm, n, rfl⟩ := hrel
      by_cases hlt : k < l1.length
      · obtain ⟨b1, o1, rfl, hc1⟩ := h1.at hlt
        obtain ⟨b2, o2, rfl, hc2⟩ := h2.at (i := k) (by have := Hlen.out; omega)
        have c1k := hc1 k hlt
        have c2k := hc2 k (by have := Hlen.out; omega)
        have hlt2 : k < l2.length := (by have := Hlen.out; omega)
        have Hts : Hid (l1.take (k + 1) = l1.take k ++ [gt l1 k] ∧ l2.take (k + 1) = l2.take k ++ [gt l2 k]) := ⟨take_succ hlt, take_succ hlt2⟩
        clear hc1 hc2
        go_wp2
        go_quiet (fail)
        go_wp2
        · have hne : (gt l1 k != gt l2 k) = true := by assumption
          go_ret
          exact ⟨ret_bool (by simp [eqM, take_ne hlt hlt2 (by simpa using hne)]), by first | exact ⟨_, rfl⟩ | exact drewN_ex _ _ _ | exact drewN_ex2 _ _ _ _⟩
        · have heq : (gt l1 k != gt l2 k) = false := by assumption
          go_round
          case rel => exact ⟨k + 1, by omega, by go_num, by (unfold Hid at *; rw [Hts.1, Hts.2, hm, show gt l1 k = gt l2 k from by simpa using heq]), _, rfl⟩
          case measure => simp [intOf]; omega
      · go_wp2
        go_ret
        exact ⟨ret_bool (by
          have e1 : l1.take k = l1 := List.take_of_length_le (by omega)
          have e2 : l2.take k = l2 := List.take_of_length_le (by have := Hlen.out; omega)
          unfold Hid at hm; rw [e1, e2] at hm; simp [eqM, hm]), _, rfl⟩
  · have hl : ((l1.length : Int) != l2.length) = true := by simp; omega
    go_wp2
    go_ret
    refine ⟨ret_bool ?_, 0, rfl⟩
    have : l1 ≠ l2 := fun h => hlen (by rw [h])
    simp [eqM, this]

theorem same_c (a1 a2 : Option Addr) (c1 c2 : Nat) (l1 l2 : List Int) (w : World) (h1 : Sl w a1 l1) (h2 : Sl w a2 l2) :
    Calls Tryd.prog 36 #[.slice a1 l1.length c1, .slice a2 l2.length c2] w fun e w' => e = .returned (.bool (eqM l1 l2)) ∧ ∃ n, w' = w.drewN n := by
  go_enter Tryd.func36, Tryd.ntmps36
  go_wp2_with (go_at_call 48; refine (equal_c _ _ _ _ _ _ _ h1 h2).mono ?_; rintro e w' ⟨rfl, n, rfl⟩)
  go_ret
  exact ⟨rfl, _, rfl⟩

/-! order -/
def cmpM (x y : Int) : Int := if x < y then -1 else if y < x then 1 else 0
def lcmp : List Int → List Int → Int
  | [], [] => 0
  | [], _ :: _ => -1
  | _ :: _, [] => 1
  | a :: l, b :: r => if cmpM a b = 0 then lcmp l r else cmpM a b
theorem cmpM_zero {x y : Int} : cmpM x y = 0 ↔ x = y := by
  unfold cmpM; split
  · omega
  · split <;> omega
theorem cmpM_neg (x y : Int) : decide (cmpM x y < 0) = decide (x < y) := by
  unfold cmpM; split
  · rename_i h; simp [h]
  · rename_i h; simp only [h]; split <;> simp
theorem decide_congr {p q : Prop} [Decidable p] [Decidable q] (h : p ↔ q) : decide p = decide q := by
  rw [Bool.eq_iff_iff]; simpa using h
theorem less_lcmp (l r : List Int) : less l r = decide (lcmp l r < 0) := by
  induction l generalizing r with
  | nil => cases r <;> simp [less, lcmp]
  | cons a l ih =>
    cases r with
    | nil => simp [less, lcmp]
    | cons b r =>
      simp only [less, lcmp, cmpM_zero]
      by_cases h : a = b
      · simp only [h, if_true]; exact ih r
      · simp only [h, if_false, cmpM]
        rw [Bool.eq_iff_iff]; simp only [decide_eq_true_eq]
        split
        · omega
        · split <;> omega
theorem lcmp_range (l r : List Int) : -1 ≤ lcmp l r ∧ lcmp l r ≤ 1 := by
  induction l generalizing r with
  | nil => cases r <;> simp [lcmp]
  | cons a l ih =>
    cases r with
    | nil => simp [lcmp]
    | cons b r =>
      simp only [lcmp]; split
      · exact ih r
      · unfold cmpM; split
        · omega
        · split <;> omega
theorem drop_cons {l : List Int} {k : Nat} (h : k < l.length) : l.drop k = gt l k :: l.drop (k + 1) := by
  rw [List.drop_eq_getElem_cons h, gt_get h]
theorem lcmp_drop {l r : List Int} {k : Nat} (hl : k ≤ l.length) (hr : k ≤ r.length) (h : l.take k = r.take k) : lcmp l r = lcmp (l.drop k) (r.drop k) := by
  induction k generalizing l r with
  | zero => simp
  | succ k ih =>
    cases l with
    | nil => simp at hl
    | cons a l =>
      cases r with
      | nil => simp at hr
      | cons b r =>
        simp only [List.take_succ_cons, List.cons.injEq] at h
        simp only [List.length_cons] at hl hr
        obtain ⟨rfl, h⟩ := h
        simp only [lcmp, List.drop_succ_cons, cmpM_zero.2 rfl, if_true]
        exact ih (by omega) (by omega) h

end Go.Proofs.YtijhkpbnalnpbaaDoor
