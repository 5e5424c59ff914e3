/- Package change: May, cloned; package standishref1: MayChange, Splice, Within. -/
import Derived.Test.YtnaipahapdjakaaFit
import Derived.Test.YtnaipahapdjakaaCho
namespace Go.Proofs.Ytnaipahapdjakaa
open Go.RowKit

set_option maxHeartbeats 1000000 in
theorem cloned_c (a : Option Addr) (c : Nat) (l : List Int) (w : World) (h : Sl w a l) :
    Calls Try.prog 38 #[.slice a l.length c] w (Makes w l) := by
  have hl := h.len
  have H := hid h; clear h
  go_enter Try.func38, Try.ntmps38
  go_wp2_with (at_builtin; (refine wpL_appn rfl ((.const (.slice none 0 0))) (.tmp 3) rfl w.heap.size none a 0 l.length 0 c [] l rfl (by first | rfl | simp | omega) (Own.nil _ _) rfl (by first | rfl | simp | omega) H.out (by simp; omega) (Nat.le_refl _) ?_); intro a3 c3 w3 L3 Hl3 ho3 hb3 hk3 hA3; have HA3 := hid hA3; clear hA3; have Ho3 := hid ho3; clear ho3; have Hk3 := hid hk3; clear hk3; have hz3 := hb3.size)
  go_ret
  obtain rfl : L3 = l := by rw [Hl3.out]; simp
  exact ⟨_, _, rfl, Ho3.out, hb3⟩

/-! the same contracts, the outcome named -/
theorem same_v {b : Bool} (a1 a2 : Option Addr) (c1 c2 : Nat) (l1 l2 : List Int) (w : World) (h1 : Sl w a1 l1) (h2 : Sl w a2 l2) (hb : eqM l1 l2 = b) :
    Calls Try.prog 42 #[.slice a1 l1.length c1, .slice a2 l2.length c2] w fun e w' => e = .returned (.bool b) ∧ ∃ n, w' = w.drewN n := by subst hb; exact same_c a1 a2 c1 c2 l1 l2 w h1 h2
theorem rsame_v {b : Bool} (a1 a2 : Option Addr) (c1 c2 : Nat) (l1 l2 : List Int) (w : World) (h1 : Sl w a1 l1) (h2 : Sl w a2 l2) (hb : eqM l1 l2 = b) :
    Calls Try.prog 20 #[.slice a1 l1.length c1, .slice a2 l2.length c2] w fun e w' => e = .returned (.bool b) ∧ ∃ n, w' = w.drewN n := by subst hb; exact rsame_c a1 a2 c1 c2 l1 l2 w h1 h2
theorem may_v {b : Bool} (a : Option Addr) (c : Nat) (l : List Int) (w : World) (h : Sl w a l) (hb : may l = b) :
    Calls Try.prog 43 #[.slice a l.length c] w fun e w' => e = .returned (.bool b) ∧ w' = w := by subst hb; exact (may_c a c l w h).mono fun e w' h => ⟨h.1, h.2.symm⟩
theorem rmay_v {b : Bool} (a : Option Addr) (c : Nat) (l : List Int) (w : World) (h : Sl w a l) (hb : may l = b) :
    Calls Try.prog 31 #[.slice a l.length c] w fun e w' => e = .returned (.bool b) ∧ w' = w := by subst hb; exact (rmay_c a c l w h).mono fun e w' h => ⟨h.1, h.2.symm⟩

/-- a walk's outcome of tests that fail -/
theorem mayC_no {s : List Int} {i : Int} {C P : List Int} (h : ¬(0 ≤ i ∧ i ≤ s.length ∧ C.length ≤ s.length - i ∧ s.length ≤ 1000 ∧ (s.length : Int) - C.length + P.length ≤ 1000)) : mayC s ⟨i, C, P⟩ = false := by
  rw [Bool.eq_false_iff]
  intro hm
  obtain ⟨n, hn, h1, h2, h3, h4, _⟩ := mayC_iff.1 hm
  simp only at hn h1 h2 h3 h4
  apply h
  subst hn
  omega
theorem mayC_at {s : List Int} {n : Nat} {C P D : List Int} (h1 : n + C.length ≤ s.length) (h2 : s.length ≤ 1000) (h3 : s.length - C.length + P.length ≤ 1000) (hD : D = (s.take (n + C.length)).drop n) :
    mayC s ⟨n, C, P⟩ = (eqM D C && (may C && may P)) := by
  have e : D = (s.drop n).take C.length := by rw [hD, List.drop_take]; congr 1; omega
  rw [Bool.eq_iff_iff]
  constructor
  · intro hm
    obtain ⟨m, hn, _, h5, _, _, h6, h7⟩ := mayC_iff.1 hm
    simp only at hn h5 h6 h7
    obtain rfl : n = m := by omega
    simp [eqM, e, h5, h6, h7]
  · intro hm
    simp only [Bool.and_eq_true, eqM, decide_eq_true_eq] at hm
    refine mayC_iff.2 ⟨n, rfl, h1, ?_, h2, by simp only; omega, hm.2.1, hm.2.2⟩
    simp only; rw [← e]; exact hm.1
set_option maxHeartbeats 4000000 in
theorem may_chg (a a1 a2 : Option Addr) (c c1 c2 : Nat) (l C P : List Int) (i : Int) (w : World) (h : Sl w a l) (h1 : Sl w a1 C) (h2 : Sl w a2 P) (hc : l.length ≤ c) (hi : ir i) :
    Calls Try.prog 33 #[.slice a l.length c, .agg #[.int .i64 i, .slice a1 C.length c1, .slice a2 P.length c2]] w fun e w' => e = .returned (.bool (mayC l ⟨i, C, P⟩)) ∧ Below w.heap.size w w' := by
  have hl := h.len
  have hl1 := h1.len
  have hl2 := h2.len
  unfold ir at hi
  have hb0 : Hid (Below w.heap.size w (w.alloc (.cells #[.int .i64 i, .slice a1 C.length c1, .slice a2 P.length c2] 24))) := (Below.refl _ _).alloc (Nat.le_refl _) _
  by_cases hA : 0 ≤ i ∧ i ≤ l.length ∧ C.length ≤ l.length - i ∧ l.length ≤ 1000 ∧ (l.length : Int) - C.length + P.length ≤ 1000
  · obtain ⟨p1, p2, p3, p4, p5⟩ := hA
    obtain ⟨n, rfl⟩ := Int.eq_ofNat_of_zero_le p1
    obtain ⟨a3, c3, D, HD, sD, hDc, hrun⟩ := slice_mid h n (n + C.length) c (by omega) (by omega) hc
    simp only [Int.natCast_add] at hrun
    have hwr : IntKind.i64.wrap ((n : Int) + (C.length : Int)) = (n : Int) + (C.length : Int) := by rw [IntKind.wrap_i64]; omega
    have Hm := hid (mayC_at (P := P) (show n + C.length ≤ l.length by omega) p4 (by omega) HD.out)
    have SD := hid (sD.alloc (.cells #[.int .i64 n, .slice a1 C.length c1, .slice a2 P.length c2] 24))
    have SC := hid (h1.alloc (.cells #[.int .i64 n, .slice a1 C.length c1, .slice a2 P.length c2] 24))
    have SP := hid (h2.alloc (.cells #[.int .i64 n, .slice a1 C.length c1, .slice a2 P.length c2] 24))
    clear h h1 h2 sD
    go_enter Try.func33, Try.ntmps33
    go_wp2
    cases e1 : eqM D C
    · have E1 := hid e1; clear e1
      go_quiet ((first | (go_at_call 42; (with_reducible refine Calls.quiet_of (same_v a3 a1 c3 c1 D C _ (SD.out.drewN _) (SC.out.drewN _) E1.out)))))
      go_wp2
      go_ret
      exact ⟨ret_bool (by rw [Hm.out, E1.out]; rfl), bdrewN hb0.out _⟩
    · have E1 := hid e1; clear e1
      cases e2 : may C
      · have E2 := hid e2; clear e2
        go_quiet ((first | (go_at_call 42; (with_reducible refine Calls.quiet_of (same_v a3 a1 c3 c1 D C _ (SD.out.drewN _) (SC.out.drewN _) E1.out))) | (go_at_call 43; (with_reducible refine Calls.quiet_of_same (may_v a1 c1 C _ (SC.out.drewN _) E2.out)))))
        go_wp2
        go_ret
        exact ⟨ret_bool (by rw [Hm.out, E1.out, E2.out]; rfl), bdrewN hb0.out _⟩
      · have E2 := hid e2; clear e2
        cases e3 : may P
        all_goals
          have E3 := hid e3; clear e3
          go_quiet ((first | (go_at_call 42; (with_reducible refine Calls.quiet_of (same_v a3 a1 c3 c1 D C _ (SD.out.drewN _) (SC.out.drewN _) E1.out))) | (go_at_call 43; (with_reducible refine Calls.quiet_of_same (may_v a1 c1 C _ (SC.out.drewN _) E2.out))) | (go_at_call 43; (with_reducible refine Calls.quiet_of_same (may_v a2 c2 P _ (SP.out.drewN _) E3.out)))))
          go_wp2
          go_ret
          exact ⟨ret_bool (by rw [Hm.out, E1.out, E2.out, E3.out]; rfl), bdrewN hb0.out _⟩
  · have Hm := hid (mayC_no (P := P) hA)
    have hB : i < 0 ∨ (0 ≤ i ∧ (l.length : Int) < i) ∨ (0 ≤ i ∧ i ≤ l.length ∧ (l.length : Int) - i < C.length) ∨ (0 ≤ i ∧ i ≤ l.length ∧ C.length ≤ l.length - i ∧ 1000 < l.length) ∨ (0 ≤ i ∧ i ≤ l.length ∧ C.length ≤ l.length - i ∧ l.length ≤ 1000 ∧ 1000 < (l.length : Int) - C.length + P.length) := by omega
    clear hA
    rcases hB with p | ⟨p1, p2⟩ | ⟨p1, p2, p3⟩ | ⟨p1, p2, p3, p4⟩ | ⟨p1, p2, p3, p4, p5⟩
    all_goals (go_enter Try.func33, Try.ntmps33; go_wp2; go_ret; exact ⟨ret_bool (by rw [Hm.out]), hb0.out⟩)
end Go.Proofs.Ytnaipahapdjakaa
