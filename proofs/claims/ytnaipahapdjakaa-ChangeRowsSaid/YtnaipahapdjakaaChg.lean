/- Package standishref1: Within, MayChange, Splice, Apply. -/
import Derived.Test.YtnaipahapdjakaaChf
namespace Go.Proofs.Ytnaipahapdjakaa
open Go.RowKit

def wth (n a k : Int) : Bool := decide (0 ≤ a ∧ a ≤ n ∧ 0 ≤ k ∧ k ≤ n - a)
set_option maxHeartbeats 1000000 in
theorem rwithin_c (n : Nat) (a k : Int) (w : World) (hn : n ≤ 35184372088832) :
    Calls Try.prog 44 #[.int .i64 n, .int .i64 a, .int .i64 k] w fun e w' => e = .returned (.bool (wth n a k)) ∧ w = w' := by
  go_enter Try.func44, Try.ntmps44
  go_wp2
  all_goals go_ret
  all_goals (refine ⟨ret_bool ?_, rfl⟩; go_light; rw [Bool.eq_iff_iff]; ((try simp [wth] at *) <;> (first | omega | (constructor <;> intro _ <;> omega) | trivial)))
theorem rwithin_v {b : Bool} (n : Nat) (a k : Int) (w : World) (hn : n ≤ 35184372088832) (hb : wth n a k = b) :
    Calls Try.prog 44 #[.int .i64 n, .int .i64 a, .int .i64 k] w fun e w' => e = .returned (.bool b) ∧ w' = w := by subst hb; exact (rwithin_c n a k w hn).mono fun e w' h => ⟨h.1, h.2.symm⟩
theorem mayC_at2 {s : List Int} {n : Nat} {C P D : List Int} (h1 : n + C.length ≤ s.length) (hD : D = (s.take (n + C.length)).drop n) :
    mayC s ⟨n, C, P⟩ = (eqM D C && (may C && (may P && (decide ((s.length : Int) ≤ 1000) && decide ((P.length : Int) ≤ 1000 - ((s.length : Int) - C.length)))))) := by
  have e : D = (s.drop n).take C.length := by rw [hD, List.drop_take]; congr 1; omega
  rw [Bool.eq_iff_iff]
  constructor
  · intro hm
    obtain ⟨m, hn, _, h5, h8, h9, h6, h7⟩ := mayC_iff.1 hm
    simp only at hn h5 h6 h7 h9
    obtain rfl : n = m := by omega
    simp only [Bool.and_eq_true, eqM, decide_eq_true_eq]
    exact ⟨by rw [e, h5], h6, h7, by omega, by omega⟩
  · intro hm
    simp only [Bool.and_eq_true, eqM, decide_eq_true_eq] at hm
    refine mayC_iff.2 ⟨n, rfl, h1, ?_, by omega, by simp only; omega, hm.2.1, hm.2.2.1⟩
    simp only; rw [← e]; exact hm.1
set_option maxHeartbeats 4000000 in
theorem rmay_chg (a a1 a2 : Option Addr) (c c1 c2 : Nat) (l C P : List Int) (i : Int) (w : World) (h : Sl w a l) (h1 : Sl w a1 C) (h2 : Sl w a2 P) (hc : l.length ≤ c) (_hi : ir i) :
    Calls Try.prog 34 #[.slice a l.length c, .agg #[.int .i64 i, .slice a1 C.length c1, .slice a2 P.length c2]] w fun e w' => e = .returned (.bool (mayC l ⟨i, C, P⟩)) ∧ Below w.heap.size w w' := by
  have hl := h.len
  have hl1 := h1.len
  have hl2 := h2.len
  have hb0 : Hid (Below w.heap.size w (w.alloc (.cells #[.int .i64 i, .slice a1 C.length c1, .slice a2 P.length c2] 24))) := (Below.refl _ _).alloc (Nat.le_refl _) _
  cases hA : wth l.length i C.length
  · have E0 := hid hA
    have Hm : Hid (mayC l ⟨i, C, P⟩ = false) := by
      refine mayC_no fun hh => ?_
      simp [wth] at hA
      omega
    clear hA h h1 h2
    go_enter Try.func34, Try.ntmps34
    go_wp2
    go_quiet ((first | (go_at_call 44; (with_reducible refine Calls.quiet_of_same (rwithin_v l.length i C.length _ hl E0.out)))))
    go_wp2
    go_ret
    exact ⟨ret_bool (by rw [Hm.out]), bdrewN hb0.out _⟩
  · have E0 := hid hA
    simp only [wth, decide_eq_true_eq] at hA
    obtain ⟨p1, p2, p3, p4⟩ := hA
    obtain ⟨n, rfl⟩ := Int.eq_ofNat_of_zero_le p1
    obtain ⟨a3, c3, D, HD, sD, hDc, hrun⟩ := slice_mid h n (n + C.length) c (by omega) (by omega) hc
    simp only [Int.natCast_add] at hrun
    have hwr : IntKind.i64.wrap ((n : Int) + (C.length : Int)) = (n : Int) + (C.length : Int) := by rw [IntKind.wrap_i64]; omega
    have Hm := hid (mayC_at2 (P := P) (show n + C.length ≤ l.length by omega) HD.out)
    have SD := hid (sD.alloc (.cells #[.int .i64 n, .slice a1 C.length c1, .slice a2 P.length c2] 24))
    have SC := hid (h1.alloc (.cells #[.int .i64 n, .slice a1 C.length c1, .slice a2 P.length c2] 24))
    have SP := hid (h2.alloc (.cells #[.int .i64 n, .slice a1 C.length c1, .slice a2 P.length c2] 24))
    clear h h1 h2 sD p1 p3
    cases e1 : eqM D C
    · have E1 := hid e1; clear e1
      go_enter Try.func34, Try.ntmps34
      go_wp2
      go_quiet ((first | (go_at_call 44; (with_reducible refine Calls.quiet_of_same (rwithin_v l.length n C.length _ hl E0.out))) | (go_at_call 20; (with_reducible refine Calls.quiet_of (rsame_v a3 a1 c3 c1 D C _ (SD.out.drewN _) (SC.out.drewN _) E1.out)))))
      go_wp2
      go_ret
      exact ⟨ret_bool (by rw [Hm.out, E1.out]; rfl), bdrewN hb0.out _⟩
    · have E1 := hid e1; clear e1
      cases e2 : may C
      · have E2 := hid e2; clear e2
        go_enter Try.func34, Try.ntmps34
        go_wp2
        go_quiet ((first | (go_at_call 44; (with_reducible refine Calls.quiet_of_same (rwithin_v l.length n C.length _ hl E0.out))) | (go_at_call 20; (with_reducible refine Calls.quiet_of (rsame_v a3 a1 c3 c1 D C _ (SD.out.drewN _) (SC.out.drewN _) E1.out))) | (go_at_call 31; (with_reducible refine Calls.quiet_of_same (rmay_v a1 c1 C _ (SC.out.drewN _) E2.out)))))
        go_wp2
        go_ret
        exact ⟨ret_bool (by rw [Hm.out, E1.out, E2.out]; rfl), bdrewN hb0.out _⟩
      · have E2 := hid e2; clear e2
        cases e3 : may P
        · have E3 := hid e3; clear e3
          go_enter Try.func34, Try.ntmps34
          go_wp2
          go_quiet ((first | (go_at_call 44; (with_reducible refine Calls.quiet_of_same (rwithin_v l.length n C.length _ hl E0.out))) | (go_at_call 20; (with_reducible refine Calls.quiet_of (rsame_v a3 a1 c3 c1 D C _ (SD.out.drewN _) (SC.out.drewN _) E1.out))) | (go_at_call 31; (with_reducible refine Calls.quiet_of_same (rmay_v a1 c1 C _ (SC.out.drewN _) E2.out))) | (go_at_call 31; (with_reducible refine Calls.quiet_of_same (rmay_v a2 c2 P _ (SP.out.drewN _) E3.out)))))
          go_wp2
          go_ret
          exact ⟨ret_bool (by rw [Hm.out, E1.out, E2.out, E3.out]; rfl), bdrewN hb0.out _⟩
        · have E3 := hid e3; clear e3
          cases e4 : decide ((l.length : Int) ≤ 1000)
          · go_enter Try.func34, Try.ntmps34
            go_wp2
            go_quiet ((first | (go_at_call 44; (with_reducible refine Calls.quiet_of_same (rwithin_v l.length n C.length _ hl E0.out))) | (go_at_call 20; (with_reducible refine Calls.quiet_of (rsame_v a3 a1 c3 c1 D C _ (SD.out.drewN _) (SC.out.drewN _) E1.out))) | (go_at_call 31; (with_reducible refine Calls.quiet_of_same (rmay_v a1 c1 C _ (SC.out.drewN _) E2.out))) | (go_at_call 31; (with_reducible refine Calls.quiet_of_same (rmay_v a2 c2 P _ (SP.out.drewN _) E3.out)))))
            go_wp2
            go_ret
            exact ⟨ret_bool (by rw [Hm.out, E1.out, E2.out, E3.out, e4]; rfl), bdrewN hb0.out _⟩
          · cases e5 : decide ((P.length : Int) ≤ 1000 - ((l.length : Int) - C.length))
            all_goals
              go_enter Try.func34, Try.ntmps34
              go_wp2
              go_quiet ((first | (go_at_call 44; (with_reducible refine Calls.quiet_of_same (rwithin_v l.length n C.length _ hl E0.out))) | (go_at_call 20; (with_reducible refine Calls.quiet_of (rsame_v a3 a1 c3 c1 D C _ (SD.out.drewN _) (SC.out.drewN _) E1.out))) | (go_at_call 31; (with_reducible refine Calls.quiet_of_same (rmay_v a1 c1 C _ (SC.out.drewN _) E2.out))) | (go_at_call 31; (with_reducible refine Calls.quiet_of_same (rmay_v a2 c2 P _ (SP.out.drewN _) E3.out)))))
              go_wp2
              go_ret
              exact ⟨ret_bool (by rw [Hm.out, E1.out, E2.out, E3.out, e4, e5]; rfl), bdrewN hb0.out _⟩
end Go.Proofs.Ytnaipahapdjakaa
