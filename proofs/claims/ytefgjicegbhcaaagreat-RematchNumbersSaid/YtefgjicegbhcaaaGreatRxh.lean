/- The code's reader: the numbers of a repeat (bounds). -/
import Derived.Test.YtefgjicegbhcaaaGreatRxg
namespace Go.Proofs.YtefgjicegbhcaaaGreat
open Go.RowKit ReM

def BndP (t : Ri) (B : Nat) (w : World) (r : Nat) (a : Option Addr) (c : Nat) (p : List Int) (x y : Nat) (e' : Ending) (w' : World) : Prop := match t with
  | .ok lo hi j => e' = .returned (.tuple #[.int .i64 lo, .int .i64 hi]) ∧ Rdr B w' r a c p j x y 0 0 ∧ KR r w w'
  | .bad k => ∃ lo hi : Int, e' = .returned (.tuple #[.int .i64 lo, .int .i64 hi]) ∧ Rdr B w' r a c p p.length x y 5 k ∧ KR r w w'
theorem nx_is {p : List Int} {i : Nat} {v : Int} (h : nx p i = v) (hv : v ≠ -1) : i < p.length := by
  rcases Nat.lt_or_ge i p.length with h1 | h1
  · exact h1
  · rw [nx_end h1] at h; exact absurd h.symm hv
theorem dig_is {p : List Int} {i : Nat} (h : dig (nx p i) = true) : i < p.length ∧ 48 ≤ nx p i ∧ nx p i ≤ 57 := by
  have hd : 48 ≤ nx p i ∧ nx p i ≤ 57 := of_decide_eq_true h
  refine ⟨?_, hd⟩
  rcases Nat.lt_or_ge i p.length with h1 | h1
  · exact h1
  · rw [nx_end h1] at hd; omega
set_option maxHeartbeats 8000000 in
theorem bounds_c (B : Nat) (w : World) (r : Nat) (a : Option Addr) (c : Nat) (p : List Int) (i x y : Nat) (h : Rdr B w r a c p (i + 1) x y 0 0) (hi : i < p.length) (hl : p.length ≤ 1000) :
    Calls Tryz.prog 134 #[.pointer (some ⟨r, 0, none⟩), .int .i64 i] w (BndP (timesI p i) B w r a c p x y) := by
  unfold timesI
  by_cases d1 : dig (nx p (i + 1)) = true
  · obtain ⟨l1, g1, g2⟩ := dig_is d1
    have C1 := hid (digit_yes B w r a c p (i + 1) x y 0 0 h l1 hl d1)
    rw [if_pos d1]
    clear h d1
    by_cases e2 : nx p (i + 2) = 44
    · have l2 := nx_is e2 (by decide)
      rw [if_pos e2]
      by_cases e3 : nx p (i + 3) = 125
      · have l3 := nx_is e3 (by decide)
        rw [if_pos e3]
        unfold BndP
        generalize nx p (i + 1) = q1 at *
        go_enter Tryz.func134, Tryz.ntmps134
        go_wp2_with fail; refine (C1.out).mono ?_; rintro _ w1 ⟨rfl, h1, k1⟩; have H1 := hid h1; have K1 := hid k1; clear h1 k1
        go_wp2_with fail; refine (takes_yes 44 B _ r a c p (i + 2) x y 0 0 H1.out l2 hl e2).mono ?_; rintro _ w2 ⟨rfl, h2, k2⟩; have H2 := hid h2; have K2 := hid k2; clear h2 k2
        go_wp2_with fail; refine (next_o B _ r a c p (i + 3) x y 0 0 H2.out (by omega)).mono ?_; rintro _ w3 ⟨rfl, h3, k3⟩; have H3 := hid h3; have K3 := hid k3; clear h3 k3
        rw [e3]
        go_wp2_with fail; refine (needs_yes 125 B _ r a c p (i + 3) x y 0 0 H3.out l3 hl e3).mono ?_; rintro _ w4 ⟨rfl, h4, k4⟩; have H4 := hid h4; have K4 := hid k4; clear h4 k4
        go_wp2_with fail
        go_ret2
        exact ⟨rfl, H4.out, ((K1.out.tr K2.out).tr K3.out).tr K4.out⟩
      · rw [if_neg e3]
        have b3 : (nx p (i + 3) != 125) = true := by simpa using e3
        by_cases d3 : dig (nx p (i + 3)) = true
        · obtain ⟨l3, g3, g4⟩ := dig_is d3
          rw [if_pos d3]
          have C3 := hid (fun w h => digit_yes B w r a c p (i + 3) x y 0 0 h l3 hl d3)
          have N3 := hid (fun w h => next_o B w r a c p (i + 3) x y 0 0 h (by omega))
          clear d3 e3
          generalize nx p (i + 3) = q3 at *
          generalize nx p (i + 1) = q1 at *
          have t1 : (q3 - 48 != -1) = true := by simp; omega
          by_cases e4 : nx p (i + 4) = 125
          · have l4 := nx_is e4 (by decide)
            rw [if_pos e4]
            by_cases hq : q3 < q1
            · rw [if_pos hq]
              have t2 : decide (q3 - 48 < q1 - 48) = true := by simp; omega
              unfold BndP
              go_enter Tryz.func134, Tryz.ntmps134
              go_wp2_with fail; refine (C1.out).mono ?_; rintro _ w1 ⟨rfl, h1, k1⟩; have H1 := hid h1; have K1 := hid k1; clear h1 k1
              go_wp2_with fail; refine (takes_yes 44 B _ r a c p (i + 2) x y 0 0 H1.out l2 hl e2).mono ?_; rintro _ w2 ⟨rfl, h2, k2⟩; have H2 := hid h2; have K2 := hid k2; clear h2 k2
              go_wp2_with fail; refine (N3.out _ H2.out).mono ?_; rintro _ w3 ⟨rfl, h3, k3⟩; have H3 := hid h3; have K3 := hid k3; clear h3 k3
              go_wp2_with fail; refine (C3.out _ H3.out).mono ?_; rintro _ w5 ⟨rfl, h5, k5⟩; have H5 := hid h5; have K5 := hid k5; clear h5 k5
              go_wp2_with fail; refine (needs_yes 125 B _ r a c p (i + 4) x y 0 0 H5.out l4 hl e4).mono ?_; rintro _ w4 ⟨rfl, h4, k4⟩; have H4 := hid h4; have K4 := hid k4; clear h4 k4
              go_wp2_with fail; refine (fail_one 5 i B _ r a c p (i + 5) x y 0 H4.out).mono ?_; rintro _ w6 ⟨rfl, h6, k6⟩; have H6 := hid h6; have K6 := hid k6; clear h6 k6
              go_wp2_with fail
              go_ret2
              exact ⟨_, _, rfl, H6.out, ((((K1.out.tr K2.out).tr K3.out).tr K5.out).tr K4.out).tr K6.out⟩
            · rw [if_neg hq]
              have t2 : decide (q3 - 48 < q1 - 48) = false := by simp; omega
              unfold BndP
              go_enter Tryz.func134, Tryz.ntmps134
              go_wp2_with fail; refine (C1.out).mono ?_; rintro _ w1 ⟨rfl, h1, k1⟩; have H1 := hid h1; have K1 := hid k1; clear h1 k1
              go_wp2_with fail; refine (takes_yes 44 B _ r a c p (i + 2) x y 0 0 H1.out l2 hl e2).mono ?_; rintro _ w2 ⟨rfl, h2, k2⟩; have H2 := hid h2; have K2 := hid k2; clear h2 k2
              go_wp2_with fail; refine (N3.out _ H2.out).mono ?_; rintro _ w3 ⟨rfl, h3, k3⟩; have H3 := hid h3; have K3 := hid k3; clear h3 k3
              go_wp2_with fail; refine (C3.out _ H3.out).mono ?_; rintro _ w5 ⟨rfl, h5, k5⟩; have H5 := hid h5; have K5 := hid k5; clear h5 k5
              go_wp2_with fail; refine (needs_yes 125 B _ r a c p (i + 4) x y 0 0 H5.out l4 hl e4).mono ?_; rintro _ w4 ⟨rfl, h4, k4⟩; have H4 := hid h4; have K4 := hid k4; clear h4 k4
              go_wp2_with fail
              go_ret2
              exact ⟨rfl, H4.out, (((K1.out.tr K2.out).tr K3.out).tr K5.out).tr K4.out⟩
          · rw [if_neg e4]
            unfold BndP
            rcases Int.lt_or_le (q3 - 48) (q1 - 48) with hq | hq
            · have t2 : decide (q3 - 48 < q1 - 48) = true := by simpa using hq
              go_enter Tryz.func134, Tryz.ntmps134
              go_wp2_with fail; refine (C1.out).mono ?_; rintro _ w1 ⟨rfl, h1, k1⟩; have H1 := hid h1; have K1 := hid k1; clear h1 k1
              go_wp2_with fail; refine (takes_yes 44 B _ r a c p (i + 2) x y 0 0 H1.out l2 hl e2).mono ?_; rintro _ w2 ⟨rfl, h2, k2⟩; have H2 := hid h2; have K2 := hid k2; clear h2 k2
              go_wp2_with fail; refine (N3.out _ H2.out).mono ?_; rintro _ w3 ⟨rfl, h3, k3⟩; have H3 := hid h3; have K3 := hid k3; clear h3 k3
              go_wp2_with fail; refine (C3.out _ H3.out).mono ?_; rintro _ w5 ⟨rfl, h5, k5⟩; have H5 := hid h5; have K5 := hid k5; clear h5 k5
              go_wp2_with fail; refine (needs_no 125 B _ r a c p (i + 4) x y 0 H5.out (by omega) e4).mono ?_; rintro _ w4 ⟨rfl, h4, k4⟩; have H4 := hid h4; have K4 := hid k4; clear h4 k4
              go_wp2_with fail; refine (fail_more 5 i B _ r a c p p.length x y 5 (i + 4 : Nat) H4.out (by decide)).mono ?_; rintro _ w6 ⟨rfl, h6, k6⟩; have H6 := hid h6; have K6 := hid k6; clear h6 k6
              go_wp2_with fail
              go_ret2
              exact ⟨_, _, rfl, H6.out, ((((K1.out.tr K2.out).tr K3.out).tr K5.out).tr K4.out).tr K6.out⟩
            · have t2 : decide (q3 - 48 < q1 - 48) = false := by simp; omega
              go_enter Tryz.func134, Tryz.ntmps134
              go_wp2_with fail; refine (C1.out).mono ?_; rintro _ w1 ⟨rfl, h1, k1⟩; have H1 := hid h1; have K1 := hid k1; clear h1 k1
              go_wp2_with fail; refine (takes_yes 44 B _ r a c p (i + 2) x y 0 0 H1.out l2 hl e2).mono ?_; rintro _ w2 ⟨rfl, h2, k2⟩; have H2 := hid h2; have K2 := hid k2; clear h2 k2
              go_wp2_with fail; refine (N3.out _ H2.out).mono ?_; rintro _ w3 ⟨rfl, h3, k3⟩; have H3 := hid h3; have K3 := hid k3; clear h3 k3
              go_wp2_with fail; refine (C3.out _ H3.out).mono ?_; rintro _ w5 ⟨rfl, h5, k5⟩; have H5 := hid h5; have K5 := hid k5; clear h5 k5
              go_wp2_with fail; refine (needs_no 125 B _ r a c p (i + 4) x y 0 H5.out (by omega) e4).mono ?_; rintro _ w4 ⟨rfl, h4, k4⟩; have H4 := hid h4; have K4 := hid k4; clear h4 k4
              go_wp2_with fail
              go_ret2
              exact ⟨_, _, rfl, H4.out, (((K1.out.tr K2.out).tr K3.out).tr K5.out).tr K4.out⟩
        · have d3' : dig (nx p (i + 3)) = false := by simpa using d3
          rw [if_neg d3]
          have C3 := hid (fun w h => digit_no B w r a c p (i + 3) x y 0 h (by omega) d3')
          have N3 := hid (fun w h => next_o B w r a c p (i + 3) x y 0 0 h (by omega))
          clear d3 d3' e3
          generalize nx p (i + 3) = q3 at *
          generalize nx p (i + 1) = q1 at *
          unfold BndP
          rcases Int.lt_or_le 0 (q1 - 48) with hq | hq
          · have t2 : decide (0 < q1 - 48) = true := by simpa using hq
            go_enter Tryz.func134, Tryz.ntmps134
            go_wp2_with fail; refine (C1.out).mono ?_; rintro _ w1 ⟨rfl, h1, k1⟩; have H1 := hid h1; have K1 := hid k1; clear h1 k1
            go_wp2_with fail; refine (takes_yes 44 B _ r a c p (i + 2) x y 0 0 H1.out l2 hl e2).mono ?_; rintro _ w2 ⟨rfl, h2, k2⟩; have H2 := hid h2; have K2 := hid k2; clear h2 k2
            go_wp2_with fail; refine (N3.out _ H2.out).mono ?_; rintro _ w3 ⟨rfl, h3, k3⟩; have H3 := hid h3; have K3 := hid k3; clear h3 k3
            go_wp2_with fail; refine (C3.out _ H3.out).mono ?_; rintro _ w5 ⟨rfl, h5, k5⟩; have H5 := hid h5; have K5 := hid k5; clear h5 k5
            go_wp2_with fail; refine (needs_bad 125 B _ r a c p x y 5 (i + 3 : Nat) H5.out (by decide) (by decide)).mono ?_; rintro _ w4 ⟨rfl, h4, k4⟩; have H4 := hid h4; have K4 := hid k4; clear h4 k4
            go_wp2_with fail; refine (fail_more 5 i B _ r a c p p.length x y 5 (i + 3 : Nat) H4.out (by decide)).mono ?_; rintro _ w6 ⟨rfl, h6, k6⟩; have H6 := hid h6; have K6 := hid k6; clear h6 k6
            go_wp2_with fail
            go_ret2
            exact ⟨_, _, rfl, H6.out, ((((K1.out.tr K2.out).tr K3.out).tr K5.out).tr K4.out).tr K6.out⟩
          · have t2 : decide (0 < q1 - 48) = false := by simp; omega
            go_enter Tryz.func134, Tryz.ntmps134
            go_wp2_with fail; refine (C1.out).mono ?_; rintro _ w1 ⟨rfl, h1, k1⟩; have H1 := hid h1; have K1 := hid k1; clear h1 k1
            go_wp2_with fail; refine (takes_yes 44 B _ r a c p (i + 2) x y 0 0 H1.out l2 hl e2).mono ?_; rintro _ w2 ⟨rfl, h2, k2⟩; have H2 := hid h2; have K2 := hid k2; clear h2 k2
            go_wp2_with fail; refine (N3.out _ H2.out).mono ?_; rintro _ w3 ⟨rfl, h3, k3⟩; have H3 := hid h3; have K3 := hid k3; clear h3 k3
            go_wp2_with fail; refine (C3.out _ H3.out).mono ?_; rintro _ w5 ⟨rfl, h5, k5⟩; have H5 := hid h5; have K5 := hid k5; clear h5 k5
            go_wp2_with fail; refine (needs_bad 125 B _ r a c p x y 5 (i + 3 : Nat) H5.out (by decide) (by decide)).mono ?_; rintro _ w4 ⟨rfl, h4, k4⟩; have H4 := hid h4; have K4 := hid k4; clear h4 k4
            go_wp2_with fail
            go_ret2
            exact ⟨_, _, rfl, H4.out, (((K1.out.tr K2.out).tr K3.out).tr K5.out).tr K4.out⟩
    · rw [if_neg e2]
      have t2 : decide (nx p (i + 1) - 48 < nx p (i + 1) - 48) = false := by simp
      have t1 : (nx p (i + 1) - 48 != -1) = true := by simp; omega
      generalize nx p (i + 1) = q1 at *
      unfold BndP
      by_cases e3 : nx p (i + 2) = 125
      · have l3 := nx_is e3 (by decide)
        rw [if_pos e3]
        go_enter Tryz.func134, Tryz.ntmps134
        go_wp2_with fail; refine (C1.out).mono ?_; rintro _ w1 ⟨rfl, h1, k1⟩; have H1 := hid h1; have K1 := hid k1; clear h1 k1
        go_wp2_with fail; refine (takes_no 44 B _ r a c p (i + 2) x y 0 0 H1.out (by omega) e2).mono ?_; rintro _ w2 ⟨rfl, h2, k2⟩; have H2 := hid h2; have K2 := hid k2; clear h2 k2
        go_wp2_with fail; refine (needs_yes 125 B _ r a c p (i + 2) x y 0 0 H2.out l3 hl e3).mono ?_; rintro _ w4 ⟨rfl, h4, k4⟩; have H4 := hid h4; have K4 := hid k4; clear h4 k4
        go_wp2_with fail
        go_ret2
        exact ⟨rfl, H4.out, (K1.out.tr K2.out).tr K4.out⟩
      · rw [if_neg e3]
        go_enter Tryz.func134, Tryz.ntmps134
        go_wp2_with fail; refine (C1.out).mono ?_; rintro _ w1 ⟨rfl, h1, k1⟩; have H1 := hid h1; have K1 := hid k1; clear h1 k1
        go_wp2_with fail; refine (takes_no 44 B _ r a c p (i + 2) x y 0 0 H1.out (by omega) e2).mono ?_; rintro _ w2 ⟨rfl, h2, k2⟩; have H2 := hid h2; have K2 := hid k2; clear h2 k2
        go_wp2_with fail; refine (needs_no 125 B _ r a c p (i + 2) x y 0 H2.out (by omega) e3).mono ?_; rintro _ w4 ⟨rfl, h4, k4⟩; have H4 := hid h4; have K4 := hid k4; clear h4 k4
        go_wp2_with fail
        go_ret2
        exact ⟨_, _, rfl, H4.out, (K1.out.tr K2.out).tr K4.out⟩
  · have d1' : dig (nx p (i + 1)) = false := by simpa using d1
    rw [if_neg d1]
    have C1 := hid (digit_no B w r a c p (i + 1) x y 0 h (by omega) d1')
    have t2 : decide ((0 : Int) < 0) = false := by decide
    unfold BndP
    clear h d1 d1'
    go_enter Tryz.func134, Tryz.ntmps134
    go_wp2_with fail; refine (C1.out).mono ?_; rintro _ w1 ⟨rfl, h1, k1⟩; have H1 := hid h1; have K1 := hid k1; clear h1 k1
    go_wp2_with fail; refine (takes_no 44 B _ r a c p p.length x y 5 (i + 1 : Nat) H1.out (by omega) (by rw [nx_end (Nat.le_refl _)]; decide)).mono ?_; rintro _ w2 ⟨rfl, h2, k2⟩; have H2 := hid h2; have K2 := hid k2; clear h2 k2
    go_wp2_with fail; refine (needs_bad 125 B _ r a c p x y 5 (i + 1 : Nat) H2.out (by decide) (by decide)).mono ?_; rintro _ w4 ⟨rfl, h4, k4⟩; have H4 := hid h4; have K4 := hid k4; clear h4 k4
    go_wp2_with fail
    go_ret2
    exact ⟨_, _, rfl, H4.out, (K1.out.tr K2.out).tr K4.out⟩
end Go.Proofs.YtefgjicegbhcaaaGreat
