/- The code's reader: next, takes, fail, needs, digit. -/
import Derived.Test.YtefgjicegbhcaaaGreatRst
namespace Go.Proofs.YtefgjicegbhcaaaGreat
open Go.RowKit

set_option maxHeartbeats 4000000 in
theorem xnext_c (B : Nat) (w : World) (r : Nat) (a : Option Addr) (c : Nat) (p : List Int) (i x y : Nat) (e f : Int) (h : Rdr B w r a c p i x y e f) (hi : i ≤ p.length) :
    Calls Tryz.prog 72 #[.pointer (some ⟨r, 0, none⟩)] w fun e' w' => e' = .returned (.int .i32 (nx p i)) ∧ ∃ n, w' = w.drewN n := by
  have c0 := h.c0
  have c1 := h.c1
  have hl := h.sl.len
  by_cases hlt : i < p.length
  · obtain ⟨b, o, rfl, hc⟩ := h.sl.at hlt
    have ck := hc i hlt
    rw [nx_lt hlt]
    have b1 : decide ((i : Int) = (p.length : Int)) = false := by simp; omega
    clear hc h
    go_enter Tryz.func72, Tryz.ntmps72
    go_wp2
    go_quiet (fail)
    go_wp2
    go_quiet (fail)
    go_wp2
    go_ret
    exact ⟨rfl, by first | exact ⟨_, rfl⟩ | exact drewN_ex _ _ _ | exact drewN_ex2 _ _ _ _⟩
  · obtain rfl : i = p.length := by omega
    rw [nx_end (Nat.le_refl _)]
    clear h
    go_enter Tryz.func72, Tryz.ntmps72
    go_wp2
    go_quiet (fail)
    go_wp2
    go_ret
    exact ⟨rfl, by first | exact ⟨_, rfl⟩ | exact drewN_ex _ _ _ | exact drewN_ex2 _ _ _ _⟩
theorem next_o (B : Nat) (w : World) (r : Nat) (a : Option Addr) (c : Nat) (p : List Int) (i x y : Nat) (e f : Int) (h : Rdr B w r a c p i x y e f) (hi : i ≤ p.length) :
    Calls Tryz.prog 72 #[.pointer (some ⟨r, 0, none⟩)] w fun e' w' => e' = .returned (.int .i32 (nx p i)) ∧ Rdr B w' r a c p i x y e f ∧ KR r w w' := by
  refine (xnext_c B w r a c p i x y e f h hi).mono ?_
  rintro e' w' ⟨rfl, n, rfl⟩
  exact ⟨rfl, h.drewN n, (KR.refl _ _).drewN n⟩
set_option maxHeartbeats 4000000 in
theorem takes_yes (ch : Int) (B : Nat) (w : World) (r : Nat) (a : Option Addr) (c : Nat) (p : List Int) (i x y : Nat) (e f : Int) (h : Rdr B w r a c p i x y e f) (hi : i < p.length) (hl : p.length ≤ 1000) (hn : nx p i = ch) :
    Calls Tryz.prog 99 #[.pointer (some ⟨r, 0, none⟩), .int .i32 ch] w fun e' w' => e' = .returned (.bool true) ∧ Rdr B w' r a c p (i + 1) x y e f ∧ KR r w w' := by
  have C := hid (next_o B w r a c p i x y e f h (by omega))
  rw [hn] at C
  clear h
  go_enter Tryz.func99, Tryz.ntmps99
  go_wp2_with fail
  refine C.out.mono ?_
  rintro e' w' ⟨rfl, h1, k1⟩
  (have c0 := h1.c0; have c1 := h1.c1; have c2 := h1.c2; have c3 := h1.c3; have c4 := h1.c4; have c5 := h1.c5; have f1 := h1.fz 1; have f2 := h1.fz 2; have f3 := h1.fz 3; have f4 := h1.fz 4; have f5 := h1.fz 5; have rl := h1.lt; have Hh1 := hid h1; clear h1)
  have K1 := hid k1
  clear k1
  go_wp2_with fail
  go_ret
  exact ⟨rfl, Hh1.out.set1 (i + 1), K1.out.set _⟩
set_option maxHeartbeats 4000000 in
theorem takes_no (ch : Int) (B : Nat) (w : World) (r : Nat) (a : Option Addr) (c : Nat) (p : List Int) (i x y : Nat) (e f : Int) (h : Rdr B w r a c p i x y e f) (hi : i ≤ p.length) (hn : nx p i ≠ ch) :
    Calls Tryz.prog 99 #[.pointer (some ⟨r, 0, none⟩), .int .i32 ch] w fun e' w' => e' = .returned (.bool false) ∧ Rdr B w' r a c p i x y e f ∧ KR r w w' := by
  have C := hid (next_o B w r a c p i x y e f h hi)
  have b1 : (nx p i == ch) = false := by simpa using hn
  generalize nx p i = q at *
  clear h
  go_enter Tryz.func99, Tryz.ntmps99
  go_wp2_with fail
  refine C.out.mono ?_
  rintro e' w' ⟨rfl, h1, k1⟩
  have H1 := hid h1
  have K1 := hid k1
  clear k1 h1
  go_wp2_with fail
  go_ret
  exact ⟨rfl, H1.out, K1.out⟩
set_option maxHeartbeats 4000000 in
theorem fail_one (k j : Int) (B : Nat) (w : World) (r : Nat) (a : Option Addr) (c : Nat) (p : List Int) (i x y : Nat) (f : Int) (h : Rdr B w r a c p i x y 0 f) :
    Calls Tryz.prog 73 #[.pointer (some ⟨r, 0, none⟩), .int .i64 k, .int .i64 j] w fun e' w' => e' = .returned (.tuple #[]) ∧ Rdr B w' r a c p p.length x y k j ∧ KR r w w' := by
  (have c0 := h.c0; have c1 := h.c1; have c2 := h.c2; have c3 := h.c3; have c4 := h.c4; have c5 := h.c5; have f1 := h.fz 1; have f2 := h.fz 2; have f3 := h.fz 3; have f4 := h.fz 4; have f5 := h.fz 5; have rl := h.lt; have Hh := hid h; clear h)
  go_enter Tryz.func73, Tryz.ntmps73
  go_wp2_with fail
  go_end0
  exact ⟨rfl, ((Hh.out.set4 k).set5 j).set1 _, (((KR.refl _ _).set _).set _).set _⟩
set_option maxHeartbeats 4000000 in
theorem fail_more (k j : Int) (B : Nat) (w : World) (r : Nat) (a : Option Addr) (c : Nat) (p : List Int) (i x y : Nat) (e f : Int) (h : Rdr B w r a c p i x y e f) (he : e ≠ 0) :
    Calls Tryz.prog 73 #[.pointer (some ⟨r, 0, none⟩), .int .i64 k, .int .i64 j] w fun e' w' => e' = .returned (.tuple #[]) ∧ Rdr B w' r a c p p.length x y e f ∧ KR r w w' := by
  (have c0 := h.c0; have c1 := h.c1; have c2 := h.c2; have c3 := h.c3; have c4 := h.c4; have c5 := h.c5; have f1 := h.fz 1; have f2 := h.fz 2; have f3 := h.fz 3; have f4 := h.fz 4; have f5 := h.fz 5; have rl := h.lt; have Hh := hid h; clear h)
  have b1 : (e == 0) = false := by simpa using he
  go_enter Tryz.func73, Tryz.ntmps73
  go_wp2_with fail
  go_end0
  exact ⟨rfl, Hh.out.set1 _, (KR.refl _ _).set _⟩
set_option maxHeartbeats 4000000 in
theorem needs_yes (ch : Int) (B : Nat) (w : World) (r : Nat) (a : Option Addr) (c : Nat) (p : List Int) (i x y : Nat) (e f : Int) (h : Rdr B w r a c p i x y e f) (hi : i < p.length) (hl : p.length ≤ 1000) (hn : nx p i = ch) :
    Calls Tryz.prog 142 #[.pointer (some ⟨r, 0, none⟩), .int .i32 ch] w fun e' w' => e' = .returned (.tuple #[]) ∧ Rdr B w' r a c p (i + 1) x y e f ∧ KR r w w' := by
  have C := hid (takes_yes ch B w r a c p i x y e f h hi hl hn)
  clear h hn
  go_enter Tryz.func142, Tryz.ntmps142
  go_wp2_with fail; refine (C.out).mono ?_; rintro _ w1 ⟨rfl, h1, k1⟩; have H1 := hid h1; have K1 := hid k1; clear h1 k1
  go_wp2_with fail
  go_end0
  exact ⟨rfl, H1.out, K1.out⟩
set_option maxHeartbeats 4000000 in
theorem needs_no (ch : Int) (B : Nat) (w : World) (r : Nat) (a : Option Addr) (c : Nat) (p : List Int) (i x y : Nat) (f : Int) (h : Rdr B w r a c p i x y 0 f) (hi : i ≤ p.length) (hn : nx p i ≠ ch) :
    Calls Tryz.prog 142 #[.pointer (some ⟨r, 0, none⟩), .int .i32 ch] w fun e' w' => e' = .returned (.tuple #[]) ∧ Rdr B w' r a c p p.length x y 5 i ∧ KR r w w' := by
  have C := hid (takes_no ch B w r a c p i x y 0 f h hi hn)
  clear h hn
  go_enter Tryz.func142, Tryz.ntmps142
  go_wp2_with fail
  refine C.out.mono ?_
  rintro _ w1 ⟨rfl, h1, k1⟩
  have K1 := hid k1
  clear k1
  (have c0 := h1.c0; have c1 := h1.c1; have c2 := h1.c2; have c3 := h1.c3; have c4 := h1.c4; have c5 := h1.c5; have f1 := h1.fz 1; have f2 := h1.fz 2; have f3 := h1.fz 3; have f4 := h1.fz 4; have f5 := h1.fz 5; have rl := h1.lt; have Hh1 := hid h1; clear h1)
  go_wp2_with fail; refine (fail_one 5 i B w1 r a c p i x y f Hh1.out).mono ?_; rintro _ w2 ⟨rfl, h2, k2⟩; have H2 := hid h2; have K2 := hid k2; clear h2 k2
  go_wp2_with fail
  go_end0
  exact ⟨rfl, H2.out, K1.out.tr K2.out⟩
set_option maxHeartbeats 4000000 in
theorem needs_bad (ch : Int) (B : Nat) (w : World) (r : Nat) (a : Option Addr) (c : Nat) (p : List Int) (x y : Nat) (e f : Int) (h : Rdr B w r a c p p.length x y e f) (he : e ≠ 0) (hn : ch ≠ -1) :
    Calls Tryz.prog 142 #[.pointer (some ⟨r, 0, none⟩), .int .i32 ch] w fun e' w' => e' = .returned (.tuple #[]) ∧ Rdr B w' r a c p p.length x y e f ∧ KR r w w' := by
  have C := hid (takes_no ch B w r a c p p.length x y e f h (Nat.le_refl _) (by rw [nx_end (Nat.le_refl _)]; exact fun h => hn h.symm))
  have He := hid he
  clear h hn he
  go_enter Tryz.func142, Tryz.ntmps142
  go_wp2_with fail
  refine C.out.mono ?_
  rintro _ w1 ⟨rfl, h1, k1⟩
  have K1 := hid k1
  clear k1
  (have c0 := h1.c0; have c1 := h1.c1; have c2 := h1.c2; have c3 := h1.c3; have c4 := h1.c4; have c5 := h1.c5; have f1 := h1.fz 1; have f2 := h1.fz 2; have f3 := h1.fz 3; have f4 := h1.fz 4; have f5 := h1.fz 5; have rl := h1.lt; have Hh1 := hid h1; clear h1)
  go_wp2_with fail; refine (fail_more 5 p.length B w1 r a c p p.length x y e f Hh1.out He.out).mono ?_; rintro _ w2 ⟨rfl, h2, k2⟩; have H2 := hid h2; have K2 := hid k2; clear h2 k2
  go_wp2_with fail
  go_end0
  exact ⟨rfl, H2.out, K1.out.tr K2.out⟩
set_option maxHeartbeats 4000000 in
theorem digit_yes (B : Nat) (w : World) (r : Nat) (a : Option Addr) (c : Nat) (p : List Int) (i x y : Nat) (e f : Int) (h : Rdr B w r a c p i x y e f) (hi : i < p.length) (hl : p.length ≤ 1000) (hn : ReM.dig (nx p i) = true) :
    Calls Tryz.prog 141 #[.pointer (some ⟨r, 0, none⟩)] w fun e' w' => e' = .returned (.int .i64 (nx p i - 48)) ∧ Rdr B w' r a c p (i + 1) x y e f ∧ KR r w w' := by
  have C := hid (next_o B w r a c p i x y e f h (by omega))
  have hd : 48 ≤ nx p i ∧ nx p i ≤ 57 := of_decide_eq_true hn
  generalize nx p i = q at *
  have b1 : decide (q < 48) = false := by simp; omega
  have b2 : decide (57 < q) = false := by simp; omega
  have w1 : IntKind.i32.wrap (q - 48) = q - 48 := by rw [IntKind.wrap_i32]; omega
  have w2 : IntKind.i64.wrap (q - 48) = q - 48 := by rw [IntKind.wrap_i64]; omega
  clear h hn
  go_enter Tryz.func141, Tryz.ntmps141
  go_wp2_with fail
  refine C.out.mono ?_
  rintro _ w1 ⟨rfl, h1, k1⟩
  have K1 := hid k1
  clear k1
  (have c0 := h1.c0; have c1 := h1.c1; have c2 := h1.c2; have c3 := h1.c3; have c4 := h1.c4; have c5 := h1.c5; have f1 := h1.fz 1; have f2 := h1.fz 2; have f3 := h1.fz 3; have f4 := h1.fz 4; have f5 := h1.fz 5; have rl := h1.lt; have Hh1 := hid h1; clear h1)
  go_wp2_with fail
  go_ret
  exact ⟨rfl, Hh1.out.set1 (i + 1), K1.out.set _⟩
set_option maxHeartbeats 4000000 in
theorem digit_no (B : Nat) (w : World) (r : Nat) (a : Option Addr) (c : Nat) (p : List Int) (i x y : Nat) (f : Int) (h : Rdr B w r a c p i x y 0 f) (hi : i ≤ p.length) (hn : ReM.dig (nx p i) = false) :
    Calls Tryz.prog 141 #[.pointer (some ⟨r, 0, none⟩)] w fun e' w' => e' = .returned (.int .i64 0) ∧ Rdr B w' r a c p p.length x y 5 i ∧ KR r w w' := by
  have C := hid (next_o B w r a c p i x y 0 f h (by omega))
  have hd : ¬ (48 ≤ nx p i ∧ nx p i ≤ 57) := of_decide_eq_false hn
  generalize nx p i = q at *
  clear h hn
  rcases Int.lt_or_le q 48 with hq | hq
  · have b1 : decide (q < 48) = true := by simpa using hq
    clear hd
    go_enter Tryz.func141, Tryz.ntmps141
    go_wp2_with fail
    refine C.out.mono ?_
    rintro _ w1 ⟨rfl, h1, k1⟩
    have K1 := hid k1
    clear k1
    (have c0 := h1.c0; have c1 := h1.c1; have c2 := h1.c2; have c3 := h1.c3; have c4 := h1.c4; have c5 := h1.c5; have f1 := h1.fz 1; have f2 := h1.fz 2; have f3 := h1.fz 3; have f4 := h1.fz 4; have f5 := h1.fz 5; have rl := h1.lt; have Hh1 := hid h1; clear h1)
    go_wp2_with fail; refine (fail_one 5 i B w1 r a c p i x y f Hh1.out).mono ?_; rintro _ w2 ⟨rfl, h2, k2⟩; have H2 := hid h2; have K2 := hid k2; clear h2 k2
    go_wp2_with fail
    go_ret
    exact ⟨rfl, H2.out, K1.out.tr K2.out⟩
  · have b1 : decide (q < 48) = false := by simp; omega
    have b2 : decide (57 < q) = true := by simp; omega
    clear hd
    go_enter Tryz.func141, Tryz.ntmps141
    go_wp2_with fail
    refine C.out.mono ?_
    rintro _ w1 ⟨rfl, h1, k1⟩
    have K1 := hid k1
    clear k1
    (have c0 := h1.c0; have c1 := h1.c1; have c2 := h1.c2; have c3 := h1.c3; have c4 := h1.c4; have c5 := h1.c5; have f1 := h1.fz 1; have f2 := h1.fz 2; have f3 := h1.fz 3; have f4 := h1.fz 4; have f5 := h1.fz 5; have rl := h1.lt; have Hh1 := hid h1; clear h1)
    go_wp2_with fail; refine (fail_one 5 i B w1 r a c p i x y f Hh1.out).mono ?_; rintro _ w2 ⟨rfl, h2, k2⟩; have H2 := hid h2; have K2 := hid k2; clear h2 k2
    go_wp2_with fail
    go_ret
    exact ⟨rfl, H2.out, K1.out.tr K2.out⟩
set_option maxHeartbeats 4000000 in
theorem digit_bad (B : Nat) (w : World) (r : Nat) (a : Option Addr) (c : Nat) (p : List Int) (x y : Nat) (e f : Int) (h : Rdr B w r a c p p.length x y e f) (he : e ≠ 0) :
    Calls Tryz.prog 141 #[.pointer (some ⟨r, 0, none⟩)] w fun e' w' => e' = .returned (.int .i64 0) ∧ Rdr B w' r a c p p.length x y e f ∧ KR r w w' := by
  have C := hid (next_o B w r a c p p.length x y e f h (by omega))
  rw [nx_end (Nat.le_refl _)] at C
  have He := hid he
  clear h he
  go_enter Tryz.func141, Tryz.ntmps141
  go_wp2_with fail
  refine C.out.mono ?_
  rintro _ w1 ⟨rfl, h1, k1⟩
  have K1 := hid k1
  clear k1
  (have c0 := h1.c0; have c1 := h1.c1; have c2 := h1.c2; have c3 := h1.c3; have c4 := h1.c4; have c5 := h1.c5; have f1 := h1.fz 1; have f2 := h1.fz 2; have f3 := h1.fz 3; have f4 := h1.fz 4; have f5 := h1.fz 5; have rl := h1.lt; have Hh1 := hid h1; clear h1)
  go_wp2_with fail; refine (fail_more 5 p.length B w1 r a c p p.length x y e f Hh1.out He.out).mono ?_; rintro _ w2 ⟨rfl, h2, k2⟩; have H2 := hid h2; have K2 := hid k2; clear h2 k2
  go_wp2_with fail
  go_ret
  exact ⟨rfl, H2.out, K1.out.tr K2.out⟩
end Go.Proofs.YtefgjicegbhcaaaGreat
