/- The document's reader of patterns: next, ok, bad, digit, times (cells as the code's: text, place, groups, depth, fault). -/
import Derived.Test.YtniilphbbcbpcaaRxi
import Derived.BigQuiet
namespace Go.Proofs.Ytniilphbbcbpcaa
open Go.RowKit ReM

set_option maxHeartbeats 4000000 in
theorem dnext_c (B : Nat) (w : World) (r : Nat) (a : Option Addr) (c : Nat) (p : List Int) (i x y : Nat) (e f : Int) (h : Rdr B w r a c p i x y e f) :
    Calls Try.prog 48 #[.pointer (some ⟨r, 0, none⟩)] w fun e' w' => e' = .returned (.int .i32 (nx p i)) ∧ Rdr B w' r a c p i x y e f ∧ KR r w w' := by
  have c0 := h.c0
  have c1 := h.c1
  have hl := h.sl.len
  have HH := hid h
  by_cases hlt : i < p.length
  · obtain ⟨b, o, rfl, hc⟩ := h.sl.at hlt
    have ck := hc i hlt
    rw [nx_lt hlt]
    have b1 : decide ((p.length : Int) ≤ (i : Int)) = false := by simp; omega
    have z1 : (i : Int) < (p.length : Int) := by omega
    clear hc h
    go_enter Try.func48, Try.ntmps48
    go_wp2
    go_quiet (fail)
    go_wp2
    go_quiet (fail)
    go_wp2
    go_ret
    exact ⟨rfl, HH.out.bel (by (repeat' (first | exact Below.refl _ _ | assumption | refine bdrewN ?_ _ | refine Below.drew ?_ | refine Below.setCell ?_ (Nat.le_refl _) _ | refine bal ?_ _ | refine bthen ?_ (by assumption)))), Kpt.of (by (repeat' (first | exact Below.refl _ _ | assumption | refine bdrewN ?_ _ | refine Below.drew ?_ | refine Below.setCell ?_ (Nat.le_refl _) _ | refine bal ?_ _ | refine bthen ?_ (by assumption))))⟩
  · rw [nx_end (by omega)]
    have b1 : decide ((p.length : Int) ≤ (i : Int)) = true := by simp; omega
    clear h
    go_enter Try.func48, Try.ntmps48
    go_wp2
    go_quiet (fail)
    go_wp2
    go_ret
    exact ⟨rfl, HH.out.bel (by (repeat' (first | exact Below.refl _ _ | assumption | refine bdrewN ?_ _ | refine Below.drew ?_ | refine Below.setCell ?_ (Nat.le_refl _) _ | refine bal ?_ _ | refine bthen ?_ (by assumption)))), Kpt.of (by (repeat' (first | exact Below.refl _ _ | assumption | refine bdrewN ?_ _ | refine Below.drew ?_ | refine Below.setCell ?_ (Nat.le_refl _) _ | refine bal ?_ _ | refine bthen ?_ (by assumption))))⟩
set_option maxHeartbeats 4000000 in
theorem dok_c (B : Nat) (w : World) (r : Nat) (a : Option Addr) (c : Nat) (p : List Int) (i x y : Nat) (e f : Int) (h : Rdr B w r a c p i x y e f) :
    Calls Try.prog 33 #[.pointer (some ⟨r, 0, none⟩)] w fun e' w' => e' = .returned (.bool (e == 0)) ∧ Rdr B w' r a c p i x y e f ∧ KR r w w' := by
  (have c0 := h.c0; have c1 := h.c1; have c2 := h.c2; have c3 := h.c3; have c4 := h.c4; have c5 := h.c5; have f1 := h.fz 1; have f2 := h.fz 2; have f3 := h.fz 3; have f4 := h.fz 4; have f5 := h.fz 5; have rl := h.lt; have Hh := hid h; clear h)
  go_enter Try.func33, Try.ntmps33
  go_wp2
  go_ret
  exact ⟨rfl, Hh.out.bel (by (repeat' (first | exact Below.refl _ _ | assumption | refine bdrewN ?_ _ | refine Below.drew ?_ | refine Below.setCell ?_ (Nat.le_refl _) _ | refine bal ?_ _ | refine bthen ?_ (by assumption)))), Kpt.of (by (repeat' (first | exact Below.refl _ _ | assumption | refine bdrewN ?_ _ | refine Below.drew ?_ | refine Below.setCell ?_ (Nat.le_refl _) _ | refine bal ?_ _ | refine bthen ?_ (by assumption))))⟩
set_option maxHeartbeats 4000000 in
theorem dbad_one (k j : Int) (B : Nat) (w : World) (r : Nat) (a : Option Addr) (c : Nat) (p : List Int) (i x y : Nat) (f : Int) (h : Rdr B w r a c p i x y 0 f) :
    Calls Try.prog 34 #[.pointer (some ⟨r, 0, none⟩), .int .i64 k, .int .i64 j] w fun e' w' => e' = .returned (.tuple #[]) ∧ Rdr B w' r a c p i x y k j ∧ KR r w w' := by
  (have c0 := h.c0; have c1 := h.c1; have c2 := h.c2; have c3 := h.c3; have c4 := h.c4; have c5 := h.c5; have f1 := h.fz 1; have f2 := h.fz 2; have f3 := h.fz 3; have f4 := h.fz 4; have f5 := h.fz 5; have rl := h.lt; have Hh := hid h; clear h)
  go_enter Try.func34, Try.ntmps34
  go_wp2_with fail
  go_end0
  exact ⟨rfl, (Hh.out.set4 k).set5 j, ((KR.refl _ _).set _).set _⟩
set_option maxHeartbeats 4000000 in
theorem dbad_more (k j : Int) (B : Nat) (w : World) (r : Nat) (a : Option Addr) (c : Nat) (p : List Int) (i x y : Nat) (e f : Int) (h : Rdr B w r a c p i x y e f) (he : e ≠ 0) :
    Calls Try.prog 34 #[.pointer (some ⟨r, 0, none⟩), .int .i64 k, .int .i64 j] w fun e' w' => e' = .returned (.tuple #[]) ∧ Rdr B w' r a c p i x y e f ∧ KR r w w' := by
  (have c0 := h.c0; have c1 := h.c1; have c2 := h.c2; have c3 := h.c3; have c4 := h.c4; have c5 := h.c5; have f1 := h.fz 1; have f2 := h.fz 2; have f3 := h.fz 3; have f4 := h.fz 4; have f5 := h.fz 5; have rl := h.lt; have Hh := hid h; clear h)
  have b1 : (e == 0) = false := by simpa using he
  go_enter Try.func34, Try.ntmps34
  go_wp2_with fail
  go_end0
  exact ⟨rfl, Hh.out.bel (by (repeat' (first | exact Below.refl _ _ | assumption | refine bdrewN ?_ _ | refine Below.drew ?_ | refine Below.setCell ?_ (Nat.le_refl _) _ | refine bal ?_ _ | refine bthen ?_ (by assumption)))), Kpt.of (by (repeat' (first | exact Below.refl _ _ | assumption | refine bdrewN ?_ _ | refine Below.drew ?_ | refine Below.setCell ?_ (Nat.le_refl _) _ | refine bal ?_ _ | refine bthen ?_ (by assumption))))⟩
set_option maxHeartbeats 4000000 in
theorem ddigit_yes (B : Nat) (w : World) (r : Nat) (a : Option Addr) (c : Nat) (p : List Int) (i x y : Nat) (e f : Int) (h : Rdr B w r a c p i x y e f) (hi : i < p.length) (hl : p.length ≤ 1000) (hn : ReM.dig (nx p i) = true) :
    Calls Try.prog 85 #[.pointer (some ⟨r, 0, none⟩)] w fun e' w' => e' = .returned (.int .i64 (nx p i - 48)) ∧ Rdr B w' r a c p (i + 1) x y e f ∧ KR r w w' := by
  have C := hid (dnext_c B w r a c p i x y e f h)
  have hd : 48 ≤ nx p i ∧ nx p i ≤ 57 := of_decide_eq_true hn
  generalize nx p i = q at *
  have b1 : dgt q = true := hn
  have w1 : IntKind.i32.wrap (q - 48) = q - 48 := by rw [IntKind.wrap_i32]; omega
  have w2 : IntKind.i64.wrap (q - 48) = q - 48 := by rw [IntKind.wrap_i64]; omega
  clear h hn
  go_enter Try.func85, Try.ntmps85
  go_wp2_with fail
  refine C.out.mono ?_
  rintro _ w1 ⟨rfl, h1, k1⟩
  have K1 := hid k1
  clear k1
  (have c0 := h1.c0; have c1 := h1.c1; have c2 := h1.c2; have c3 := h1.c3; have c4 := h1.c4; have c5 := h1.c5; have f1 := h1.fz 1; have f2 := h1.fz 2; have f3 := h1.fz 3; have f4 := h1.fz 4; have f5 := h1.fz 5; have rl := h1.lt; have Hh1 := hid h1; clear h1)
  have hw1 : IntKind.i64.wrap ((i : Int) + 1) = ((i + 1 : Nat) : Int) := by rw [IntKind.wrap_i64]; omega
  go_wp2_with (go_at_call 92; refine (rdigit_c _ _).mono ?_; rintro _ w2 ⟨rfl, rfl⟩; rw [b1])
  go_ret
  exact ⟨rfl, Hh1.out.set1 (i + 1), K1.out.set _⟩
set_option maxHeartbeats 4000000 in
theorem ddigit_no (B : Nat) (w : World) (r : Nat) (a : Option Addr) (c : Nat) (p : List Int) (i x y : Nat) (f : Int) (h : Rdr B w r a c p i x y 0 f) (hn : ReM.dig (nx p i) = false) :
    Calls Try.prog 85 #[.pointer (some ⟨r, 0, none⟩)] w fun e' w' => e' = .returned (.int .i64 0) ∧ Rdr B w' r a c p i x y 5 i ∧ KR r w w' := by
  have C := hid (dnext_c B w r a c p i x y 0 f h)
  generalize nx p i = q at *
  have b1 : dgt q = false := hn
  clear h hn
  go_enter Try.func85, Try.ntmps85
  go_wp2_with fail
  refine C.out.mono ?_
  rintro _ w1 ⟨rfl, h1, k1⟩
  have K1 := hid k1
  clear k1
  (have c0 := h1.c0; have c1 := h1.c1; have c2 := h1.c2; have c3 := h1.c3; have c4 := h1.c4; have c5 := h1.c5; have f1 := h1.fz 1; have f2 := h1.fz 2; have f3 := h1.fz 3; have f4 := h1.fz 4; have f5 := h1.fz 5; have rl := h1.lt; have Hh1 := hid h1; clear h1)
  go_wp2_with (go_at_call 92; refine (rdigit_c _ _).mono ?_; rintro _ w2 ⟨rfl, rfl⟩; rw [b1])
  refine (dbad_one 5 i B w1 r a c p i x y f Hh1.out).mono ?_
  rintro _ w3 ⟨rfl, h3, k3⟩
  have H3 := hid h3
  have K3 := hid k3
  clear h3 k3
  go_wp2_with fail
  go_ret
  exact ⟨rfl, H3.out, K1.out.tr K3.out⟩
end Go.Proofs.Ytniilphbbcbpcaa
