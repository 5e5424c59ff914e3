/- The document's reader of patterns: next, ok, bad, digit, times (cells as the code's: text, place, groups, depth, fault). The document's reader: times. The document's reader: has, set, lower. The document's reader: behind a backslash. The document's reader: a member of a class, single. -/
import Derived.Test.YtefgjicegbhcaaaGreatRxi
import Derived.BigQuiet
import Derived.Test.YtefgjicegbhcaaaGreatReZ
import Derived.Test.YtefgjicegbhcaaaGreatPlq
import Derived.Test.YtefgjicegbhcaaaGreatRga
namespace Go.Proofs.YtefgjicegbhcaaaGreat
open Go.RowKit ReM

set_option maxHeartbeats 4000000 in
theorem dnext_c (B : Nat) (w : World) (r : Nat) (a : Option Addr) (c : Nat) (p : List Int) (i x y : Nat) (e f : Int) (h : Rdr B w r a c p i x y e f) :
    Calls Tryz.prog 113 #[.pointer (some ⟨r, 0, none⟩)] w fun e' w' => e' = .returned (.int .i32 (nx p i)) ∧ Rdr B w' r a c p i x y e f ∧ KR r w w' := by
  have c0 := h.c0
  have c1 := h.c1
  have hl := h.sl.len
  have HH := hid h
  by_cases hlt : i < p.length
  · obtain ⟨b, o, rfl, hc⟩ := h.sl.at hlt
    have ck := hc i hlt
    rw [nx_lt hlt]
    have b1 : decide ((p.length : Int) ≤ (i : Int)) = false := by simp; omega
    have z1 : (i : Int) < (p.length : Int) := by omega
    clear hc h
    go_enter Tryz.func113, Tryz.ntmps113
    go_wp2
    go_quiet (fail)
    go_wp2
    go_quiet (fail)
    go_wp2
    go_ret
    exact ⟨rfl, HH.out.bel (by (repeat' (first | exact Below.refl _ _ | assumption | refine bdrewN ?_ _ | refine Below.drew ?_ | refine Below.setCell ?_ (Nat.le_refl _) _ | refine bal ?_ _ | refine bthen ?_ (by assumption)))), Kpt.of (by (repeat' (first | exact Below.refl _ _ | assumption | refine bdrewN ?_ _ | refine Below.drew ?_ | refine Below.setCell ?_ (Nat.le_refl _) _ | refine bal ?_ _ | refine bthen ?_ (by assumption))))⟩
  · rw [nx_end (by omega)]
    have b1 : decide ((p.length : Int) ≤ (i : Int)) = true := by simp; omega
    clear h
    go_enter Tryz.func113, Tryz.ntmps113
    go_wp2
    go_quiet (fail)
    go_wp2
    go_ret
    exact ⟨rfl, HH.out.bel (by (repeat' (first | exact Below.refl _ _ | assumption | refine bdrewN ?_ _ | refine Below.drew ?_ | refine Below.setCell ?_ (Nat.le_refl _) _ | refine bal ?_ _ | refine bthen ?_ (by assumption)))), Kpt.of (by (repeat' (first | exact Below.refl _ _ | assumption | refine bdrewN ?_ _ | refine Below.drew ?_ | refine Below.setCell ?_ (Nat.le_refl _) _ | refine bal ?_ _ | refine bthen ?_ (by assumption))))⟩
set_option maxHeartbeats 4000000 in
theorem dok_c (B : Nat) (w : World) (r : Nat) (a : Option Addr) (c : Nat) (p : List Int) (i x y : Nat) (e f : Int) (h : Rdr B w r a c p i x y e f) :
    Calls Tryz.prog 84 #[.pointer (some ⟨r, 0, none⟩)] w fun e' w' => e' = .returned (.bool (e == 0)) ∧ Rdr B w' r a c p i x y e f ∧ KR r w w' := by
  (have c0 := h.c0; have c1 := h.c1; have c2 := h.c2; have c3 := h.c3; have c4 := h.c4; have c5 := h.c5; have f1 := h.fz 1; have f2 := h.fz 2; have f3 := h.fz 3; have f4 := h.fz 4; have f5 := h.fz 5; have rl := h.lt; have Hh := hid h; clear h)
  go_enter Tryz.func84, Tryz.ntmps84
  go_wp2
  go_ret
  exact ⟨rfl, Hh.out.bel (by (repeat' (first | exact Below.refl _ _ | assumption | refine bdrewN ?_ _ | refine Below.drew ?_ | refine Below.setCell ?_ (Nat.le_refl _) _ | refine bal ?_ _ | refine bthen ?_ (by assumption)))), Kpt.of (by (repeat' (first | exact Below.refl _ _ | assumption | refine bdrewN ?_ _ | refine Below.drew ?_ | refine Below.setCell ?_ (Nat.le_refl _) _ | refine bal ?_ _ | refine bthen ?_ (by assumption))))⟩
set_option maxHeartbeats 4000000 in
theorem dbad_one (k j : Int) (B : Nat) (w : World) (r : Nat) (a : Option Addr) (c : Nat) (p : List Int) (i x y : Nat) (f : Int) (h : Rdr B w r a c p i x y 0 f) :
    Calls Tryz.prog 85 #[.pointer (some ⟨r, 0, none⟩), .int .i64 k, .int .i64 j] w fun e' w' => e' = .returned (.tuple #[]) ∧ Rdr B w' r a c p i x y k j ∧ KR r w w' := by
  (have c0 := h.c0; have c1 := h.c1; have c2 := h.c2; have c3 := h.c3; have c4 := h.c4; have c5 := h.c5; have f1 := h.fz 1; have f2 := h.fz 2; have f3 := h.fz 3; have f4 := h.fz 4; have f5 := h.fz 5; have rl := h.lt; have Hh := hid h; clear h)
  go_enter Tryz.func85, Tryz.ntmps85
  go_wp2_with fail
  go_end0
  exact ⟨rfl, (Hh.out.set4 k).set5 j, ((KR.refl _ _).set _).set _⟩
set_option maxHeartbeats 4000000 in
theorem dbad_more (k j : Int) (B : Nat) (w : World) (r : Nat) (a : Option Addr) (c : Nat) (p : List Int) (i x y : Nat) (e f : Int) (h : Rdr B w r a c p i x y e f) (he : e ≠ 0) :
    Calls Tryz.prog 85 #[.pointer (some ⟨r, 0, none⟩), .int .i64 k, .int .i64 j] w fun e' w' => e' = .returned (.tuple #[]) ∧ Rdr B w' r a c p i x y e f ∧ KR r w w' := by
  (have c0 := h.c0; have c1 := h.c1; have c2 := h.c2; have c3 := h.c3; have c4 := h.c4; have c5 := h.c5; have f1 := h.fz 1; have f2 := h.fz 2; have f3 := h.fz 3; have f4 := h.fz 4; have f5 := h.fz 5; have rl := h.lt; have Hh := hid h; clear h)
  have b1 : (e == 0) = false := by simpa using he
  go_enter Tryz.func85, Tryz.ntmps85
  go_wp2_with fail
  go_end0
  exact ⟨rfl, Hh.out.bel (by (repeat' (first | exact Below.refl _ _ | assumption | refine bdrewN ?_ _ | refine Below.drew ?_ | refine Below.setCell ?_ (Nat.le_refl _) _ | refine bal ?_ _ | refine bthen ?_ (by assumption)))), Kpt.of (by (repeat' (first | exact Below.refl _ _ | assumption | refine bdrewN ?_ _ | refine Below.drew ?_ | refine Below.setCell ?_ (Nat.le_refl _) _ | refine bal ?_ _ | refine bthen ?_ (by assumption))))⟩
set_option maxHeartbeats 4000000 in
theorem ddigit_yes (B : Nat) (w : World) (r : Nat) (a : Option Addr) (c : Nat) (p : List Int) (i x y : Nat) (e f : Int) (h : Rdr B w r a c p i x y e f) (hi : i < p.length) (hl : p.length ≤ 1000) (hn : ReM.dig (nx p i) = true) :
    Calls Tryz.prog 149 #[.pointer (some ⟨r, 0, none⟩)] w fun e' w' => e' = .returned (.int .i64 (nx p i - 48)) ∧ Rdr B w' r a c p (i + 1) x y e f ∧ KR r w w' := by
  have C := hid (dnext_c B w r a c p i x y e f h)
  have hd : 48 ≤ nx p i ∧ nx p i ≤ 57 := of_decide_eq_true hn
  generalize nx p i = q at *
  have b1 : dgt q = true := hn
  have w1 : IntKind.i32.wrap (q - 48) = q - 48 := by rw [IntKind.wrap_i32]; omega
  have w2 : IntKind.i64.wrap (q - 48) = q - 48 := by rw [IntKind.wrap_i64]; omega
  clear h hn
  go_enter Tryz.func149, Tryz.ntmps149
  go_wp2_with fail
  refine C.out.mono ?_
  rintro _ w1 ⟨rfl, h1, k1⟩
  have K1 := hid k1
  clear k1
  (have c0 := h1.c0; have c1 := h1.c1; have c2 := h1.c2; have c3 := h1.c3; have c4 := h1.c4; have c5 := h1.c5; have f1 := h1.fz 1; have f2 := h1.fz 2; have f3 := h1.fz 3; have f4 := h1.fz 4; have f5 := h1.fz 5; have rl := h1.lt; have Hh1 := hid h1; clear h1)
  have hw1 : IntKind.i64.wrap ((i : Int) + 1) = ((i + 1 : Nat) : Int) := by rw [IntKind.wrap_i64]; omega
  go_wp2_with (go_at_call 87; refine (rdigit_c _ _).mono ?_; rintro _ w2 ⟨rfl, rfl⟩; rw [b1])
  go_ret
  exact ⟨rfl, Hh1.out.set1 (i + 1), K1.out.set _⟩
set_option maxHeartbeats 4000000 in
theorem ddigit_no (B : Nat) (w : World) (r : Nat) (a : Option Addr) (c : Nat) (p : List Int) (i x y : Nat) (f : Int) (h : Rdr B w r a c p i x y 0 f) (hn : ReM.dig (nx p i) = false) :
    Calls Tryz.prog 149 #[.pointer (some ⟨r, 0, none⟩)] w fun e' w' => e' = .returned (.int .i64 0) ∧ Rdr B w' r a c p i x y 5 i ∧ KR r w w' := by
  have C := hid (dnext_c B w r a c p i x y 0 f h)
  generalize nx p i = q at *
  have b1 : dgt q = false := hn
  clear h hn
  go_enter Tryz.func149, Tryz.ntmps149
  go_wp2_with fail
  refine C.out.mono ?_
  rintro _ w1 ⟨rfl, h1, k1⟩
  have K1 := hid k1
  clear k1
  (have c0 := h1.c0; have c1 := h1.c1; have c2 := h1.c2; have c3 := h1.c3; have c4 := h1.c4; have c5 := h1.c5; have f1 := h1.fz 1; have f2 := h1.fz 2; have f3 := h1.fz 3; have f4 := h1.fz 4; have f5 := h1.fz 5; have rl := h1.lt; have Hh1 := hid h1; clear h1)
  go_wp2_with (go_at_call 87; refine (rdigit_c _ _).mono ?_; rintro _ w2 ⟨rfl, rfl⟩; rw [b1])
  refine (dbad_one 5 i B w1 r a c p i x y f Hh1.out).mono ?_
  rintro _ w3 ⟨rfl, h3, k3⟩
  have H3 := hid h3
  have K3 := hid k3
  clear h3 k3
  go_wp2_with fail
  go_ret
  exact ⟨rfl, H3.out, K1.out.tr K3.out⟩
end Go.Proofs.YtefgjicegbhcaaaGreat
namespace Go.Proofs.YtefgjicegbhcaaaGreat
open Go.RowKit ReM

def TimP (B : Nat) (w : World) (r : Nat) (a : Option Addr) (c : Nat) (p : List Int) (x y : Nat) (res : Ri) (e' : Ending) (w' : World) : Prop := match res with
  | .ok lo hi j => e' = .returned (.tuple #[.int .i64 lo, .int .i64 hi]) ∧ Rdr B w' r a c p j x y 0 0 ∧ KR r w w'
  | .bad f => ∃ (lo hi : Int) (j : Nat), e' = .returned (.tuple #[.int .i64 lo, .int .i64 hi]) ∧ j ≤ p.length ∧ Rdr B w' r a c p j x y 5 f ∧ KR r w w'
theorem ret_tt {fn : Func} {post : Ending → World → Prop} {at_ : Act} {w : World} {u v : Value} (hr : fn.results = #[ResultVar.tmp 2, ResultVar.tmp 3]) (h2 : at_.tmps[2]?.getD undef = u) (h3 : at_.tmps[3]?.getD undef = v) (hd : at_.defers = [])
    (hp : post (.returned (.tuple #[u, v])) w) : bodyPost Tryz.prog fn post Exit.ret at_ w :=
  bodyPost_ret (v := .tuple #[u, v]) (by simp [results, hr, go_sem, h2, h3]) hd hp
set_option maxRecDepth 20000 in
set_option maxHeartbeats 16000000 in
theorem dtimes_c (B : Nat) (w : World) (r : Nat) (a : Option Addr) (c : Nat) (p : List Int) (i x y : Nat) (h : Rdr B w r a c p i x y 0 0) (hi : i < p.length) (hl : p.length ≤ 1000) :
    Calls Tryz.prog 140 #[.pointer (some ⟨r, 0, none⟩)] w (TimP B w r a c p x y (timesI p i)) := by
  have hnx : ∀ k, nx p k = 44 ∨ nx p k = 125 ∨ dig (nx p k) = true → k < p.length := fun k hk => by
    rcases Nat.lt_or_ge k p.length with h1 | h1
    · exact h1
    · rw [nx_end h1] at hk
      rcases hk with hk | hk | hk
      · omega
      · omega
      · exact absurd hk (by decide)
  have w1' : ∀ k : Nat, k ≤ 2000 → IntKind.i64.wrap ((k : Int) + 1) = ((k + 1 : Nat) : Int) := fun k hk => by rw [IntKind.wrap_i64]; omega
  have W0 := w1' i (by omega)
  have H0 := hid h
  (have c0 := h.c0; have c1 := h.c1; have c2 := h.c2; have c3 := h.c3; have c4 := h.c4; have c5 := h.c5; have f1 := h.fz 1; have f2 := h.fz 2; have f3 := h.fz 3; have f4 := h.fz 4; have f5 := h.fz 5; have rl := h.lt; have Hh := hid h; clear h)
  have H1 := hid (Hh.out.set1 (i + 1))
  have K1 := hid ((KR.refl r w).set (o := 1) (.int .i64 ((i + 1 : Nat) : Int)))
  clear Hh
  by_cases d1 : dig (nx p (i + 1)) = true
  · have l1 := hnx (i + 1) (.inr (.inr d1))
    obtain ⟨q, hq⟩ : ∃ q, q = nx p (i + 1) := ⟨_, rfl⟩
    have hqd : 48 ≤ q ∧ q ≤ 57 := by rw [hq]; exact of_decide_eq_true d1
    obtain ⟨lo, hlo⟩ : ∃ lo, lo = q - 48 := ⟨_, rfl⟩
    have HQ := hid hq
    have HLO := hid hlo
    have hlo2 : 0 ≤ lo ∧ lo ≤ 9 := by omega
    have g0 : decide ((0 : Int) ≤ lo) = true := decide_eq_true (by omega)
    by_cases e2 : nx p (i + 2) = 44
    · have l2 := hnx (i + 2) (.inl e2)
      have W2 := w1' (i + 2) (by omega)
      by_cases e3 : nx p (i + 3) = 125
      · have l3 := hnx (i + 3) (.inr (.inl e3))
        have T : timesI p i = .ok lo (-1) (i + 4) := by unfold timesI; rw [if_pos d1, if_pos e2, if_pos e3, ← hq, hlo]
        rw [T]
        have W3 := w1' (i + 3) (by omega)
        clear T hnx w1' hq hlo
        as_aux_lemma =>
        go_enter Tryz.func140, Tryz.ntmps140
        go_wp2_with fail; refine (ddigit_yes B _ r a c p (i + 1) x y 0 0 H1.out l1 hl d1).mono ?_; rintro _ w2 ⟨rfl, h2, k2⟩; have H2 := hid h2; have K2 := hid k2; clear h2 k2
        rw [← HQ.out, ← HLO.out]
        go_wp2_with fail; refine (dok_c B _ r a c p (i + 2) x y 0 0 H2.out).mono ?_; rintro _ w3 ⟨rfl, h3, k3⟩; have H3 := hid h3; have K3 := hid k3; clear h3 k3
        go_wp2_with fail; refine (dnext_c B _ r a c p (i + 2) x y 0 0 H3.out).mono ?_; rintro _ w4 ⟨rfl, h4, k4⟩; have H4 := hid h4; have K4 := hid k4; clear h4 k4
        rw [e2]
        have h4 := H4.out
        (have c0 := h4.c0; have c1 := h4.c1; have c2 := h4.c2; have c3 := h4.c3; have c4 := h4.c4; have c5 := h4.c5; have f1 := h4.fz 1; have f2 := h4.fz 2; have f3 := h4.fz 3; have f4 := h4.fz 4; have f5 := h4.fz 5; have rl := h4.lt; have Hh4 := hid h4; clear h4)
        have H5 := hid (Hh4.out.set1 (i + 3))
        clear Hh4
        go_wp2_with fail; refine (dnext_c B _ r a c p (i + 3) x y 0 0 H5.out).mono ?_; rintro _ w6 ⟨rfl, h6, k6⟩; have H6 := hid h6; have K6 := hid k6; clear h6 k6
        rw [e3]
        go_wp2_with fail; refine (dok_c B _ r a c p (i + 3) x y 0 0 H6.out).mono ?_; rintro _ w7 ⟨rfl, h7, k7⟩; have H7 := hid h7; have K7 := hid k7; clear h7 k7
        go_wp2_with fail; refine (dnext_c B _ r a c p (i + 3) x y 0 0 H7.out).mono ?_; rintro _ w8 ⟨rfl, h8, k8⟩; have H8 := hid h8; have K8 := hid k8; clear h8 k8
        rw [e3]
        go_wp2_with fail; refine (dok_c B _ r a c p (i + 3) x y 0 0 H8.out).mono ?_; rintro _ w9 ⟨rfl, h9, k9⟩; have H9 := hid h9; have K9 := hid k9; clear h9 k9
        have h9 := H9.out
        (have c0 := h9.c0; have c1 := h9.c1; have c2 := h9.c2; have c3 := h9.c3; have c4 := h9.c4; have c5 := h9.c5; have f1 := h9.fz 1; have f2 := h9.fz 2; have f3 := h9.fz 3; have f4 := h9.fz 4; have f5 := h9.fz 5; have rl := h9.lt; have Hh9 := hid h9; clear h9)
        have H10 := hid (Hh9.out.set1 (i + 4))
        clear Hh9
        go_wp2_with fail
        refine ret_tt Tryz.results140 rfl rfl rfl ?_
        exact ⟨rfl, H10.out, (((((((((K1.out.tr K2.out).tr K3.out).tr K4.out).set _).tr K6.out).tr K7.out).tr K8.out).tr K9.out).set _)⟩
      · have g1 : (nx p (i + 3) != 125) = true := by simpa using e3
        by_cases d3 : dig (nx p (i + 3)) = true
        · have l3 := hnx (i + 3) (.inr (.inr d3))
          obtain ⟨q2, hq2⟩ : ∃ q2, q2 = nx p (i + 3) := ⟨_, rfl⟩
          have hqd2 : 48 ≤ q2 ∧ q2 ≤ 57 := by rw [hq2]; exact of_decide_eq_true d3
          obtain ⟨hi2, hhi2⟩ : ∃ hi2, hi2 = q2 - 48 := ⟨_, rfl⟩
          have HQ2 := hid hq2
          have HHI := hid hhi2
          have g2 : decide ((0 : Int) ≤ hi2) = true := decide_eq_true (by omega)
          by_cases e4 : nx p (i + 4) = 125
          · have l4 := hnx (i + 4) (.inr (.inl e4))
            have W4 := w1' (i + 4) (by omega)
            by_cases hlt : hi2 < lo
            · have g3 : decide (hi2 < lo) = true := decide_eq_true hlt
              have T : timesI p i = .bad i := by unfold timesI; rw [if_pos d1, if_pos e2, if_neg e3, if_pos d3, if_pos e4, ← hq, ← hq2, if_pos (by omega)]
              rw [T]
              clear T hnx w1' hq hlo hq2 hhi2 hlt
              as_aux_lemma =>
              go_enter Tryz.func140, Tryz.ntmps140
              go_wp2_with fail; refine (ddigit_yes B _ r a c p (i + 1) x y 0 0 H1.out l1 hl d1).mono ?_; rintro _ w2 ⟨rfl, h2, k2⟩; have H2 := hid h2; have K2 := hid k2; clear h2 k2
              rw [← HQ.out, ← HLO.out]
              go_wp2_with fail; refine (dok_c B _ r a c p (i + 2) x y 0 0 H2.out).mono ?_; rintro _ w3 ⟨rfl, h3, k3⟩; have H3 := hid h3; have K3 := hid k3; clear h3 k3
              go_wp2_with fail; refine (dnext_c B _ r a c p (i + 2) x y 0 0 H3.out).mono ?_; rintro _ w4 ⟨rfl, h4, k4⟩; have H4 := hid h4; have K4 := hid k4; clear h4 k4
              rw [e2]
              have h4 := H4.out
              (have c0 := h4.c0; have c1 := h4.c1; have c2 := h4.c2; have c3 := h4.c3; have c4 := h4.c4; have c5 := h4.c5; have f1 := h4.fz 1; have f2 := h4.fz 2; have f3 := h4.fz 3; have f4 := h4.fz 4; have f5 := h4.fz 5; have rl := h4.lt; have Hh4 := hid h4; clear h4)
              have H5 := hid (Hh4.out.set1 (i + 3))
              clear Hh4
              go_wp2_with fail; refine (dnext_c B _ r a c p (i + 3) x y 0 0 H5.out).mono ?_; rintro _ w6 ⟨rfl, h6, k6⟩; have H6 := hid h6; have K6 := hid k6; clear h6 k6
              go_wp2_with fail; refine (ddigit_yes B _ r a c p (i + 3) x y 0 0 H6.out l3 hl d3).mono ?_; rintro _ w7 ⟨rfl, h7, k7⟩; have H7 := hid h7; have K7 := hid k7; clear h7 k7
              rw [← HQ2.out, ← HHI.out]
              go_wp2_with fail; refine (dok_c B _ r a c p (i + 4) x y 0 0 H7.out).mono ?_; rintro _ w8 ⟨rfl, h8, k8⟩; have H8 := hid h8; have K8 := hid k8; clear h8 k8
              go_wp2_with fail; refine (dnext_c B _ r a c p (i + 4) x y 0 0 H8.out).mono ?_; rintro _ w9 ⟨rfl, h9, k9⟩; have H9 := hid h9; have K9 := hid k9; clear h9 k9
              rw [e4]
              go_wp2_with fail; refine (dok_c B _ r a c p (i + 4) x y 0 0 H9.out).mono ?_; rintro _ w10 ⟨rfl, h10, k10⟩; have H10 := hid h10; have K10 := hid k10; clear h10 k10
              have h10 := H10.out
              (have c0 := h10.c0; have c1 := h10.c1; have c2 := h10.c2; have c3 := h10.c3; have c4 := h10.c4; have c5 := h10.c5; have f1 := h10.fz 1; have f2 := h10.fz 2; have f3 := h10.fz 3; have f4 := h10.fz 4; have f5 := h10.fz 5; have rl := h10.lt; have Hh10 := hid h10; clear h10)
              have H11 := hid (Hh10.out.set1 (i + 5))
              clear Hh10
              go_wp2_with fail; refine (dbad_one 5 ((i : Nat) : Int) B _ r a c p (i + 5) x y 0 H11.out).mono ?_; rintro _ w12 ⟨rfl, h12, k12⟩; have H12 := hid h12; have K12 := hid k12; clear h12 k12
              go_wp2_with fail
              refine ret_tt Tryz.results140 rfl rfl rfl ?_
              exact ⟨_, _, i + 5, rfl, by omega, H12.out, (((((((((((K1.out.tr K2.out).tr K3.out).tr K4.out).set _).tr K6.out).tr K7.out).tr K8.out).tr K9.out).tr K10.out).set _).tr K12.out)⟩
            · have g3 : decide (hi2 < lo) = false := decide_eq_false hlt
              have T : timesI p i = .ok lo hi2 (i + 5) := by unfold timesI; rw [if_pos d1, if_pos e2, if_neg e3, if_pos d3, if_pos e4, ← hq, ← hq2, if_neg (by omega), hlo, hhi2]
              rw [T]
              clear T hnx w1' hq hlo hq2 hhi2 hlt
              as_aux_lemma =>
              go_enter Tryz.func140, Tryz.ntmps140
              go_wp2_with fail; refine (ddigit_yes B _ r a c p (i + 1) x y 0 0 H1.out l1 hl d1).mono ?_; rintro _ w2 ⟨rfl, h2, k2⟩; have H2 := hid h2; have K2 := hid k2; clear h2 k2
              rw [← HQ.out, ← HLO.out]
              go_wp2_with fail; refine (dok_c B _ r a c p (i + 2) x y 0 0 H2.out).mono ?_; rintro _ w3 ⟨rfl, h3, k3⟩; have H3 := hid h3; have K3 := hid k3; clear h3 k3
              go_wp2_with fail; refine (dnext_c B _ r a c p (i + 2) x y 0 0 H3.out).mono ?_; rintro _ w4 ⟨rfl, h4, k4⟩; have H4 := hid h4; have K4 := hid k4; clear h4 k4
              rw [e2]
              have h4 := H4.out
              (have c0 := h4.c0; have c1 := h4.c1; have c2 := h4.c2; have c3 := h4.c3; have c4 := h4.c4; have c5 := h4.c5; have f1 := h4.fz 1; have f2 := h4.fz 2; have f3 := h4.fz 3; have f4 := h4.fz 4; have f5 := h4.fz 5; have rl := h4.lt; have Hh4 := hid h4; clear h4)
              have H5 := hid (Hh4.out.set1 (i + 3))
              clear Hh4
              go_wp2_with fail; refine (dnext_c B _ r a c p (i + 3) x y 0 0 H5.out).mono ?_; rintro _ w6 ⟨rfl, h6, k6⟩; have H6 := hid h6; have K6 := hid k6; clear h6 k6
              go_wp2_with fail; refine (ddigit_yes B _ r a c p (i + 3) x y 0 0 H6.out l3 hl d3).mono ?_; rintro _ w7 ⟨rfl, h7, k7⟩; have H7 := hid h7; have K7 := hid k7; clear h7 k7
              rw [← HQ2.out, ← HHI.out]
              go_wp2_with fail; refine (dok_c B _ r a c p (i + 4) x y 0 0 H7.out).mono ?_; rintro _ w8 ⟨rfl, h8, k8⟩; have H8 := hid h8; have K8 := hid k8; clear h8 k8
              go_wp2_with fail; refine (dnext_c B _ r a c p (i + 4) x y 0 0 H8.out).mono ?_; rintro _ w9 ⟨rfl, h9, k9⟩; have H9 := hid h9; have K9 := hid k9; clear h9 k9
              rw [e4]
              go_wp2_with fail; refine (dok_c B _ r a c p (i + 4) x y 0 0 H9.out).mono ?_; rintro _ w10 ⟨rfl, h10, k10⟩; have H10 := hid h10; have K10 := hid k10; clear h10 k10
              have h10 := H10.out
              (have c0 := h10.c0; have c1 := h10.c1; have c2 := h10.c2; have c3 := h10.c3; have c4 := h10.c4; have c5 := h10.c5; have f1 := h10.fz 1; have f2 := h10.fz 2; have f3 := h10.fz 3; have f4 := h10.fz 4; have f5 := h10.fz 5; have rl := h10.lt; have Hh10 := hid h10; clear h10)
              have H11 := hid (Hh10.out.set1 (i + 5))
              clear Hh10
              go_wp2_with fail
              refine ret_tt Tryz.results140 rfl rfl rfl ?_
              exact ⟨rfl, H11.out, ((((((((((K1.out.tr K2.out).tr K3.out).tr K4.out).set _).tr K6.out).tr K7.out).tr K8.out).tr K9.out).tr K10.out).set _)⟩
          · have g4 : (nx p (i + 4) != 125) = true := by simpa using e4
            have T : timesI p i = .bad (i + 4) := by unfold timesI; rw [if_pos d1, if_pos e2, if_neg e3, if_pos d3, if_neg e4]
            rw [T]
            clear T hnx w1' hq hlo hq2 hhi2
            as_aux_lemma =>
            go_enter Tryz.func140, Tryz.ntmps140
            go_wp2_with fail; refine (ddigit_yes B _ r a c p (i + 1) x y 0 0 H1.out l1 hl d1).mono ?_; rintro _ w2 ⟨rfl, h2, k2⟩; have H2 := hid h2; have K2 := hid k2; clear h2 k2
            rw [← HQ.out, ← HLO.out]
            go_wp2_with fail; refine (dok_c B _ r a c p (i + 2) x y 0 0 H2.out).mono ?_; rintro _ w3 ⟨rfl, h3, k3⟩; have H3 := hid h3; have K3 := hid k3; clear h3 k3
            go_wp2_with fail; refine (dnext_c B _ r a c p (i + 2) x y 0 0 H3.out).mono ?_; rintro _ w4 ⟨rfl, h4, k4⟩; have H4 := hid h4; have K4 := hid k4; clear h4 k4
            rw [e2]
            have h4 := H4.out
            (have c0 := h4.c0; have c1 := h4.c1; have c2 := h4.c2; have c3 := h4.c3; have c4 := h4.c4; have c5 := h4.c5; have f1 := h4.fz 1; have f2 := h4.fz 2; have f3 := h4.fz 3; have f4 := h4.fz 4; have f5 := h4.fz 5; have rl := h4.lt; have Hh4 := hid h4; clear h4)
            have H5 := hid (Hh4.out.set1 (i + 3))
            clear Hh4
            go_wp2_with fail; refine (dnext_c B _ r a c p (i + 3) x y 0 0 H5.out).mono ?_; rintro _ w6 ⟨rfl, h6, k6⟩; have H6 := hid h6; have K6 := hid k6; clear h6 k6
            go_wp2_with fail; refine (ddigit_yes B _ r a c p (i + 3) x y 0 0 H6.out l3 hl d3).mono ?_; rintro _ w7 ⟨rfl, h7, k7⟩; have H7 := hid h7; have K7 := hid k7; clear h7 k7
            rw [← HQ2.out, ← HHI.out]
            go_wp2_with fail; refine (dok_c B _ r a c p (i + 4) x y 0 0 H7.out).mono ?_; rintro _ w8 ⟨rfl, h8, k8⟩; have H8 := hid h8; have K8 := hid k8; clear h8 k8
            go_wp2_with fail; refine (dnext_c B _ r a c p (i + 4) x y 0 0 H8.out).mono ?_; rintro _ w9 ⟨rfl, h9, k9⟩; have H9 := hid h9; have K9 := hid k9; clear h9 k9
            have h10 := H9.out
            (have c0 := h10.c0; have c1 := h10.c1; have c2 := h10.c2; have c3 := h10.c3; have c4 := h10.c4; have c5 := h10.c5; have f1 := h10.fz 1; have f2 := h10.fz 2; have f3 := h10.fz 3; have f4 := h10.fz 4; have f5 := h10.fz 5; have rl := h10.lt; have Hh10 := hid h10; clear h10)
            go_wp2_with fail; refine (dbad_one 5 ((i + 4 : Nat) : Int) B _ r a c p (i + 4) x y 0 H9.out).mono ?_; rintro _ w10 ⟨rfl, h10, k10⟩; have H10 := hid h10; have K10 := hid k10; clear h10 k10
            go_wp2_with fail; refine (dok_c B _ r a c p (i + 4) x y 5 (((i + 4 : Nat)) : Int) H10.out).mono ?_; rintro _ w11 ⟨rfl, h11, k11⟩; have H11 := hid h11; have K11 := hid k11; clear h11 k11
            go_wp2_with fail
            refine ret_tt Tryz.results140 rfl rfl rfl ?_
            exact ⟨_, _, i + 4, rfl, by omega, H11.out, ((((((((((K1.out.tr K2.out).tr K3.out).tr K4.out).set _).tr K6.out).tr K7.out).tr K8.out).tr K9.out).tr K10.out).tr K11.out)⟩
        · have d3' : dig (nx p (i + 3)) = false := by simpa using d3
          have T : timesI p i = .bad (i + 3) := by unfold timesI; rw [if_pos d1, if_pos e2, if_neg e3, if_neg d3]
          rw [T]
          clear T hnx w1' hq hlo d3
          as_aux_lemma =>
          go_enter Tryz.func140, Tryz.ntmps140
          go_wp2_with fail; refine (ddigit_yes B _ r a c p (i + 1) x y 0 0 H1.out l1 hl d1).mono ?_; rintro _ w2 ⟨rfl, h2, k2⟩; have H2 := hid h2; have K2 := hid k2; clear h2 k2
          rw [← HQ.out, ← HLO.out]
          go_wp2_with fail; refine (dok_c B _ r a c p (i + 2) x y 0 0 H2.out).mono ?_; rintro _ w3 ⟨rfl, h3, k3⟩; have H3 := hid h3; have K3 := hid k3; clear h3 k3
          go_wp2_with fail; refine (dnext_c B _ r a c p (i + 2) x y 0 0 H3.out).mono ?_; rintro _ w4 ⟨rfl, h4, k4⟩; have H4 := hid h4; have K4 := hid k4; clear h4 k4
          rw [e2]
          have h4 := H4.out
          (have c0 := h4.c0; have c1 := h4.c1; have c2 := h4.c2; have c3 := h4.c3; have c4 := h4.c4; have c5 := h4.c5; have f1 := h4.fz 1; have f2 := h4.fz 2; have f3 := h4.fz 3; have f4 := h4.fz 4; have f5 := h4.fz 5; have rl := h4.lt; have Hh4 := hid h4; clear h4)
          have H5 := hid (Hh4.out.set1 (i + 3))
          clear Hh4
          go_wp2_with fail; refine (dnext_c B _ r a c p (i + 3) x y 0 0 H5.out).mono ?_; rintro _ w6 ⟨rfl, h6, k6⟩; have H6 := hid h6; have K6 := hid k6; clear h6 k6
          go_wp2_with fail; refine (ddigit_no B _ r a c p (i + 3) x y 0 H6.out d3').mono ?_; rintro _ w7 ⟨rfl, h7, k7⟩; have H7 := hid h7; have K7 := hid k7; clear h7 k7
          go_wp2_with fail; refine (dok_c B _ r a c p (i + 3) x y 5 (((i + 3 : Nat)) : Int) H7.out).mono ?_; rintro _ w8 ⟨rfl, h8, k8⟩; have H8 := hid h8; have K8 := hid k8; clear h8 k8
          go_wp2_with fail; refine (dok_c B _ r a c p (i + 3) x y 5 (((i + 3 : Nat)) : Int) H8.out).mono ?_; rintro _ w9 ⟨rfl, h9, k9⟩; have H9 := hid h9; have K9 := hid k9; clear h9 k9
          go_wp2_with fail
          refine ret_tt Tryz.results140 rfl rfl rfl ?_
          exact ⟨_, _, i + 3, rfl, by omega, H9.out, ((((((((K1.out.tr K2.out).tr K3.out).tr K4.out).set _).tr K6.out).tr K7.out).tr K8.out).tr K9.out)⟩
    · have g5 : (nx p (i + 2) == 44) = false := by simpa using e2
      by_cases e3 : nx p (i + 2) = 125
      · have l3 := hnx (i + 2) (.inr (.inl e3))
        have T : timesI p i = .ok lo lo (i + 3) := by unfold timesI; rw [if_pos d1, if_neg e2, if_pos e3, ← hq, hlo]
        have g6 : decide (lo < lo) = false := decide_eq_false (by omega)
        rw [T]
        have W2 := w1' (i + 2) (by omega)
        clear T hnx w1' hq hlo
        as_aux_lemma =>
        go_enter Tryz.func140, Tryz.ntmps140
        go_wp2_with fail; refine (ddigit_yes B _ r a c p (i + 1) x y 0 0 H1.out l1 hl d1).mono ?_; rintro _ w2 ⟨rfl, h2, k2⟩; have H2 := hid h2; have K2 := hid k2; clear h2 k2
        rw [← HQ.out, ← HLO.out]
        go_wp2_with fail; refine (dok_c B _ r a c p (i + 2) x y 0 0 H2.out).mono ?_; rintro _ w3 ⟨rfl, h3, k3⟩; have H3 := hid h3; have K3 := hid k3; clear h3 k3
        go_wp2_with fail; refine (dnext_c B _ r a c p (i + 2) x y 0 0 H3.out).mono ?_; rintro _ w4 ⟨rfl, h4, k4⟩; have H4 := hid h4; have K4 := hid k4; clear h4 k4
        go_wp2_with fail; refine (dok_c B _ r a c p (i + 2) x y 0 0 H4.out).mono ?_; rintro _ w5 ⟨rfl, h5, k5⟩; have H5 := hid h5; have K5 := hid k5; clear h5 k5
        go_wp2_with fail; refine (dnext_c B _ r a c p (i + 2) x y 0 0 H5.out).mono ?_; rintro _ w6 ⟨rfl, h6, k6⟩; have H6 := hid h6; have K6 := hid k6; clear h6 k6
        rw [e3]
        go_wp2_with fail; refine (dok_c B _ r a c p (i + 2) x y 0 0 H6.out).mono ?_; rintro _ w7 ⟨rfl, h7, k7⟩; have H7 := hid h7; have K7 := hid k7; clear h7 k7
        have h7 := H7.out
        (have c0 := h7.c0; have c1 := h7.c1; have c2 := h7.c2; have c3 := h7.c3; have c4 := h7.c4; have c5 := h7.c5; have f1 := h7.fz 1; have f2 := h7.fz 2; have f3 := h7.fz 3; have f4 := h7.fz 4; have f5 := h7.fz 5; have rl := h7.lt; have Hh7 := hid h7; clear h7)
        have H8 := hid (Hh7.out.set1 (i + 3))
        clear Hh7
        go_wp2_with fail
        refine ret_tt Tryz.results140 rfl rfl rfl ?_
        exact ⟨rfl, H8.out, (((((((K1.out.tr K2.out).tr K3.out).tr K4.out).tr K5.out).tr K6.out).tr K7.out).set _)⟩
      · have g6 : (nx p (i + 2) != 125) = true := by simpa using e3
        have T : timesI p i = .bad (i + 2) := by unfold timesI; rw [if_pos d1, if_neg e2, if_neg e3]
        rw [T]
        clear T hnx w1' hq hlo
        as_aux_lemma =>
        go_enter Tryz.func140, Tryz.ntmps140
        go_wp2_with fail; refine (ddigit_yes B _ r a c p (i + 1) x y 0 0 H1.out l1 hl d1).mono ?_; rintro _ w2 ⟨rfl, h2, k2⟩; have H2 := hid h2; have K2 := hid k2; clear h2 k2
        rw [← HQ.out, ← HLO.out]
        go_wp2_with fail; refine (dok_c B _ r a c p (i + 2) x y 0 0 H2.out).mono ?_; rintro _ w3 ⟨rfl, h3, k3⟩; have H3 := hid h3; have K3 := hid k3; clear h3 k3
        go_wp2_with fail; refine (dnext_c B _ r a c p (i + 2) x y 0 0 H3.out).mono ?_; rintro _ w4 ⟨rfl, h4, k4⟩; have H4 := hid h4; have K4 := hid k4; clear h4 k4
        go_wp2_with fail; refine (dok_c B _ r a c p (i + 2) x y 0 0 H4.out).mono ?_; rintro _ w5 ⟨rfl, h5, k5⟩; have H5 := hid h5; have K5 := hid k5; clear h5 k5
        go_wp2_with fail; refine (dnext_c B _ r a c p (i + 2) x y 0 0 H5.out).mono ?_; rintro _ w6 ⟨rfl, h6, k6⟩; have H6 := hid h6; have K6 := hid k6; clear h6 k6
        have h10 := H6.out
        (have c0 := h10.c0; have c1 := h10.c1; have c2 := h10.c2; have c3 := h10.c3; have c4 := h10.c4; have c5 := h10.c5; have f1 := h10.fz 1; have f2 := h10.fz 2; have f3 := h10.fz 3; have f4 := h10.fz 4; have f5 := h10.fz 5; have rl := h10.lt; have Hh10 := hid h10; clear h10)
        go_wp2_with fail; refine (dbad_one 5 ((i + 2 : Nat) : Int) B _ r a c p (i + 2) x y 0 H6.out).mono ?_; rintro _ w7 ⟨rfl, h7, k7⟩; have H7 := hid h7; have K7 := hid k7; clear h7 k7
        go_wp2_with fail; refine (dok_c B _ r a c p (i + 2) x y 5 (((i + 2 : Nat)) : Int) H7.out).mono ?_; rintro _ w8 ⟨rfl, h8, k8⟩; have H8 := hid h8; have K8 := hid k8; clear h8 k8
        go_wp2_with fail
        refine ret_tt Tryz.results140 rfl rfl rfl ?_
        exact ⟨_, _, i + 2, rfl, by omega, H8.out, (((((((K1.out.tr K2.out).tr K3.out).tr K4.out).tr K5.out).tr K6.out).tr K7.out).tr K8.out)⟩
  · have d1' : dig (nx p (i + 1)) = false := by simpa using d1
    have T : timesI p i = .bad (i + 1) := by unfold timesI; rw [if_neg d1]
    rw [T]
    clear T hnx w1' d1
    as_aux_lemma =>
    go_enter Tryz.func140, Tryz.ntmps140
    go_wp2_with fail; refine (ddigit_no B _ r a c p (i + 1) x y 0 H1.out d1').mono ?_; rintro _ w2 ⟨rfl, h2, k2⟩; have H2 := hid h2; have K2 := hid k2; clear h2 k2
    go_wp2_with fail; refine (dok_c B _ r a c p (i + 1) x y 5 (((i + 1 : Nat)) : Int) H2.out).mono ?_; rintro _ w3 ⟨rfl, h3, k3⟩; have H3 := hid h3; have K3 := hid k3; clear h3 k3
    go_wp2_with fail; refine (dok_c B _ r a c p (i + 1) x y 5 (((i + 1 : Nat)) : Int) H3.out).mono ?_; rintro _ w4 ⟨rfl, h4, k4⟩; have H4 := hid h4; have K4 := hid k4; clear h4 k4
    go_wp2_with fail; refine (dok_c B _ r a c p (i + 1) x y 5 (((i + 1 : Nat)) : Int) H4.out).mono ?_; rintro _ w5 ⟨rfl, h5, k5⟩; have H5 := hid h5; have K5 := hid k5; clear h5 k5
    go_wp2_with fail
    refine ret_tt Tryz.results140 rfl rfl rfl ?_
    exact ⟨_, _, i + 1, rfl, by omega, H5.out, ((((K1.out.tr K2.out).tr K3.out).tr K4.out).tr K5.out)⟩
end Go.Proofs.YtefgjicegbhcaaaGreat
namespace Go.Proofs.YtefgjicegbhcaaaGreat
open Go.RowKit ReM

set_option maxHeartbeats 4000000 in
theorem set_d (n : Bool) (a : Option Addr) (c : Nat) (l : List Int) (w : World) :
    Calls Tryz.prog 145 #[.bool n, .slice a l.length c] w fun e' w' => e' = .returned (.slice (some ⟨w.heap.size, 0, none⟩) 1 1) ∧ RO w' w.heap.size (some ⟨w.heap.size, 0, none⟩) 1 [⟨2, 0, 0, 0, false, n, a, l, c⟩] ∧ Below w.heap.size w w' := by
  go_enter Tryz.func145, Tryz.ntmps145
  go_wp2
  go_ret
  exact ⟨rfl, ROwn.one Tryz.tyRe ⟨2, 0, 0, 0, false, n, a, l, c⟩ _ _ rfl (Nat.le_refl _) _ rfl, by (repeat' (first | exact Below.refl _ _ | assumption | refine bdrewN ?_ _ | refine Below.drew ?_ | refine Below.setCell ?_ (Nat.le_refl _) _ | refine bal ?_ _ | refine bthen ?_ (by assumption)))⟩
theorem NdC.set1 {w : World} {R : Nat} {k d lo hi : Int} {z n : Bool} {s : Value} (h : NdC w R k d lo hi z n s) (v : Int) : NdC (w.setCell ⟨R, 1, none⟩ (.int .i64 v)) R k v lo hi z n s :=
  ⟨cell_set1 h.c0 (by decide), by rw [World.cell?_setCell_same (h := h.c1)], cell_set1 h.c2 (by decide), cell_set1 h.c3 (by decide), cell_set1 h.c4 (by decide), cell_set1 h.c5 (by decide), cell_set1 h.c6 (by decide), fun o => by rw [World.frozen?_setCell]; exact h.fz o⟩
theorem Kpt.thn {F : Nat → Prop} {w w2 w3 : World} (h : Kpt F w w2) (b : Below w2.heap.size w2 w3) : Kpt F w w3 := h.tr (Kpt.of b)
def LowE (w : World) (base : Nat) (a1 : Option Addr) (M N : List Rm) (e' : Ending) (w' : World) : Prop :=
  ∃ a c L, e' = .returned (.slice a L.length c) ∧ Hid (L = M ++ N.map Rm.low) ∧ RO w' base a c L ∧ Kpt (Blk a1) w w' ∧ At w a1 a
set_option maxHeartbeats 16000000 in
theorem lower_d (base : Nat) (a1 a2 : Option Addr) (c1 c2 : Nat) (M N : List Rm) (w : World) (h1 : RO w base a1 c1 M) (h2 : RSl encRe w a2 N) (ho : Off a2 (Blk a1)) (hb : base ≤ w.heap.size) (hs : Sml 100000 100000 N) (hl : M.length ≤ 100000) :
    Calls Tryz.prog 114 #[.slice a1 M.length c1, .slice a2 N.length c2] w (LowE w base a1 M N) := by
  have hnl := hs.len
  have H1 := hid h1
  have H2 := hid h2
  have Hs := hid hs
  have Ho := hid ho
  have Hlt := hid (fun k => h1.lt (k := k))
  clear h1 h2 hs ho
  go_enter Tryz.func114, Tryz.ntmps114
  go_wp2
  go_loopw [0, 5] (fun lv iv wr => ∃ (k : Nat) (aL : Option Addr) (cL : Nat) (L : List Rm), k ≤ N.length ∧ iv = .int .i64 k ∧ lv = .slice aL L.length cL ∧ L.length ≤ 200000 ∧ Hid (L = M ++ (N.take k).map Rm.low) ∧ Hid (RO wr base aL cL L) ∧ Hid (Kpt (Blk a1) w wr) ∧ Hid (At w a1 aL)) (fun _ iv _ => N.length - (intOf iv).toNat)
  case atStart => exact ⟨0, a1, c1, M, by omega, rfl, rfl, by omega, hid (by simp), H1, hid (Kpt.refl _ _), hid (fun ad h => .inl ⟨ad, h, rfl⟩)⟩
  case round =>
    obtain ⟨k, aL, cL, L, hk, rfl, rfl, hL2, HL, HO, HK, HA⟩ := hrel
    by_cases hlt : k < N.length
    · obtain ⟨b, o, rfl, r1⟩ := (H2.out.kpt Ho.out HK.out).rc1 hlt
      obtain ⟨x0, x1, x2, x3, x4, x5, x6⟩ := rec_re r1
      have hd := Hs.out.deep _ (rgt_mem hlt)
      have HT := hid (rgt_take hlt)
      have hz := HK.out.size
      have hLn := hid (show L.length + 1 ≤ 200000 by rw [HL.out, List.length_append, List.length_map, List.length_take]; omega)
      generalize rgt N k = m at *
      have b1 : decide ((k : Int) < (N.length : Int)) = true := decide_eq_true (by omega)
      have kz : (k : Int) < (N.length : Int) := by omega
      obtain ⟨V, hV⟩ : ∃ V, V = wr.alloc (.cells #[.int .i64 m.kind, .int .i64 m.deep, .int .i64 m.lo, .int .i64 m.hi, .bool m.lazy, .bool m.not, .slice m.sa m.set.length m.sc] 128) := ⟨_, rfl⟩
      have nn : NdC V wr.heap.size m.kind m.deep m.lo m.hi m.lazy m.not (.slice m.sa m.set.length m.sc) := by subst hV; exact NdC.new _ _ _ _ _ _ _ _ _ _ rfl
      have bV : Below wr.heap.size wr V := by subst hV; (repeat' (first | exact Below.refl _ _ | assumption | refine bdrewN ?_ _ | refine Below.drew ?_ | refine bal ?_ _ | refine bthen ?_ (by assumption)))
      have zV : V.heap.size = wr.heap.size + 1 := by subst hV; simp
      clear r1
      go_upto_region 5 with fail
      rw [← hV]; clear hV
      have n2 := nn.set1 (m.deep + 1)
      have b2 : Below wr.heap.size wr (V.setCell ⟨wr.heap.size, 1, none⟩ (.int .i64 (m.deep + 1))) := bV.setCell (by simp) _
      have N2 := hid n2
      have B2 := hid b2
      have wd : IntKind.i64.wrap (m.deep + 1) = m.deep + 1 := by rw [IntKind.wrap_i64]; omega
      (have n0 := nn.c0; have n1 := nn.c1; have n2 := nn.c2; have n3 := nn.c3; have n4 := nn.c4; have n5 := nn.c5; have n6 := nn.c6; have nf0 := nn.fz 0; have nf1 := nn.fz 1; have nf2 := nn.fz 2; have nf3 := nn.fz 3; have nf4 := nn.fz 4; have nf5 := nn.fz 5; have nf6 := nn.fz 6; have nz := nn.lt; clear nn)
      clear n2 b2
      go_upto_region 6 with fail
      obtain ⟨V2, hV2⟩ : ∃ V2, V2 = V.setCell ⟨wr.heap.size, 1, none⟩ (.int .i64 (m.deep + 1)) := ⟨_, rfl⟩
      rw [← hV2] at N2 B2 ⊢
      clear n0 n1 n2 n3 n4 n5 n6 nf0 nf1 nf2 nf3 nf4 nf5 nf6 nz
      have zV2 : V2.heap.size = wr.heap.size + 1 := by rw [hV2]; simpa using zV
      clear hV2 bV
      have m2 := N2.out
      (have q0 := m2.c0; have q1 := m2.c1; have q2 := m2.c2; have q3 := m2.c3; have q4 := m2.c4; have q5 := m2.c5; have q6 := m2.c6; have qf0 := m2.fz 0; have qf1 := m2.fz 1; have qf2 := m2.fz 2; have qf3 := m2.fz 3; have qf4 := m2.fz 4; have qf5 := m2.fz 5; have qf6 := m2.fz 6; have qz := m2.lt; clear m2)
      go_wp2_with ((at_builtin; (refine wpL_rapp Tryz.tyRe rfl (.tmp 21) (.tmp 23) rfl base aL (some ⟨wr.heap.size + 1, 0, none⟩) L.length 1 cL 1 L [m.low] rfl (by first | rfl | simp | omega) ((HO.out.grow B2.out).grow (by (repeat' (first | exact Below.refl _ _ | assumption | refine bdrewN ?_ _ | refine Below.drew ?_ | refine bal ?_ _ | refine bthen ?_ (by assumption))))) rfl (by first | rfl | simp | omega) (RSl.lit V2 m.low 128 (wr.heap.size + 1) zV2.symm #[.int .i64 m.kind, .int .i64 (m.deep + 1), .int .i64 m.lo, .int .i64 m.hi, .bool m.lazy, .bool m.not, .slice m.sa m.set.length m.sc] rfl (by decide)) (by simp; show L.length + 1 ≤ 2199023255552; omega) (by simp; omega) ?_); intro a5 c5 w5 L5 Hl5 ho5 hb5 hk5 hA5; have HA5 := hid hA5; clear hA5; have Ho5 := hid ho5; clear ho5; have Hk5 := hid hk5; clear hk5; have hz5 := hb5.size))
      have bz : Below wr.heap.size wr (V2.alloc (.cells #[.int .i64 m.kind, .int .i64 (m.deep + 1), .int .i64 m.lo, .int .i64 m.hi, .bool m.lazy, .bool m.not, .slice m.sa m.set.length m.sc] 128)) := B2.out.alloc (by omega) _
      have hL5 : L5 = M ++ (N.take (k + 1)).map Rm.low := by rw [Hl5.out, HL.out, HT.out, List.map_append, List.append_assoc]; rfl
      have hK5 : Kpt (Blk a1) w w5 := (HK.out.thn bz).trans (Hk5.out.mono fun j hj => by
        have h1 := (HO.out.lt hj).2
        obtain ⟨ad, had, rfl⟩ := hj
        rcases HA.out ad had with h2 | h2
        · exact .inl h2
        · exact .inr ⟨h2, by have := bz.size; omega⟩)
      have hA5 : At w a1 a5 := fun ad had => by
        rcases HA5.out ad had with h2 | h2
        · obtain ⟨ae, hae, he⟩ := h2
          rcases HA.out ae hae with h3 | h3
          · left; rw [he] at h3; exact h3
          · right; omega
        · right; have := bz.size; omega
      exact ⟨⟨k + 1, a5, c5, L5, by omega, by go_num, rfl, by rw [hL5, List.length_append, List.length_map, List.length_take]; omega, hid hL5, Ho5, hid hK5, hid hA5⟩, by simp [intOf] <;> omega⟩
    · obtain rfl : k = N.length := by omega
      have b1 : decide ((N.length : Int) < (N.length : Int)) = false := by simp
      go_wp2
      go_ret
      exact ⟨aL, cL, L, rfl, hid (by rw [HL.out, List.take_length]), HO.out, HK.out, HA.out⟩
end Go.Proofs.YtefgjicegbhcaaaGreat
namespace Go.Proofs.YtefgjicegbhcaaaGreat
open Go.RowKit ReM

def BehP (B : Nat) (w : World) (r : Nat) (a : Option Addr) (c : Nat) (p : List Int) (i x y : Nat) (e f : Int) (res : Option (List Int × Bool)) (e' : Ending) (w' : World) : Prop := match res with
  | some (l, b) => ∃ a2 c2, e' = .returned (.tuple #[.slice a2 l.length c2, .bool b]) ∧ Own w' w.heap.size a2 c2 l ∧ Rdr B w' r a c p (i + 2) x y e f ∧ KR r w w'
  | none => e' = .returned (.tuple #[.slice none 0 0, .bool true]) ∧ Rdr B w' r a c p (i + 2) x y e f ∧ KR r w w'
theorem lo_big {q : Int} (h : 128 ≤ q) : lo q ≠ 100 ∧ lo q ≠ 119 ∧ lo q ≠ 115 := by
  unfold lo; simp only [cpt, decide_eq_true_eq]
  split <;> omega
theorem mean_l (q ll : Int) (h : ll = lo q) : mean CC q = if ll = 100 ∧ q < 128 then some ([48, 57], decide (q ≠ ll)) else if ll = 119 ∧ q < 128 then some ([97, 122, 65, 90, 48, 57, 95, 95], decide (q ≠ ll)) else
    if ll = 115 ∧ q < 128 then some ([32, 32, 9, 9, 10, 10], decide (q ≠ ll)) else if q = 110 then some ([10, 10], false) else if q = 116 then some ([9, 9], false) else if cls q = 4 ∨ cls q = 1 then some ([q, q], false) else none := by
  subst h
  unfold mean
  dsimp only [CC]
  simp only [decide_eq_true_eq]
theorem beh_lit {B : Nat} {w : World} {r : Nat} {a : Option Addr} {c : Nat} {p : List Int} {i x y : Nat} {e f : Int} (l : List Int) (b b' : Bool) (hb : b = b') (k n m : Nat) (cs : Array Value) (W1 : World) (hk : k = W1.heap.size) (hn : n = l.length) (hm : m = l.length) (hw : w.heap.size ≤ W1.heap.size)
    (hl : l.length ≤ 1000) (hr : rng l) (hcs : cs = (l.map (Value.int .i32)).toArray) (hR : Rdr B W1 r a c p (i + 2) x y e f) (hK : KR r w W1) :
    BehP B w r a c p i x y e f (some (l, b)) (.returned (.tuple #[.slice (some ⟨k, 0, none⟩) n m, .bool b'])) (W1.alloc (.cells cs 21)) := by
  subst hb; subst hk; subst hn; subst hm
  exact ⟨_, _, rfl, Own.lit' _ l _ _ _ rfl hw hl hr cs hcs rfl, hR.alloc _, hK.alloc _⟩
theorem dec_bne (q l : Int) : decide (q ≠ l) = (q != l) := by rw [Bool.eq_iff_iff]; simp
set_option maxRecDepth 20000 in
set_option maxHeartbeats 16000000 in
theorem dbehind_c (B : Nat) (w : World) (r : Nat) (a : Option Addr) (c : Nat) (p : List Int) (i x y : Nat) (e f : Int) (h : Rdr B w r a c p i x y e f) (hT : Txt1 p) (hi : i ≤ 2000) :
    Calls Tryz.prog 148 #[.pointer (some ⟨r, 0, none⟩)] w (BehP B w r a c p i x y e f (mean CC (nx p (i + 1)))) := by
  have hl := hT.1
  have hqr := nx_rng h.sl.rng (i + 1)
  have hq0 : nx p (i + 1) < 0 → nx p (i + 1) = -1 := fun hh => by
    rcases Nat.lt_or_ge (i + 1) p.length with h1 | h1
    · have := hT.nxp h1; omega
    · exact nx_end h1
  have W0 : IntKind.i64.wrap ((i : Int) + 1) = ((i + 1 : Nat) : Int) := by rw [IntKind.wrap_i64]; omega
  have W1 : IntKind.i64.wrap (((i + 1 : Nat) : Int) + 1) = ((i + 2 : Nat) : Int) := by rw [IntKind.wrap_i64]; omega
  push_cast at W1
  (have c0 := h.c0; have c1 := h.c1; have c2 := h.c2; have c3 := h.c3; have c4 := h.c4; have c5 := h.c5; have f1 := h.fz 1; have f2 := h.fz 2; have f3 := h.fz 3; have f4 := h.fz 4; have f5 := h.fz 5; have rl := h.lt; have Hh := hid h; clear h)
  have H1 := hid (Hh.out.set1 (i + 1))
  have K1 := hid ((KR.refl r w).set (o := 1) (.int .i64 ((i + 1 : Nat) : Int)))
  clear Hh hT
  obtain ⟨q, hq⟩ : ∃ q, q = nx p (i + 1) := ⟨_, rfl⟩
  have HQ := hid hq
  rw [← hq] at hqr hq0 ⊢
  obtain ⟨ll, hll⟩ : ∃ ll, ll = lo q := ⟨_, rfl⟩
  have HL := hid hll
  obtain ⟨X, hX⟩ : ∃ X, X = mean CC q := ⟨_, rfl⟩
  have hM := hid (hX.trans (mean_l q ll hll))
  rw [← hX]
  have HZ := hid (show w.heap.size ≤ w.heap.size from Nat.le_refl _)
  clear hq
  have HX := hid hX
  clear hX hll
  go_enter Tryz.func148, Tryz.ntmps148
  go_wp2_with fail; refine (dnext_c B _ r a c p (i + 1) x y e f H1.out).mono ?_; rintro _ w2 ⟨rfl, h2, k2⟩; have H2 := hid h2; have K2 := hid k2; clear h2 k2
  rw [← HQ.out]
  have h2 := H2.out
  have z2 : w.heap.size ≤ (w2.setCell ⟨r, 1, none⟩ (.int .i64 ((i : Int) + 1 + 1))).heap.size := by have := K2.out.size; simpa using this
  have R3 : Hid (Rdr B (w2.setCell ⟨r, 1, none⟩ (.int .i64 ((i : Int) + 1 + 1))) r a c p (i + 2) x y e f) := by
    have := h2.set1 (i + 2)
    rw [show ((i + 2 : Nat) : Int) = (i : Int) + 1 + 1 by omega] at this
    exact hid this
  have K3 : Hid (KR r w (w2.setCell ⟨r, 1, none⟩ (.int .i64 ((i : Int) + 1 + 1)))) := hid ((K1.out.tr K2.out).set _)
  (have c0 := h2.c0; have c1 := h2.c1; have c2 := h2.c2; have c3 := h2.c3; have c4 := h2.c4; have c5 := h2.c5; have f1 := h2.fz 1; have f2 := h2.fz 2; have f3 := h2.fz 3; have f4 := h2.fz 4; have f5 := h2.fz 5; have rl := h2.lt; have Hh2 := hid h2; clear h2)
  have Z2 := hid z2
  clear z2
  go_wp2_with (first | (go_at_call 65; refine (rlower_c _ _ hqr).mono ?_; rintro _ w9 ⟨rfl, rfl⟩; rw [← HL.out]) | (go_at_call 90; refine (rclass_c _ _).mono ?_; rintro _ w9 ⟨rfl, rfl⟩))
  all_goals refine ret_tt Tryz.results148 rfl rfl rfl ?_
  all_goals clear c0 c1 c2 c3 c4 c5 f1 f2 f3 f4 f5
  all_goals have hx := hM.out
  all_goals have hln := HL.out
  all_goals simp only [beq_iff_eq, beq_eq_false_iff_ne, ne_eq] at *
  all_goals as_aux_lemma =>
    have hB := fun h => lo_big (q := q) h
    have hN := fun h : q < 0 => (hq0 h)
    have hM1 : mean CC (-1) = none := mean_end
    by_cases hq1 : q < 0
    · have hq2 := hN hq1
      rw [HX.out, hq2, mean_end]
      first | exact ⟨rfl, R3.out, K3.out⟩ | (exfalso; omega)
    · repeat' split at hx
      all_goals first
        | (exfalso; omega)
        | (rw [hx]; exact ⟨rfl, R3.out, K3.out⟩)
        | (rw [hx]; exact beh_lit _ _ _ (by first | rfl | exact dec_bne _ _ | (rw [dec_bne]; simp_all; done)) _ _ _ _ _ (by simp) rfl rfl Z2.out (by simp) (by first | (unfold rng; simp; done) | exact rng_cons hqr (rng_one hqr)) rfl R3.out K3.out)
        | (exfalso; have := hB (by omega); simp_all; done)
end Go.Proofs.YtefgjicegbhcaaaGreat
namespace Go.Proofs.YtefgjicegbhcaaaGreat
open Go.RowKit ReM

inductive Mi where
  | ok : List Int → Bool → Nat → Mi
  | bad : Int → Mi
def memI (p : List Int) (i : Nat) : Mi :=
  if nx p i = 92 then (match mean CC (nx p (i + 1)) with | some (l, false) => .ok l (one l) (i + 2) | _ => .bad (i + 1 : Nat))
  else if nx p i < 0 ∨ nx p i = 93 then .bad i else .ok [nx p i, nx p i] true (i + 1)
def MiR (p : List Int) : Mi → Mb
  | .ok l o j => .ok l o (p.drop j)
  | .bad f => .bad f
theorem mem_ix {p : List Int} (hT : Txt1 p) (i : Nat) : member CC i (p.drop i) = MiR p (memI p i) := by
  rcases Nat.lt_or_ge i p.length with hi | hi
  · rw [drop_nx hi]
    unfold memI
    simp only [member]
    have h0 := hT.nxp hi
    by_cases h92 : nx p i = 92
    · rw [if_pos h92, if_pos h92]
      rcases Nat.lt_or_ge (i + 1) p.length with h1 | h1
      · rw [drop_nx h1]
        dsimp only
        cases hm : mean CC (nx p (i + 1)) with
        | none => simp [MiR]
        | some z =>
          obtain ⟨l, b⟩ := z
          cases b <;> simp [MiR]
      · rw [drop_end h1, nx_end h1, mean_end]; simp [MiR]
    · rw [if_neg h92, if_neg h92]
      by_cases h93 : nx p i = 93
      · rw [if_pos h93, if_pos (.inr h93)]; rfl
      · rw [if_neg h93, if_neg (by omega)]; rfl
  · rw [drop_end hi]
    unfold memI
    rw [nx_end hi, if_neg (by decide), if_pos (.inl (by decide))]
    rfl
set_option maxHeartbeats 4000000 in
theorem dnext_v (q : Int) (B : Nat) (w : World) (r : Nat) (a : Option Addr) (c : Nat) (p : List Int) (i x y : Nat) (e f : Int) (hq : q = nx p i) (h : Rdr B w r a c p i x y e f) :
    Calls Tryz.prog 113 #[.pointer (some ⟨r, 0, none⟩)] w fun e' w' => e' = .returned (.int .i32 q) ∧ ∃ n, w' = w.drewN n := by
  subst hq
  have c0 := h.c0
  have c1 := h.c1
  have hl := h.sl.len
  by_cases hlt : i < p.length
  · obtain ⟨b, o, rfl, hc⟩ := h.sl.at hlt
    have ck := hc i hlt
    rw [nx_lt hlt]
    have b1 : decide ((p.length : Int) ≤ (i : Int)) = false := by simp; omega
    have z1 : (i : Int) < (p.length : Int) := by omega
    clear hc h
    go_enter Tryz.func113, Tryz.ntmps113
    go_wp2
    go_quiet (fail)
    go_wp2
    go_quiet (fail)
    go_wp2
    go_ret
    exact ⟨rfl, by first | exact ⟨_, rfl⟩ | exact drewN_ex _ _ _ | exact drewN_ex2 _ _ _ _⟩
  · rw [nx_end (by omega)]
    have b1 : decide ((p.length : Int) ≤ (i : Int)) = true := by simp; omega
    clear h
    go_enter Tryz.func113, Tryz.ntmps113
    go_wp2
    go_quiet (fail)
    go_wp2
    go_ret
    exact ⟨rfl, by first | exact ⟨_, rfl⟩ | exact drewN_ex _ _ _ | exact drewN_ex2 _ _ _ _⟩
def MemD (B : Nat) (w : World) (r : Nat) (a : Option Addr) (c : Nat) (p : List Int) (x y : Nat) (m : Mi) (e' : Ending) (w' : World) : Prop := match m with
  | .ok l o j => ∃ a2 c2, e' = .returned (.tuple #[.slice a2 l.length c2, .bool o]) ∧ Own w' w.heap.size a2 c2 l ∧ Rdr B w' r a c p j x y 0 0 ∧ KR r w w'
  | .bad f => ∃ j, j ≤ p.length + 2 ∧ e' = .returned (.tuple #[.slice none 0 0, .bool false]) ∧ Rdr B w' r a c p j x y 5 f ∧ KR r w w'
set_option maxRecDepth 20000 in
set_option maxHeartbeats 16000000 in
theorem dmember_c (B : Nat) (w : World) (r : Nat) (a : Option Addr) (c : Nat) (p : List Int) (i x y : Nat) (h : Rdr B w r a c p i x y 0 0) (hT : Txt1 p) (hi : i ≤ p.length) :
    Calls Tryz.prog 152 #[.pointer (some ⟨r, 0, none⟩)] w (MemD B w r a c p x y (memI p i)) := by
  have hl := hT.1
  have hq := nx_rng h.sl.rng i
  obtain ⟨q, hqe⟩ : ∃ q, q = nx p i := ⟨_, rfl⟩
  have HQ := hid hqe
  rw [← hqe] at hq
  obtain ⟨X, hX⟩ : ∃ X, X = memI p i := ⟨_, rfl⟩
  rw [← hX]
  have HX := hid hX
  unfold memI at hX
  rw [← hqe] at hX
  have HT := hid hT
  have HH := hid h
  have c1 := h.c1
  clear h hT hqe
  by_cases h92 : q = 92
  · rw [if_pos h92] at hX
    have hM := hid hX
    clear hX
    have b92 : (q == 92) = true := by simpa using h92
    obtain ⟨Y, hY⟩ : ∃ Y, Y = mean CC (nx p (i + 1)) := ⟨_, rfl⟩
    have HY := hid hY
    rw [← hY] at hM
    clear hY
    go_enter Tryz.func152, Tryz.ntmps152
    go_wp2_with fail
    go_quiet ((go_at_call 113; (with_reducible refine Calls.quiet_of (dnext_v q B _ r a c p i x y 0 0 HQ.out ?_)); first | exact HH.out | exact HH.out.drew | exact HH.out.drewN _))
    go_wp2_with fail
    refine (dbehind_c B _ r a c p i x y 0 0 (HH.out.drewN _) HT.out (by omega)).mono ?_
    rw [← HY.out]
    rintro _ w2 hb
    cases Y with
    | none =>
      obtain ⟨rfl, h2, k2⟩ := hb
      have hX := hM.out
      dsimp only at hX
      subst hX
      have H2 := hid h2
      have K2 := hid k2
      have W1 : IntKind.i64.wrap ((i : Int) + 1) = ((i + 1 : Nat) : Int) := by rw [IntKind.wrap_i64]; omega
      clear h2 k2 hM
      go_wp2_with fail
      rw [show (i : Int) + 1 = ((i + 1 : Nat) : Int) from rfl]
      refine (dbad_one 5 ((i + 1 : Nat) : Int) B w2 r a c p (i + 2) x y 0 H2.out).mono ?_
      rintro _ w3 ⟨rfl, h3, k3⟩
      have H3 := hid h3
      have K3 := hid k3
      clear h3 k3
      go_wp2_with fail
      refine ret_tt Tryz.results152 rfl rfl rfl ?_
      exact ⟨i + 2, by omega, rfl, H3.out, (((KR.refl r w).drewN _).tr K2.out).tr K3.out⟩
    | some z =>
      obtain ⟨l, b⟩ := z
      obtain ⟨a2, c2, rfl, ho, h2, k2⟩ := hb
      have hX := hM.out
      have H2 := hid h2
      have K2 := hid k2
      have HO := hid ho
      cases b with
      | true =>
        dsimp only at hX
        subst hX
        have W1 : IntKind.i64.wrap ((i : Int) + 1) = ((i + 1 : Nat) : Int) := by rw [IntKind.wrap_i64]; omega
        clear h2 k2 hM ho
        go_wp2_with fail
        rw [show (i : Int) + 1 = ((i + 1 : Nat) : Int) from rfl]
        refine (dbad_one 5 ((i + 1 : Nat) : Int) B w2 r a c p (i + 2) x y 0 H2.out).mono ?_
        rintro _ w3 ⟨rfl, h3, k3⟩
        have H3 := hid h3
        have K3 := hid k3
        clear h3 k3
        go_wp2_with fail
        refine ret_tt Tryz.results152 rfl rfl rfl ?_
        exact ⟨i + 2, by omega, rfl, H3.out, (((KR.refl r w).drewN _).tr K2.out).tr K3.out⟩
      | false =>
        dsimp only at hX
        subst hX
        clear h2 k2 hM ho
        obtain ⟨n, hn⟩ : ∃ n, n = l.length := ⟨_, rfl⟩
        have Hn := hid hn
        rw [← hn]
        by_cases h2 : n = 2
        · obtain ⟨u, v, rfl⟩ : ∃ u v, l = [u, v] := by
            match l, hn.symm.trans h2 with
            | [u, v], _ => exact ⟨u, v, rfl⟩
          obtain ⟨b', o', rfl, hc⟩ := HO.out.sl.at (i := 0) (by simp)
          have u0 : w2.cell? ⟨b', o', none⟩ = some (.int .i32 u) := hc 0 (by simp)
          have u1 : w2.cell? ⟨b', o' + 1, none⟩ = some (.int .i32 v) := hc 1 (by simp)
          subst h2
          clear hc hn
          go_wp2_with fail
          go_quiet (fail)
          go_wp2_with fail
          refine ret_tt Tryz.results152 rfl rfl rfl ?_
          refine ⟨_, _, ?_, (HO.out.base_le (by simp)).drewN _, H2.out.drewN _, (((KR.refl r w).drewN _).tr K2.out).drewN _⟩
          show _ = Ending.returned (.tuple #[_, .bool (decide (u = v))])
          rw [show decide (u = v) = (u == v) from by rw [Bool.eq_iff_iff]; simp]
          rfl
        · have b2 : ((n : Int) == 2) = false := by simp; omega
          have ho1 : one l = false := by
            match l, hn with
            | [], _ => rfl
            | [_], _ => rfl
            | [_, _], h => exact absurd h h2
            | _ :: _ :: _ :: _, _ => rfl
          have Ho1 := hid ho1
          clear hn ho1 h2
          go_wp2_with fail
          go_quiet (fail)
          go_wp2_with fail
          refine ret_tt Tryz.results152 rfl rfl rfl ?_
          refine ⟨a2, c2, ?_, (HO.out.base_le (by simp)).drewN _, H2.out.drewN _, (((KR.refl r w).drewN _).tr K2.out).drewN _⟩
          rw [show l.length = n from Hn.out.symm, Ho1.out]
          rfl
  · by_cases hbad : q < 0 ∨ q = 93
    · rw [if_neg h92, if_pos hbad] at hX
      subst hX
      have b92 : (q == 92) = false := by simpa using h92
      by_cases hn0 : q < 0
      · have b1 : decide (q < 0) = true := decide_eq_true hn0
        go_enter Tryz.func152, Tryz.ntmps152
        go_wp2_with fail
        go_quiet ((go_at_call 113; (with_reducible refine Calls.quiet_of (dnext_v q B _ r a c p i x y 0 0 HQ.out ?_)); first | exact HH.out | exact HH.out.drew | exact HH.out.drewN _))
        go_wp2_with fail
        refine (dbad_one 5 i B _ r a c p i x y 0 (HH.out.drewN _)).mono ?_
        rintro _ w3 ⟨rfl, h3, k3⟩
        have H3 := hid h3
        have K3 := hid k3
        clear h3 k3
        go_wp2_with fail
        refine ret_tt Tryz.results152 rfl rfl rfl ?_
        exact ⟨i, by omega, rfl, H3.out, ((KR.refl r w).drewN _).tr K3.out⟩
      · have b1 : decide (q < 0) = false := decide_eq_false hn0
        have b2 : (q == 93) = true := by simp; omega
        go_enter Tryz.func152, Tryz.ntmps152
        go_wp2_with fail
        go_quiet ((go_at_call 113; (with_reducible refine Calls.quiet_of (dnext_v q B _ r a c p i x y 0 0 HQ.out ?_)); first | exact HH.out | exact HH.out.drew | exact HH.out.drewN _))
        go_wp2_with fail
        refine (dbad_one 5 i B _ r a c p i x y 0 (HH.out.drewN _)).mono ?_
        rintro _ w3 ⟨rfl, h3, k3⟩
        have H3 := hid h3
        have K3 := hid k3
        clear h3 k3
        go_wp2_with fail
        refine ret_tt Tryz.results152 rfl rfl rfl ?_
        exact ⟨i, by omega, rfl, H3.out, ((KR.refl r w).drewN _).tr K3.out⟩
    · rw [if_neg h92, if_neg hbad] at hX
      subst hX
      have b92 : (q == 92) = false := by simpa using h92
      have b1 : decide (q < 0) = false := by simp; omega
      have b2 : (q == 93) = false := by simp; omega
      have W1 : IntKind.i64.wrap ((i : Int) + 1) = ((i + 1 : Nat) : Int) := by rw [IntKind.wrap_i64]; omega
      have c1' := c1
      have hlt : i < p.length := by
        rcases Nat.lt_or_ge i p.length with h1 | h1
        · exact h1
        · rw [nx_end h1] at HQ; have := HQ.out; omega
      go_enter Tryz.func152, Tryz.ntmps152
      go_wp2_with fail
      go_quiet ((go_at_call 113; (with_reducible refine Calls.quiet_of (dnext_v q B _ r a c p i x y 0 0 HQ.out ?_)); first | exact HH.out | exact HH.out.drew | exact HH.out.drewN _))
      have h2 := HH.out
      (have c0 := h2.c0; have c1 := h2.c1; have c2 := h2.c2; have c3 := h2.c3; have c4 := h2.c4; have c5 := h2.c5; have f1 := h2.fz 1; have f2 := h2.fz 2; have f3 := h2.fz 3; have f4 := h2.fz 4; have f5 := h2.fz 5; have rl := h2.lt; have Hh2 := hid h2; clear h2)
      go_wp2_with fail
      refine ret_tt Tryz.results152 rfl rfl rfl ?_
      refine ⟨_, _, rfl, Own.lit' _ [q, q] _ _ _ (by simp) (by simp) (by simp) (rng_cons hq (rng_one hq)) _ rfl rfl, ?_, ?_⟩
      · exact (Hh2.out.drewN _).set1 (i + 1) |>.alloc _
      · exact (((KR.refl r w).drewN _).set _).alloc _
theorem single_ix {p : List Int} (i : Nat) : single CC (p.drop i) = (decide (i < p.length) && (nx p i != 93) && (if nx p i = 92 then (match mean CC (nx p (i + 1)) with | some (l, false) => one l | _ => false) else true)) := by
  rcases Nat.lt_or_ge i p.length with hi | hi
  · rw [drop_nx hi, decide_eq_true hi]
    simp only [single, Bool.true_and]
    by_cases h93 : nx p i = 93
    · rw [if_pos h93, h93]; rfl
    · rw [if_neg h93, show (nx p i != 93) = true from by simpa using h93, Bool.true_and]
      by_cases h92 : nx p i = 92
      · rw [if_pos h92, if_pos h92]
        rcases Nat.lt_or_ge (i + 1) p.length with h1 | h1
        · rw [drop_nx h1]; rfl
        · rw [drop_end h1, nx_end h1, mean_end]
      · rw [if_neg h92, if_neg h92]
  · rw [drop_end hi, decide_eq_false (by omega)]; rfl
theorem RdrB.new (w : World) (a : Option Addr) (c : Nat) (p : List Int) (h : Sl w a p) (hc : p.length ≤ c) (i : Nat) (T : TypeId) (b : Nat) (hb : b = w.heap.size) :
    Rdr (b + 1) (w.alloc (.cells #[.slice a p.length c, .int .i64 i, .int .i64 0, .int .i64 0, .int .i64 0, .int .i64 0] T)) b a c p i 0 0 0 0 := by
  subst hb
  refine ⟨by rw [cell_alloc_new]; rfl, by rw [cell_alloc_new]; rfl, by rw [cell_alloc_new]; rfl, by rw [cell_alloc_new]; rfl, by rw [cell_alloc_new]; rfl, by rw [cell_alloc_new]; rfl, fun o => by simp, h.alloc _, ?_, by omega, by simp, hc⟩
  cases p with
  | nil => exact .inl rfl
  | cons x t =>
    obtain ⟨b, off, rfl, hcs⟩ := h.at (i := 0) (by simp)
    have := World.block_lt_of_cell? w _ (hcs 0 (by simp))
    exact .inr ⟨_, rfl, by show b < _; simp at this; omega, by show b ≠ _; simp at this; omega⟩
set_option maxRecDepth 20000 in
set_option maxHeartbeats 16000000 in
theorem dsingle_c (B : Nat) (w : World) (r : Nat) (a : Option Addr) (c : Nat) (p : List Int) (i j x y : Nat) (e f : Int) (h : Rdr B w r a c p j x y e f) (hT : Txt1 p) (hi : i ≤ 2000) :
    Calls Tryz.prog 153 #[.pointer (some ⟨r, 0, none⟩), .int .i64 i] w fun e' w' => e' = .returned (.bool (single CC (p.drop i))) ∧ Rdr B w' r a c p j x y e f ∧ KR r w w' := by
  have hl := hT.1
  have HT := hid hT
  have HH := hid h
  have hS := single_ix (p := p) i
  obtain ⟨X, hX⟩ : ∃ X, X = single CC (p.drop i) := ⟨_, rfl⟩
  rw [← hX] at hS ⊢
  have c0 := h.c0
  by_cases hlt : i < p.length
  · obtain ⟨b, o, ha, hc⟩ := h.sl.at hlt
    have ck := hc i hlt
    rw [← nx_lt hlt] at ck
    obtain ⟨q, hq⟩ : ∃ q, q = nx p i := ⟨_, rfl⟩
    rw [← hq] at ck hS
    have HQ := hid hq
    rw [decide_eq_true hlt, Bool.true_and] at hS
    have b0 : decide ((p.length : Int) ≤ (i : Int)) = false := decide_eq_false (by omega)
    have z1 : (i : Int) < (p.length : Int) := by omega
    clear hX hq h
    by_cases h93 : q = 93
    · have b93 : (q == 93) = true := by simpa using h93
      rw [h93] at hS
      subst hS
      subst ha
      clear hc
      go_enter Tryz.func153, Tryz.ntmps153
      go_wp2_with fail
      go_ret
      exact ⟨rfl, HH.out, KR.refl r w⟩
    · have b93 : (q == 93) = false := by simpa using h93
      rw [show (q != 93) = true from by simpa using h93, Bool.true_and] at hS
      by_cases h92 : q = 92
      · rw [if_pos h92] at hS
        have b92 : (q != 92) = false := by simp [h92]
        obtain ⟨V, hV⟩ : ∃ V, V = w.alloc (.cells #[.slice a p.length c, .int .i64 i, .int .i64 0, .int .i64 0, .int .i64 0, .int .i64 0] 141) := ⟨_, rfl⟩
        have RV : Rdr (w.heap.size + 1) V w.heap.size a c p i 0 0 0 0 := by rw [hV]; exact RdrB.new w a c p HH.out.sl HH.out.cap i _ _ rfl
        have bV : Below w.heap.size w V := by rw [hV]; (repeat' (first | exact Below.refl _ _ | assumption | refine bdrewN ?_ _ | refine Below.drew ?_ | refine Below.setCell ?_ (Nat.le_refl _) _ | refine bal ?_ _ | refine bthen ?_ (by assumption)))
        have HV := hid RV
        have BV := hid bV
        have HHV := hid (HH.out.bel bV)
        have hBw := HH.out.Bw
        obtain ⟨Y, hY⟩ : ∃ Y, Y = mean CC (nx p (i + 1)) := ⟨_, rfl⟩
        have HY := hid hY
        rw [← hY] at hS
        have HS := hid hS
        subst ha
        clear hY hS hc RV bV
        go_enter Tryz.func153, Tryz.ntmps153
        go_upto_region 6 with fail
        rw [← hV]; clear hV
        go_wp2_with fail
        refine (dbehind_c _ V _ _ c p i 0 0 0 0 HV.out HT.out hi).mono ?_
        rw [← HY.out]
        rintro _ w2 hb
        cases Y with
        | none =>
          obtain ⟨rfl, -, k2⟩ := hb
          have hS := HS.out
          dsimp only at hS
          subst hS
          have b2 := k2.below (B := w.heap.size) (fun k hk => Nat.le_of_eq hk.symm) BV.out.size
          have H2 := hid (HHV.out.kpt k2 fun k hk => by omega)
          have K2 := hid (Kpt.of (F := fun k => k = r) (BV.out.trans b2))
          clear k2 b2
          go_wp2_with fail
          go_quiet (fail)
          go_wp2_with fail
          go_ret
          exact ⟨rfl, H2.out.drewN _, K2.out.drewN _⟩
        | some z =>
          obtain ⟨l, b⟩ := z
          obtain ⟨a2, c2, rfl, ho, -, k2⟩ := hb
          have b2 := k2.below (B := w.heap.size) (fun k hk => Nat.le_of_eq hk.symm) BV.out.size
          have H2 := hid (HHV.out.kpt k2 fun k hk => by omega)
          have K2 := hid (Kpt.of (F := fun k => k = r) (BV.out.trans b2))
          have HO := hid ho
          have hS := HS.out
          clear k2 b2 ho
          obtain ⟨n, hn⟩ : ∃ n, n = l.length := ⟨_, rfl⟩
          rw [← hn]
          cases b with
          | true =>
            dsimp only at hS
            subst hS
            clear hn
            go_wp2_with fail
            go_quiet (fail)
            go_wp2_with fail
            go_ret
            exact ⟨rfl, H2.out.drewN _, K2.out.drewN _⟩
          | false =>
            dsimp only at hS
            subst hS
            by_cases h2 : n = 2
            · obtain ⟨u, v, rfl⟩ : ∃ u v, l = [u, v] := by
                match l, hn.symm.trans h2 with
                | [u, v], _ => exact ⟨u, v, rfl⟩
              obtain ⟨b', o', rfl, hc⟩ := HO.out.sl.at (i := 0) (by simp)
              have u0 : w2.cell? ⟨b', o', none⟩ = some (.int .i32 u) := hc 0 (by simp)
              have u1 : w2.cell? ⟨b', o' + 1, none⟩ = some (.int .i32 v) := hc 1 (by simp)
              subst h2
              have e1 : one [u, v] = (u == v) := by
                show decide (u = v) = _
                rw [Bool.eq_iff_iff]; simp
              have E1 := hid e1
              clear hc hn e1
              go_wp2_with fail
              go_quiet (fail)
              go_wp2_with fail
              go_ret
              exact ⟨by rw [E1.out]; rfl, H2.out.drewN _, K2.out.drewN _⟩
            · have b2 : ((n : Int) == 2) = false := by simp; omega
              have ho1 : one l = false := by
                match l, hn with
                | [], _ => rfl
                | [_], _ => rfl
                | [_, _], h => exact absurd h h2
                | _ :: _ :: _ :: _, _ => rfl
              have E1 := hid ho1
              clear hn ho1 h2
              go_wp2_with fail
              go_quiet (fail)
              go_wp2_with fail
              go_ret
              exact ⟨by rw [E1.out]; rfl, H2.out.drewN _, K2.out.drewN _⟩
      · rw [if_neg h92] at hS
        have b92 : (q != 92) = true := by simp [h92]
        subst hS
        subst ha
        clear hc
        go_enter Tryz.func153, Tryz.ntmps153
        go_wp2_with fail
        go_ret
        exact ⟨rfl, HH.out, KR.refl r w⟩
  · rw [decide_eq_false hlt] at hS
    have b0 : decide ((p.length : Int) ≤ (i : Int)) = true := decide_eq_true (by omega)
    simp only [Bool.false_and] at hS
    subst hS
    clear h hX
    go_enter Tryz.func153, Tryz.ntmps153
    go_wp2_with fail
    go_ret
    exact ⟨rfl, HH.out, KR.refl r w⟩
end Go.Proofs.YtefgjicegbhcaaaGreat
