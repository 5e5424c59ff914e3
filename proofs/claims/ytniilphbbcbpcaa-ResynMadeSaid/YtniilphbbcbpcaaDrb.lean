/- The document's reader: times. -/
import Derived.Test.YtniilphbbcbpcaaDra
import Derived.Test.YtniilphbbcbpcaaReZ
namespace Go.Proofs.Ytniilphbbcbpcaa
open Go.RowKit ReM

def TimP (B : Nat) (w : World) (r : Nat) (a : Option Addr) (c : Nat) (p : List Int) (x y : Nat) (res : Ri) (e' : Ending) (w' : World) : Prop := match res with
  | .ok lo hi j => e' = .returned (.tuple #[.int .i64 lo, .int .i64 hi]) ∧ Rdr B w' r a c p j x y 0 0 ∧ KR r w w'
  | .bad f => ∃ (lo hi : Int) (j : Nat), e' = .returned (.tuple #[.int .i64 lo, .int .i64 hi]) ∧ j ≤ p.length ∧ Rdr B w' r a c p j x y 5 f ∧ KR r w w'
theorem ret_tt {fn : Func} {post : Ending → World → Prop} {at_ : Act} {w : World} {u v : Value} (hr : fn.results = #[ResultVar.tmp 2, ResultVar.tmp 3]) (h2 : at_.tmps[2]?.getD undef = u) (h3 : at_.tmps[3]?.getD undef = v) (hd : at_.defers = [])
    (hp : post (.returned (.tuple #[u, v])) w) : bodyPost Try.prog fn post Exit.ret at_ w :=
  bodyPost_ret (v := .tuple #[u, v]) (by simp [results, hr, go_sem, h2, h3]) hd hp
set_option maxRecDepth 20000 in
set_option maxHeartbeats 16000000 in
theorem dtimes_c (B : Nat) (w : World) (r : Nat) (a : Option Addr) (c : Nat) (p : List Int) (i x y : Nat) (h : Rdr B w r a c p i x y 0 0) (hi : i < p.length) (hl : p.length ≤ 1000) :
    Calls Try.prog 75 #[.pointer (some ⟨r, 0, none⟩)] w (TimP B w r a c p x y (timesI p i)) := by
  have hnx : ∀ k, nx p k = 44 ∨ nx p k = 125 ∨ dig (nx p k) = true → k < p.length := fun k hk => by
    rcases Nat.lt_or_ge k p.length with h1 | h1
    · exact h1
    · rw [nx_end h1] at hk
      rcases hk with hk | hk | hk
      · omega
      · omega
      · exact absurd hk (by decide)
  have w1' : ∀ k : Nat, k ≤ 2000 → IntKind.i64.wrap ((k : Int) + 1) = ((k + 1 : Nat) : Int) := fun k hk => by rw [IntKind.wrap_i64]; omega
  have W0 := w1' i (by omega)
  have H0 := hid h
  (have c0 := h.c0; have c1 := h.c1; have c2 := h.c2; have c3 := h.c3; have c4 := h.c4; have c5 := h.c5; have f1 := h.fz 1; have f2 := h.fz 2; have f3 := h.fz 3; have f4 := h.fz 4; have f5 := h.fz 5; have rl := h.lt; have Hh := hid h; clear h)
  have H1 := hid (Hh.out.set1 (i + 1))
  have K1 := hid ((KR.refl r w).set (o := 1) (.int .i64 ((i + 1 : Nat) : Int)))
  clear Hh
  by_cases d1 : dig (nx p (i + 1)) = true
  · have l1 := hnx (i + 1) (.inr (.inr d1))
    obtain ⟨q, hq⟩ : ∃ q, q = nx p (i + 1) := ⟨_, rfl⟩
    have hqd : 48 ≤ q ∧ q ≤ 57 := by rw [hq]; exact of_decide_eq_true d1
    obtain ⟨lo, hlo⟩ : ∃ lo, lo = q - 48 := ⟨_, rfl⟩
    have HQ := hid hq
    have HLO := hid hlo
    have hlo2 : 0 ≤ lo ∧ lo ≤ 9 := by omega
    have g0 : decide ((0 : Int) ≤ lo) = true := decide_eq_true (by omega)
    by_cases e2 : nx p (i + 2) = 44
    · have l2 := hnx (i + 2) (.inl e2)
      have W2 := w1' (i + 2) (by omega)
      by_cases e3 : nx p (i + 3) = 125
      · have l3 := hnx (i + 3) (.inr (.inl e3))
        have T : timesI p i = .ok lo (-1) (i + 4) := by unfold timesI; rw [if_pos d1, if_pos e2, if_pos e3, ← hq, hlo]
        rw [T]
        have W3 := w1' (i + 3) (by omega)
        clear T hnx w1' hq hlo
        as_aux_lemma =>
        go_enter Try.func75, Try.ntmps75
        go_wp2_with fail; refine (ddigit_yes B _ r a c p (i + 1) x y 0 0 H1.out l1 hl d1).mono ?_; rintro _ w2 ⟨rfl, h2, k2⟩; have H2 := hid h2; have K2 := hid k2; clear h2 k2
        rw [← HQ.out, ← HLO.out]
        go_wp2_with fail; refine (dok_c B _ r a c p (i + 2) x y 0 0 H2.out).mono ?_; rintro _ w3 ⟨rfl, h3, k3⟩; have H3 := hid h3; have K3 := hid k3; clear h3 k3
        go_wp2_with fail; refine (dnext_c B _ r a c p (i + 2) x y 0 0 H3.out).mono ?_; rintro _ w4 ⟨rfl, h4, k4⟩; have H4 := hid h4; have K4 := hid k4; clear h4 k4
        rw [e2]
        have h4 := H4.out
        (have c0 := h4.c0; have c1 := h4.c1; have c2 := h4.c2; have c3 := h4.c3; have c4 := h4.c4; have c5 := h4.c5; have f1 := h4.fz 1; have f2 := h4.fz 2; have f3 := h4.fz 3; have f4 := h4.fz 4; have f5 := h4.fz 5; have rl := h4.lt; have Hh4 := hid h4; clear h4)
        have H5 := hid (Hh4.out.set1 (i + 3))
        clear Hh4
        go_wp2_with fail; refine (dnext_c B _ r a c p (i + 3) x y 0 0 H5.out).mono ?_; rintro _ w6 ⟨rfl, h6, k6⟩; have H6 := hid h6; have K6 := hid k6; clear h6 k6
        rw [e3]
        go_wp2_with fail; refine (dok_c B _ r a c p (i + 3) x y 0 0 H6.out).mono ?_; rintro _ w7 ⟨rfl, h7, k7⟩; have H7 := hid h7; have K7 := hid k7; clear h7 k7
        go_wp2_with fail; refine (dnext_c B _ r a c p (i + 3) x y 0 0 H7.out).mono ?_; rintro _ w8 ⟨rfl, h8, k8⟩; have H8 := hid h8; have K8 := hid k8; clear h8 k8
        rw [e3]
        go_wp2_with fail; refine (dok_c B _ r a c p (i + 3) x y 0 0 H8.out).mono ?_; rintro _ w9 ⟨rfl, h9, k9⟩; have H9 := hid h9; have K9 := hid k9; clear h9 k9
        have h9 := H9.out
        (have c0 := h9.c0; have c1 := h9.c1; have c2 := h9.c2; have c3 := h9.c3; have c4 := h9.c4; have c5 := h9.c5; have f1 := h9.fz 1; have f2 := h9.fz 2; have f3 := h9.fz 3; have f4 := h9.fz 4; have f5 := h9.fz 5; have rl := h9.lt; have Hh9 := hid h9; clear h9)
        have H10 := hid (Hh9.out.set1 (i + 4))
        clear Hh9
        go_wp2_with fail
        refine ret_tt Try.results75 rfl rfl rfl ?_
        exact ⟨rfl, H10.out, (((((((((K1.out.tr K2.out).tr K3.out).tr K4.out).set _).tr K6.out).tr K7.out).tr K8.out).tr K9.out).set _)⟩
      · have g1 : (nx p (i + 3) != 125) = true := by simpa using e3
        by_cases d3 : dig (nx p (i + 3)) = true
        · have l3 := hnx (i + 3) (.inr (.inr d3))
          obtain ⟨q2, hq2⟩ : ∃ q2, q2 = nx p (i + 3) := ⟨_, rfl⟩
          have hqd2 : 48 ≤ q2 ∧ q2 ≤ 57 := by rw [hq2]; exact of_decide_eq_true d3
          obtain ⟨hi2, hhi2⟩ : ∃ hi2, hi2 = q2 - 48 := ⟨_, rfl⟩
          have HQ2 := hid hq2
          have HHI := hid hhi2
          have g2 : decide ((0 : Int) ≤ hi2) = true := decide_eq_true (by omega)
          by_cases e4 : nx p (i + 4) = 125
          · have l4 := hnx (i + 4) (.inr (.inl e4))
            have W4 := w1' (i + 4) (by omega)
            by_cases hlt : hi2 < lo
            · have g3 : decide (hi2 < lo) = true := decide_eq_true hlt
              have T : timesI p i = .bad i := by unfold timesI; rw [if_pos d1, if_pos e2, if_neg e3, if_pos d3, if_pos e4, ← hq, ← hq2, if_pos (by omega)]
              rw [T]
              clear T hnx w1' hq hlo hq2 hhi2 hlt
              as_aux_lemma =>
              go_enter Try.func75, Try.ntmps75
              go_wp2_with fail; refine (ddigit_yes B _ r a c p (i + 1) x y 0 0 H1.out l1 hl d1).mono ?_; rintro _ w2 ⟨rfl, h2, k2⟩; have H2 := hid h2; have K2 := hid k2; clear h2 k2
              rw [← HQ.out, ← HLO.out]
              go_wp2_with fail; refine (dok_c B _ r a c p (i + 2) x y 0 0 H2.out).mono ?_; rintro _ w3 ⟨rfl, h3, k3⟩; have H3 := hid h3; have K3 := hid k3; clear h3 k3
              go_wp2_with fail; refine (dnext_c B _ r a c p (i + 2) x y 0 0 H3.out).mono ?_; rintro _ w4 ⟨rfl, h4, k4⟩; have H4 := hid h4; have K4 := hid k4; clear h4 k4
              rw [e2]
              have h4 := H4.out
              (have c0 := h4.c0; have c1 := h4.c1; have c2 := h4.c2; have c3 := h4.c3; have c4 := h4.c4; have c5 := h4.c5; have f1 := h4.fz 1; have f2 := h4.fz 2; have f3 := h4.fz 3; have f4 := h4.fz 4; have f5 := h4.fz 5; have rl := h4.lt; have Hh4 := hid h4; clear h4)
              have H5 := hid (Hh4.out.set1 (i + 3))
              clear Hh4
              go_wp2_with fail; refine (dnext_c B _ r a c p (i + 3) x y 0 0 H5.out).mono ?_; rintro _ w6 ⟨rfl, h6, k6⟩; have H6 := hid h6; have K6 := hid k6; clear h6 k6
              go_wp2_with fail; refine (ddigit_yes B _ r a c p (i + 3) x y 0 0 H6.out l3 hl d3).mono ?_; rintro _ w7 ⟨rfl, h7, k7⟩; have H7 := hid h7; have K7 := hid k7; clear h7 k7
              rw [← HQ2.out, ← HHI.out]
              go_wp2_with fail; refine (dok_c B _ r a c p (i + 4) x y 0 0 H7.out).mono ?_; rintro _ w8 ⟨rfl, h8, k8⟩; have H8 := hid h8; have K8 := hid k8; clear h8 k8
              go_wp2_with fail; refine (dnext_c B _ r a c p (i + 4) x y 0 0 H8.out).mono ?_; rintro _ w9 ⟨rfl, h9, k9⟩; have H9 := hid h9; have K9 := hid k9; clear h9 k9
              rw [e4]
              go_wp2_with fail; refine (dok_c B _ r a c p (i + 4) x y 0 0 H9.out).mono ?_; rintro _ w10 ⟨rfl, h10, k10⟩; have H10 := hid h10; have K10 := hid k10; clear h10 k10
              have h10 := H10.out
              (have c0 := h10.c0; have c1 := h10.c1; have c2 := h10.c2; have c3 := h10.c3; have c4 := h10.c4; have c5 := h10.c5; have f1 := h10.fz 1; have f2 := h10.fz 2; have f3 := h10.fz 3; have f4 := h10.fz 4; have f5 := h10.fz 5; have rl := h10.lt; have Hh10 := hid h10; clear h10)
              have H11 := hid (Hh10.out.set1 (i + 5))
              clear Hh10
              go_wp2_with fail; refine (dbad_one 5 ((i : Nat) : Int) B _ r a c p (i + 5) x y 0 H11.out).mono ?_; rintro _ w12 ⟨rfl, h12, k12⟩; have H12 := hid h12; have K12 := hid k12; clear h12 k12
              go_wp2_with fail
              refine ret_tt Try.results75 rfl rfl rfl ?_
              exact ⟨_, _, i + 5, rfl, by omega, H12.out, (((((((((((K1.out.tr K2.out).tr K3.out).tr K4.out).set _).tr K6.out).tr K7.out).tr K8.out).tr K9.out).tr K10.out).set _).tr K12.out)⟩
            · have g3 : decide (hi2 < lo) = false := decide_eq_false hlt
              have T : timesI p i = .ok lo hi2 (i + 5) := by unfold timesI; rw [if_pos d1, if_pos e2, if_neg e3, if_pos d3, if_pos e4, ← hq, ← hq2, if_neg (by omega), hlo, hhi2]
              rw [T]
              clear T hnx w1' hq hlo hq2 hhi2 hlt
              as_aux_lemma =>
              go_enter Try.func75, Try.ntmps75
              go_wp2_with fail; refine (ddigit_yes B _ r a c p (i + 1) x y 0 0 H1.out l1 hl d1).mono ?_; rintro _ w2 ⟨rfl, h2, k2⟩; have H2 := hid h2; have K2 := hid k2; clear h2 k2
              rw [← HQ.out, ← HLO.out]
              go_wp2_with fail; refine (dok_c B _ r a c p (i + 2) x y 0 0 H2.out).mono ?_; rintro _ w3 ⟨rfl, h3, k3⟩; have H3 := hid h3; have K3 := hid k3; clear h3 k3
              go_wp2_with fail; refine (dnext_c B _ r a c p (i + 2) x y 0 0 H3.out).mono ?_; rintro _ w4 ⟨rfl, h4, k4⟩; have H4 := hid h4; have K4 := hid k4; clear h4 k4
              rw [e2]
              have h4 := H4.out
              (have c0 := h4.c0; have c1 := h4.c1; have c2 := h4.c2; have c3 := h4.c3; have c4 := h4.c4; have c5 := h4.c5; have f1 := h4.fz 1; have f2 := h4.fz 2; have f3 := h4.fz 3; have f4 := h4.fz 4; have f5 := h4.fz 5; have rl := h4.lt; have Hh4 := hid h4; clear h4)
              have H5 := hid (Hh4.out.set1 (i + 3))
              clear Hh4
              go_wp2_with fail; refine (dnext_c B _ r a c p (i + 3) x y 0 0 H5.out).mono ?_; rintro _ w6 ⟨rfl, h6, k6⟩; have H6 := hid h6; have K6 := hid k6; clear h6 k6
              go_wp2_with fail; refine (ddigit_yes B _ r a c p (i + 3) x y 0 0 H6.out l3 hl d3).mono ?_; rintro _ w7 ⟨rfl, h7, k7⟩; have H7 := hid h7; have K7 := hid k7; clear h7 k7
              rw [← HQ2.out, ← HHI.out]
              go_wp2_with fail; refine (dok_c B _ r a c p (i + 4) x y 0 0 H7.out).mono ?_; rintro _ w8 ⟨rfl, h8, k8⟩; have H8 := hid h8; have K8 := hid k8; clear h8 k8
              go_wp2_with fail; refine (dnext_c B _ r a c p (i + 4) x y 0 0 H8.out).mono ?_; rintro _ w9 ⟨rfl, h9, k9⟩; have H9 := hid h9; have K9 := hid k9; clear h9 k9
              rw [e4]
              go_wp2_with fail; refine (dok_c B _ r a c p (i + 4) x y 0 0 H9.out).mono ?_; rintro _ w10 ⟨rfl, h10, k10⟩; have H10 := hid h10; have K10 := hid k10; clear h10 k10
              have h10 := H10.out
              (have c0 := h10.c0; have c1 := h10.c1; have c2 := h10.c2; have c3 := h10.c3; have c4 := h10.c4; have c5 := h10.c5; have f1 := h10.fz 1; have f2 := h10.fz 2; have f3 := h10.fz 3; have f4 := h10.fz 4; have f5 := h10.fz 5; have rl := h10.lt; have Hh10 := hid h10; clear h10)
              have H11 := hid (Hh10.out.set1 (i + 5))
              clear Hh10
              go_wp2_with fail
              refine ret_tt Try.results75 rfl rfl rfl ?_
              exact ⟨rfl, H11.out, ((((((((((K1.out.tr K2.out).tr K3.out).tr K4.out).set _).tr K6.out).tr K7.out).tr K8.out).tr K9.out).tr K10.out).set _)⟩
          · have g4 : (nx p (i + 4) != 125) = true := by simpa using e4
            have T : timesI p i = .bad (i + 4) := by unfold timesI; rw [if_pos d1, if_pos e2, if_neg e3, if_pos d3, if_neg e4]
            rw [T]
            clear T hnx w1' hq hlo hq2 hhi2
            as_aux_lemma =>
            go_enter Try.func75, Try.ntmps75
            go_wp2_with fail; refine (ddigit_yes B _ r a c p (i + 1) x y 0 0 H1.out l1 hl d1).mono ?_; rintro _ w2 ⟨rfl, h2, k2⟩; have H2 := hid h2; have K2 := hid k2; clear h2 k2
            rw [← HQ.out, ← HLO.out]
            go_wp2_with fail; refine (dok_c B _ r a c p (i + 2) x y 0 0 H2.out).mono ?_; rintro _ w3 ⟨rfl, h3, k3⟩; have H3 := hid h3; have K3 := hid k3; clear h3 k3
            go_wp2_with fail; refine (dnext_c B _ r a c p (i + 2) x y 0 0 H3.out).mono ?_; rintro _ w4 ⟨rfl, h4, k4⟩; have H4 := hid h4; have K4 := hid k4; clear h4 k4
            rw [e2]
            have h4 := H4.out
            (have c0 := h4.c0; have c1 := h4.c1; have c2 := h4.c2; have c3 := h4.c3; have c4 := h4.c4; have c5 := h4.c5; have f1 := h4.fz 1; have f2 := h4.fz 2; have f3 := h4.fz 3; have f4 := h4.fz 4; have f5 := h4.fz 5; have rl := h4.lt; have Hh4 := hid h4; clear h4)
            have H5 := hid (Hh4.out.set1 (i + 3))
            clear Hh4
            go_wp2_with fail; refine (dnext_c B _ r a c p (i + 3) x y 0 0 H5.out).mono ?_; rintro _ w6 ⟨rfl, h6, k6⟩; have H6 := hid h6; have K6 := hid k6; clear h6 k6
            go_wp2_with fail; refine (ddigit_yes B _ r a c p (i + 3) x y 0 0 H6.out l3 hl d3).mono ?_; rintro _ w7 ⟨rfl, h7, k7⟩; have H7 := hid h7; have K7 := hid k7; clear h7 k7
            rw [← HQ2.out, ← HHI.out]
            go_wp2_with fail; refine (dok_c B _ r a c p (i + 4) x y 0 0 H7.out).mono ?_; rintro _ w8 ⟨rfl, h8, k8⟩; have H8 := hid h8; have K8 := hid k8; clear h8 k8
            go_wp2_with fail; refine (dnext_c B _ r a c p (i + 4) x y 0 0 H8.out).mono ?_; rintro _ w9 ⟨rfl, h9, k9⟩; have H9 := hid h9; have K9 := hid k9; clear h9 k9
            have h10 := H9.out
            (have c0 := h10.c0; have c1 := h10.c1; have c2 := h10.c2; have c3 := h10.c3; have c4 := h10.c4; have c5 := h10.c5; have f1 := h10.fz 1; have f2 := h10.fz 2; have f3 := h10.fz 3; have f4 := h10.fz 4; have f5 := h10.fz 5; have rl := h10.lt; have Hh10 := hid h10; clear h10)
            go_wp2_with fail; refine (dbad_one 5 ((i + 4 : Nat) : Int) B _ r a c p (i + 4) x y 0 H9.out).mono ?_; rintro _ w10 ⟨rfl, h10, k10⟩; have H10 := hid h10; have K10 := hid k10; clear h10 k10
            go_wp2_with fail; refine (dok_c B _ r a c p (i + 4) x y 5 (((i + 4 : Nat)) : Int) H10.out).mono ?_; rintro _ w11 ⟨rfl, h11, k11⟩; have H11 := hid h11; have K11 := hid k11; clear h11 k11
            go_wp2_with fail
            refine ret_tt Try.results75 rfl rfl rfl ?_
            exact ⟨_, _, i + 4, rfl, by omega, H11.out, ((((((((((K1.out.tr K2.out).tr K3.out).tr K4.out).set _).tr K6.out).tr K7.out).tr K8.out).tr K9.out).tr K10.out).tr K11.out)⟩
        · have d3' : dig (nx p (i + 3)) = false := by simpa using d3
          have T : timesI p i = .bad (i + 3) := by unfold timesI; rw [if_pos d1, if_pos e2, if_neg e3, if_neg d3]
          rw [T]
          clear T hnx w1' hq hlo d3
          as_aux_lemma =>
          go_enter Try.func75, Try.ntmps75
          go_wp2_with fail; refine (ddigit_yes B _ r a c p (i + 1) x y 0 0 H1.out l1 hl d1).mono ?_; rintro _ w2 ⟨rfl, h2, k2⟩; have H2 := hid h2; have K2 := hid k2; clear h2 k2
          rw [← HQ.out, ← HLO.out]
          go_wp2_with fail; refine (dok_c B _ r a c p (i + 2) x y 0 0 H2.out).mono ?_; rintro _ w3 ⟨rfl, h3, k3⟩; have H3 := hid h3; have K3 := hid k3; clear h3 k3
          go_wp2_with fail; refine (dnext_c B _ r a c p (i + 2) x y 0 0 H3.out).mono ?_; rintro _ w4 ⟨rfl, h4, k4⟩; have H4 := hid h4; have K4 := hid k4; clear h4 k4
          rw [e2]
          have h4 := H4.out
          (have c0 := h4.c0; have c1 := h4.c1; have c2 := h4.c2; have c3 := h4.c3; have c4 := h4.c4; have c5 := h4.c5; have f1 := h4.fz 1; have f2 := h4.fz 2; have f3 := h4.fz 3; have f4 := h4.fz 4; have f5 := h4.fz 5; have rl := h4.lt; have Hh4 := hid h4; clear h4)
          have H5 := hid (Hh4.out.set1 (i + 3))
          clear Hh4
          go_wp2_with fail; refine (dnext_c B _ r a c p (i + 3) x y 0 0 H5.out).mono ?_; rintro _ w6 ⟨rfl, h6, k6⟩; have H6 := hid h6; have K6 := hid k6; clear h6 k6
          go_wp2_with fail; refine (ddigit_no B _ r a c p (i + 3) x y 0 H6.out d3').mono ?_; rintro _ w7 ⟨rfl, h7, k7⟩; have H7 := hid h7; have K7 := hid k7; clear h7 k7
          go_wp2_with fail; refine (dok_c B _ r a c p (i + 3) x y 5 (((i + 3 : Nat)) : Int) H7.out).mono ?_; rintro _ w8 ⟨rfl, h8, k8⟩; have H8 := hid h8; have K8 := hid k8; clear h8 k8
          go_wp2_with fail; refine (dok_c B _ r a c p (i + 3) x y 5 (((i + 3 : Nat)) : Int) H8.out).mono ?_; rintro _ w9 ⟨rfl, h9, k9⟩; have H9 := hid h9; have K9 := hid k9; clear h9 k9
          go_wp2_with fail
          refine ret_tt Try.results75 rfl rfl rfl ?_
          exact ⟨_, _, i + 3, rfl, by omega, H9.out, ((((((((K1.out.tr K2.out).tr K3.out).tr K4.out).set _).tr K6.out).tr K7.out).tr K8.out).tr K9.out)⟩
    · have g5 : (nx p (i + 2) == 44) = false := by simpa using e2
      by_cases e3 : nx p (i + 2) = 125
      · have l3 := hnx (i + 2) (.inr (.inl e3))
        have T : timesI p i = .ok lo lo (i + 3) := by unfold timesI; rw [if_pos d1, if_neg e2, if_pos e3, ← hq, hlo]
        have g6 : decide (lo < lo) = false := decide_eq_false (by omega)
        rw [T]
        have W2 := w1' (i + 2) (by omega)
        clear T hnx w1' hq hlo
        as_aux_lemma =>
        go_enter Try.func75, Try.ntmps75
        go_wp2_with fail; refine (ddigit_yes B _ r a c p (i + 1) x y 0 0 H1.out l1 hl d1).mono ?_; rintro _ w2 ⟨rfl, h2, k2⟩; have H2 := hid h2; have K2 := hid k2; clear h2 k2
        rw [← HQ.out, ← HLO.out]
        go_wp2_with fail; refine (dok_c B _ r a c p (i + 2) x y 0 0 H2.out).mono ?_; rintro _ w3 ⟨rfl, h3, k3⟩; have H3 := hid h3; have K3 := hid k3; clear h3 k3
        go_wp2_with fail; refine (dnext_c B _ r a c p (i + 2) x y 0 0 H3.out).mono ?_; rintro _ w4 ⟨rfl, h4, k4⟩; have H4 := hid h4; have K4 := hid k4; clear h4 k4
        go_wp2_with fail; refine (dok_c B _ r a c p (i + 2) x y 0 0 H4.out).mono ?_; rintro _ w5 ⟨rfl, h5, k5⟩; have H5 := hid h5; have K5 := hid k5; clear h5 k5
        go_wp2_with fail; refine (dnext_c B _ r a c p (i + 2) x y 0 0 H5.out).mono ?_; rintro _ w6 ⟨rfl, h6, k6⟩; have H6 := hid h6; have K6 := hid k6; clear h6 k6
        rw [e3]
        go_wp2_with fail; refine (dok_c B _ r a c p (i + 2) x y 0 0 H6.out).mono ?_; rintro _ w7 ⟨rfl, h7, k7⟩; have H7 := hid h7; have K7 := hid k7; clear h7 k7
        have h7 := H7.out
        (have c0 := h7.c0; have c1 := h7.c1; have c2 := h7.c2; have c3 := h7.c3; have c4 := h7.c4; have c5 := h7.c5; have f1 := h7.fz 1; have f2 := h7.fz 2; have f3 := h7.fz 3; have f4 := h7.fz 4; have f5 := h7.fz 5; have rl := h7.lt; have Hh7 := hid h7; clear h7)
        have H8 := hid (Hh7.out.set1 (i + 3))
        clear Hh7
        go_wp2_with fail
        refine ret_tt Try.results75 rfl rfl rfl ?_
        exact ⟨rfl, H8.out, (((((((K1.out.tr K2.out).tr K3.out).tr K4.out).tr K5.out).tr K6.out).tr K7.out).set _)⟩
      · have g6 : (nx p (i + 2) != 125) = true := by simpa using e3
        have T : timesI p i = .bad (i + 2) := by unfold timesI; rw [if_pos d1, if_neg e2, if_neg e3]
        rw [T]
        clear T hnx w1' hq hlo
        as_aux_lemma =>
        go_enter Try.func75, Try.ntmps75
        go_wp2_with fail; refine (ddigit_yes B _ r a c p (i + 1) x y 0 0 H1.out l1 hl d1).mono ?_; rintro _ w2 ⟨rfl, h2, k2⟩; have H2 := hid h2; have K2 := hid k2; clear h2 k2
        rw [← HQ.out, ← HLO.out]
        go_wp2_with fail; refine (dok_c B _ r a c p (i + 2) x y 0 0 H2.out).mono ?_; rintro _ w3 ⟨rfl, h3, k3⟩; have H3 := hid h3; have K3 := hid k3; clear h3 k3
        go_wp2_with fail; refine (dnext_c B _ r a c p (i + 2) x y 0 0 H3.out).mono ?_; rintro _ w4 ⟨rfl, h4, k4⟩; have H4 := hid h4; have K4 := hid k4; clear h4 k4
        go_wp2_with fail; refine (dok_c B _ r a c p (i + 2) x y 0 0 H4.out).mono ?_; rintro _ w5 ⟨rfl, h5, k5⟩; have H5 := hid h5; have K5 := hid k5; clear h5 k5
        go_wp2_with fail; refine (dnext_c B _ r a c p (i + 2) x y 0 0 H5.out).mono ?_; rintro _ w6 ⟨rfl, h6, k6⟩; have H6 := hid h6; have K6 := hid k6; clear h6 k6
        have h10 := H6.out
        (have c0 := h10.c0; have c1 := h10.c1; have c2 := h10.c2; have c3 := h10.c3; have c4 := h10.c4; have c5 := h10.c5; have f1 := h10.fz 1; have f2 := h10.fz 2; have f3 := h10.fz 3; have f4 := h10.fz 4; have f5 := h10.fz 5; have rl := h10.lt; have Hh10 := hid h10; clear h10)
        go_wp2_with fail; refine (dbad_one 5 ((i + 2 : Nat) : Int) B _ r a c p (i + 2) x y 0 H6.out).mono ?_; rintro _ w7 ⟨rfl, h7, k7⟩; have H7 := hid h7; have K7 := hid k7; clear h7 k7
        go_wp2_with fail; refine (dok_c B _ r a c p (i + 2) x y 5 (((i + 2 : Nat)) : Int) H7.out).mono ?_; rintro _ w8 ⟨rfl, h8, k8⟩; have H8 := hid h8; have K8 := hid k8; clear h8 k8
        go_wp2_with fail
        refine ret_tt Try.results75 rfl rfl rfl ?_
        exact ⟨_, _, i + 2, rfl, by omega, H8.out, (((((((K1.out.tr K2.out).tr K3.out).tr K4.out).tr K5.out).tr K6.out).tr K7.out).tr K8.out)⟩
  · have d1' : dig (nx p (i + 1)) = false := by simpa using d1
    have T : timesI p i = .bad (i + 1) := by unfold timesI; rw [if_neg d1]
    rw [T]
    clear T hnx w1' d1
    as_aux_lemma =>
    go_enter Try.func75, Try.ntmps75
    go_wp2_with fail; refine (ddigit_no B _ r a c p (i + 1) x y 0 H1.out d1').mono ?_; rintro _ w2 ⟨rfl, h2, k2⟩; have H2 := hid h2; have K2 := hid k2; clear h2 k2
    go_wp2_with fail; refine (dok_c B _ r a c p (i + 1) x y 5 (((i + 1 : Nat)) : Int) H2.out).mono ?_; rintro _ w3 ⟨rfl, h3, k3⟩; have H3 := hid h3; have K3 := hid k3; clear h3 k3
    go_wp2_with fail; refine (dok_c B _ r a c p (i + 1) x y 5 (((i + 1 : Nat)) : Int) H3.out).mono ?_; rintro _ w4 ⟨rfl, h4, k4⟩; have H4 := hid h4; have K4 := hid k4; clear h4 k4
    go_wp2_with fail; refine (dok_c B _ r a c p (i + 1) x y 5 (((i + 1 : Nat)) : Int) H4.out).mono ?_; rintro _ w5 ⟨rfl, h5, k5⟩; have H5 := hid h5; have K5 := hid k5; clear h5 k5
    go_wp2_with fail
    refine ret_tt Try.results75 rfl rfl rfl ?_
    exact ⟨_, _, i + 1, rfl, by omega, H5.out, ((((K1.out.tr K2.out).tr K3.out).tr K4.out).tr K5.out)⟩
end Go.Proofs.Ytniilphbbcbpcaa
