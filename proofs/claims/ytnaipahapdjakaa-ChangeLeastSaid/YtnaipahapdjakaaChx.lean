/- The walk of ChangeLeast. -/
import Derived.Test.YtnaipahapdjakaaChu
import Derived.Deep.CutBlock
import Derived.Deep.DeepCutAuto
namespace Go.Proofs.Ytnaipahapdjakaa
open Go.RowKit

set_option maxHeartbeats 8000000 in
theorem least_w (a b : Option Addr) (c d : Nat) (s t : List Int) (W : World) (h : Sl W a s) (h1 : Sl W b t) (hc : s.length ≤ c) (hd : t.length ≤ d) (hl : s.length ≤ 35184372088830) (hl1 : t.length ≤ 35184372088830) :
    Calls Try.prog 7 #[.slice a s.length c, .slice b t.length d] W fun e w' => e = .returned (.bool true) ∧ Below W.heap.size W w' := by
  have D : Hid (∀ w', Below W.heap.size W w' → Sl w' a s ∧ Sl w' b t) := fun w' hb => ⟨h.bel hb, h1.bel hb⟩
  have hW0 : Below W.heap.size W W := Below.refl _ _
  have Lf : Hid (0 < (leastC s t).cut.length → 0 < (leastC s t).put.length → gt (leastC s t).cut 0 ≠ gt (leastC s t).put 0 ∧ gt (leastC s t).cut ((leastC s t).cut.length - 1) ≠ gt (leastC s t).put ((leastC s t).put.length - 1)) := fun x y => ⟨least_first x y, least_last x y⟩
  have La : Hid (may s = true → may t = true → s.length ≤ 1000 → t.length ≤ 1000 → mayC s ⟨(cpl s t : Nat), (leastC s t).cut, (leastC s t).put⟩ = true ∧ appC s ⟨(cpl s t : Nat), (leastC s t).cut, (leastC s t).put⟩ = t) := fun x y p q => ⟨least_may x y p q, least_app s t⟩
  have FL : Hid (∀ (a1 a2 : Option Addr) (c1 c2 : Nat) (w : World), Sl w a1 s → Sl w a2 t → s.length ≤ c1 → t.length ≤ c2 → Calls Try.prog 27 #[.slice a1 s.length c1, .slice a2 t.length c2] w (Copies2 w (cpl s t : Nat) (leastC s t).cut (leastC s t).put)) := fun a1 a2 c1 c2 w x y p q => least_c a1 a2 c1 c2 s t w x y p q
  have RL : Hid (∀ (w : World), Sl w a s → Sl w b t → Calls Try.prog 29 #[.slice a s.length c, .slice b t.length d] w (Copies w (cpl s t : Nat) (leastC s t).cut (leastC s t).put)) := fun w x y => rleast_c a b c d s t w x y hc hd
  have hCl : (leastC s t).cut.length ≤ 35184372088830 := by rw [least_cut_len]; omega
  have hPl : (leastC s t).put.length ≤ 35184372088830 := by rw [least_put_len]; omega
  have hnl := (cpl_le s t).1
  generalize (leastC s t).cut = C at Lf La FL RL hCl
  generalize (leastC s t).put = P at Lf La FL RL hPl
  generalize cpl s t = n at La FL RL hnl
  clear h h1
  go_enter Try.func7, Try.ntmps7
  go_wp2_with fail
  refine (lend_c a c s W (D.out _ hW0).1 hl).mono ?_
  rintro e w1 ⟨g1, d1, rfl, hd1, -, ho1, hb1⟩
  have Ho1 := hid ho1
  go_wp2_with fail
  refine (lend_c b d t w1 (D.out _ hb1).2 hl1).mono ?_
  rintro e w2 ⟨g2, d2, rfl, hd2, -, ho2, hb2⟩
  have hx2 : Below W.heap.size W w2 := bthen hb1 hb2
  have DL : Hid (∀ w', Below w2.heap.size w2 w' → Sl w' (some ⟨g1, 0, none⟩) (s ++ [-77, -78]) ∧ Sl w' (some ⟨g2, 0, none⟩) (t ++ [-77, -78])) := fun w' hb => ⟨(Ho1.out.sl.bel hb2).bel hb, ho2.sl.bel hb⟩
  have DP : Hid (∀ w', Below w2.heap.size w2 w' → Sl w' (some ⟨g1, 0, none⟩) s ∧ Sl w' (some ⟨g2, 0, none⟩) t) := fun w' hb =>
    ⟨by simpa using (DL.out _ hb).1.take s.length, by simpa using (DL.out _ hb).2.take t.length⟩
  have hy2 : Below w2.heap.size w2 w2 := Below.refl _ _
  clear ho1 ho2 hb1 hb2 Ho1
  have e1 : s.length ≤ d1 := by omega
  have e2 : t.length ≤ d2 := by omega
  go_wp2_with fail
  refine (FL.out _ _ d1 d2 w2 (DP.out _ hy2).1 (DP.out _ hy2).2 e1 e2).mono ?_
  rintro e w3 ⟨a3, c3, a4, c4, rfl, ho3, ho4, hb3, hd3⟩
  have hy3 : Below w2.heap.size w2 (w3.alloc (.cells #[.int .i64 n, .slice a3 C.length c3, .slice a4 P.length c4] 24)) := bal hb3 _
  have oR : Hid (Own (w3.alloc (.cells #[.int .i64 n, .slice a3 C.length c3, .slice a4 P.length c4] 24)) w2.heap.size a3 c3 C ∧ Own (w3.alloc (.cells #[.int .i64 n, .slice a3 C.length c3, .slice a4 P.length c4] 24)) w2.heap.size a4 c4 P) := ⟨ho3.alloc _, ho4.alloc _⟩
  have cR : (w3.alloc (.cells #[.int .i64 n, .slice a3 C.length c3, .slice a4 P.length c4] 24)).cell? ⟨w3.heap.size, 0, none⟩ = some (.int .i64 n) ∧ (w3.alloc (.cells #[.int .i64 n, .slice a3 C.length c3, .slice a4 P.length c4] 24)).cell? ⟨w3.heap.size, 1, none⟩ = some (.slice a3 C.length c3) ∧ (w3.alloc (.cells #[.int .i64 n, .slice a3 C.length c3, .slice a4 P.length c4] 24)).cell? ⟨w3.heap.size, 2, none⟩ = some (.slice a4 P.length c4) := by
    refine ⟨?_, ?_, ?_⟩ <;> (rw [cell_alloc_new]; rfl)
  have zR : w3.heap.size < (w3.alloc (.cells #[.int .i64 n, .slice a3 C.length c3, .slice a4 P.length c4] 24)).heap.size := by simp
  have Hd3 := hid hd3
  clear ho3 ho4 hb3 hd3
  go_wp2
  generalize w3.alloc (.cells #[.int .i64 n, .slice a3 C.length c3, .slice a4 P.length c4] 24) = R at hy3 oR cR zR ⊢
  have K : Hid (∀ w', Below R.heap.size R w' → w'.cell? ⟨w3.heap.size, 0, none⟩ = some (.int .i64 n) ∧ w'.cell? ⟨w3.heap.size, 1, none⟩ = some (.slice a3 C.length c3) ∧ w'.cell? ⟨w3.heap.size, 2, none⟩ = some (.slice a4 P.length c4)) := by
    intro w' hb
    refine ⟨?_, ?_, ?_⟩
    · rw [hb.cell (by exact zR)]; exact cR.1
    · rw [hb.cell (by exact zR)]; exact cR.2.1
    · rw [hb.cell (by exact zR)]; exact cR.2.2
  have hxR : Below W.heap.size W R := bthen hx2 hy3
  have hr1 : Below R.heap.size R R.drew := (Below.refl _ _).drew
  obtain ⟨x0, x1, x2⟩ := K.out _ hr1
  clear cR zR hy2
  go_region_held3 (fun w' => w'.cell? ⟨w3.heap.size, 0, none⟩ = some (.int .i64 n) ∧ w'.cell? ⟨w3.heap.size, 1, none⟩ = some (.slice a3 C.length c3) ∧ w'.cell? ⟨w3.heap.size, 2, none⟩ = some (.slice a4 P.length c4)) (first | assumption | exact ⟨by assumption, by assumption, by assumption⟩ | go_keep)
    (first | (go_at_call 29; (refine (RL.out _ (D.out _ (bthen hxR hr1)).1 (D.out _ (bthen hxR hr1)).2).mono ?_); rintro e w5 ⟨a5, c5, a6, c6, rfl, ho5, ho6, hb5⟩; have Ho5 := hid ho5.sl; have Ho6 := hid ho6.sl; have hr2 : Below R.heap.size R w5 := bthen hr1 hb5; obtain ⟨k0, k1, k2⟩ := K.out _ hr2; clear ho5 ho6 hb5)
               | (go_at_call 28; (refine (sameChange_c n a3 a4 a5 a6 c3 c4 c5 c6 C P _ (oR.out.1.sl.bel hr2) (oR.out.2.sl.bel hr2) Ho5.out Ho6.out).mono ?_); rintro e w6 ⟨rfl, hb6⟩; have hr3 : Below R.heap.size R w6 := bthen hr2 hb6; obtain ⟨m0, m1, m2⟩ := K.out _ hr3; clear hb6))
  clear x0 x1 x2 k0 k1 k2 hr1 hr2 Ho5 Ho6
  go_wp2
  go_quiet (fail)
  have hr4 : Below R.heap.size R (w6.drewN nq) := bdrewN hr3 _
  generalize w6.drewN nq = w7 at hr4 ⊢
  clear m0 m1 m2
  obtain ⟨m0, m1, m2⟩ := K.out _ hr4
  go_upto_region 6 with fail
  go_cut [62] (fun v wc => v = .bool false ∧ ∃ z, wc = w7.drewN z)
  case first =>
    rename_i J0 K0 hJ0 hK0
    by_cases hC0 : 0 < C.length
    · have hdC : decide (0 < C.length) = true := by simpa using hC0
      by_cases hP0 : 0 < P.length
      · have hdP : decide (0 < P.length) = true := by simpa using hP0
        have sC := oR.out.1.sl.bel hr4
        have sP := oR.out.2.sl.bel hr4
        obtain ⟨bC, oC, rfl, hcC⟩ := sC.at hC0
        obtain ⟨bP, oP, rfl, hcP⟩ := sP.at hP0
        have y0 := hcC 0 hC0
        have y1 := hcC (C.length - 1) (by omega)
        have z0 := hcP 0 hP0
        have z1 := hcP (P.length - 1) (by omega)
        rw [Nat.add_zero] at y0 z0
        obtain ⟨u1, u2⟩ := Lf.out hC0 hP0
        have v1 : (gt C 0 == gt P 0) = false := by simpa using u1
        have v2 : (gt C (C.length - 1) == gt P (P.length - 1)) = false := by simpa using u2
        have hw1 : IntKind.i64.wrap ((C.length : Int) - 1) = ((C.length - 1 : Nat) : Int) := by rw [IntKind.wrap_i64]; omega
        have hw2 : IntKind.i64.wrap ((P.length : Int) - 1) = ((P.length - 1 : Nat) : Int) := by rw [IntKind.wrap_i64]; omega
        have hp1 : C.length - 1 < C.length := by omega
        have hp2 : P.length - 1 < P.length := by omega
        generalize C.length - 1 = p1 at y1 v2 hw1 hp1
        generalize P.length - 1 = p2 at z1 v2 hw2 hp2
        clear hcC hcP u1 u2 sC sP
        go_quiet (fail)
        refine hK0 _ _ ?_
        go_meet
        exact ⟨rfl, by first | exact ⟨_, rfl⟩ | exact drewN_ex _ _ _ | exact drewN_ex2 _ _ _ _⟩
      · have hdP : decide (0 < P.length) = false := by simpa using hP0
        go_quiet (fail)
        refine hK0 _ _ ?_
        go_meet
        exact ⟨rfl, by first | exact ⟨_, rfl⟩ | exact drewN_ex _ _ _ | exact drewN_ex2 _ _ _ _⟩
    · have hdC : decide (0 < C.length) = false := by simpa using hC0
      go_quiet (fail)
      refine hK0 _ _ ?_
      go_meet
      exact ⟨rfl, by first | exact ⟨_, rfl⟩ | exact drewN_ex _ _ _ | exact drewN_ex2 _ _ _ _⟩
  case rest =>
    obtain ⟨rfl, z, rfl⟩ := hcut
    have hr5 : Below R.heap.size R (w7.drewN z) := bdrewN hr4 _
    generalize w7.drewN z = w8 at hr5 ⊢
    clear m0 m1 m2
    obtain ⟨m0, m1, m2⟩ := K.out _ hr5
    have zb : w2.heap.size ≤ w8.heap.size := (bthen hy3 hr5).size
    go_wp2_with fail
    refine (spoil_g w2.heap.size n a3 a4 c3 c4 C P w8 (oR.out.1.grow hr5) (oR.out.2.grow hr5) Hd3.out zb).mono ?_
    rintro e w9 ⟨rfl, hb9, -⟩
    have hy9 : Below w2.heap.size w2 w9 := (bthen hy3 hr5).trans hb9
    have hx9 : Below W.heap.size W w9 := bthen hx2 hy9
    clear m0 m1 m2 hb9 hr3 hr4 hr5 K oR
    go_wp2_with fail
    refine (kept_c g1 d1 a c s w9 (DL.out _ hy9).1 hd1 (D.out _ hx9).1).mono ?_
    rintro e w' ⟨rfl, n1, rfl⟩
    have hy10 : Below w2.heap.size w2 (w9.drewN n1) := bdrewN hy9 _
    generalize w9.drewN n1 = w10 at hy10 ⊢
    have hx10 : Below W.heap.size W w10 := bthen hx2 hy10
    go_wp2_with fail
    refine (kept_c g2 d2 b d t w10 (DL.out _ hy10).2 hd2 (D.out _ hx10).2).mono ?_
    rintro e w' ⟨rfl, n2, rfl⟩
    have hx11 : Below W.heap.size W (w10.drewN n2) := bdrewN hx10 _
    generalize w10.drewN n2 = w11 at hx11 ⊢
    clear hy9 hy10 hx9 hx10
    have Kn := fun w => hid (known_c w)
    cases b1 : may s
    · have B1 := hid b1
      clear b1
      go_wp2_with fail
      refine (rmay_v a c s w11 (D.out _ hx11).1 B1.out).mono ?_
      rintro e w' ⟨rfl, rfl⟩
      go_wp2_with fail
      refine (Kn w').out.mono ?_
      rintro e w13 ⟨rfl, hb13⟩
      go_wp2
      go_ret
      exact ⟨rfl, bthen hx11 hb13⟩
    · have B1 := hid b1
      clear b1
      cases b2 : may t
      · have B2 := hid b2
        clear b2
        go_wp2_with fail
        refine (rmay_v a c s w11 (D.out _ hx11).1 B1.out).mono ?_
        rintro e w' ⟨rfl, rfl⟩
        go_wp2_with fail
        refine (rmay_v b d t w' (D.out _ hx11).2 B2.out).mono ?_
        rintro e w' ⟨rfl, rfl⟩
        go_wp2_with fail
        refine (Kn w').out.mono ?_
        rintro e w13 ⟨rfl, hb13⟩
        go_wp2
        go_ret
        exact ⟨rfl, bthen hx11 hb13⟩
      · have B2 := hid b2
        clear b2
        by_cases h5 : s.length ≤ 1000 ∧ t.length ≤ 1000
        · obtain ⟨h5, h6⟩ := h5
          obtain ⟨m1, m2⟩ := La.out B1.out B2.out h5 h6
          have M1 := hid m1; have M2 := hid m2
          clear m1 m2
          go_wp2_with fail
          refine (rmay_v a c s w11 (D.out _ hx11).1 B1.out).mono ?_
          rintro e w' ⟨rfl, rfl⟩
          go_wp2_with fail
          refine (rmay_v b d t w' (D.out _ hx11).2 B2.out).mono ?_
          rintro e w' ⟨rfl, rfl⟩
          go_wp2_with fail
          refine (FL.out a b c d w' (D.out _ hx11).1 (D.out _ hx11).2 hc hd).mono ?_
          rintro e w12 ⟨a7, c7, a8, c8, rfl, ho7, ho8, hb12, -⟩
          have hx12 : Below W.heap.size W w12 := bthen hx11 hb12
          have S7 := hid ho7.sl; have S8 := hid ho8.sl
          clear ho7 ho8 hb12
          go_wp2_with fail
          refine ((apply_c a a7 a8 c c7 c8 s C P n w12 (D.out _ hx12).1 S7.out S8.out hc (by unfold ir; omega)).mono fun e w' h => app_yes M1.out h).mono ?_
          rintro e w13 ⟨a9, c9, L9, rfl, hL9, ho9, hb13⟩
          obtain rfl : t = L9 := by rw [hL9.out, M2.out]
          have hx13 : Below W.heap.size W w13 := bthen hx12 hb13
          have S9 := hid ho9.sl
          clear ho9 hb13 hL9
          go_wp2_with fail
          refine (rsame_v a9 b c9 d t t w13 S9.out (D.out _ hx13).2 (eqM_self t)).mono ?_
          rintro e w' ⟨rfl, n3, rfl⟩
          have hx14 : Below W.heap.size W (w13.drewN n3) := bdrewN hx13 _
          generalize w13.drewN n3 = w14 at hx14 ⊢
          go_wp2_with fail
          refine (Kn w14).out.mono ?_
          rintro e w15 ⟨rfl, hb15⟩
          go_wp2
          go_ret
          exact ⟨rfl, bthen hx14 hb15⟩
        · have h56 : 1000 < s.length ∨ (s.length ≤ 1000 ∧ 1000 < t.length) := by omega
          clear h5
          rcases h56 with h5 | ⟨h5, h6⟩
          all_goals
            go_wp2_with fail
            refine (rmay_v a c s w11 (D.out _ hx11).1 B1.out).mono ?_
            rintro e w' ⟨rfl, rfl⟩
            go_wp2_with fail
            refine (rmay_v b d t w' (D.out _ hx11).2 B2.out).mono ?_
            rintro e w' ⟨rfl, rfl⟩
            go_wp2_with fail
            refine (Kn w').out.mono ?_
            rintro e w13 ⟨rfl, hb13⟩
            go_wp2
            go_ret
            exact ⟨rfl, bthen hx11 hb13⟩
end Go.Proofs.Ytnaipahapdjakaa
