/- ResynWithin: the walk. -/
import Derived.Test.YtdjhnlihalihlaaWit
import Derived.Test.YtdjhnlihalihlaaRsm
import Derived.Deep.CutBlock
import Derived.Deep.RegionHeld3
import Derived.Deep.DeepCutAuto
namespace Go.Proofs.Ytdjhnlihalihlaa
open Go.RowKit ReM

set_option maxRecDepth 20000 in
set_option maxHeartbeats 60000000 in
theorem within_walk (a0 a1 : Option Addr) (c0 c1 : Nat) (l0 l1 : List Int) (W : World) (h0 : I.Sl W a0 l0) (h1 : I.Sl W a1 l1) :
    Calls Try.prog 5 #[.slice a0 l0.length c0, .slice a1 l1.length c1] W fun e w' => e = .returned (.bool true) ∧ Below W.heap.size W w' := by
  obtain ⟨V, hV⟩ : ∃ V, V = W.alloc (.cells #[.slice a0 l0.length c0, .int .i64 0] 26) := ⟨_, rfl⟩
  have tV : TapeAt V W.heap.size a0 l0 c0 0 := by
    subst hV
    exact ⟨by simp, by rw [cell_alloc_new]; rfl, by rw [cell_alloc_new]; rfl, by simp, by omega⟩
  have bV : Below W.heap.size W V := by subst hV; (repeat' (first | exact Below.refl _ _ | assumption | refine bdrewN ?_ _ | refine Below.drew ?_ | refine bal ?_ _ | refine bthen ?_ (by assumption)))
  have zV : V.heap.size = W.heap.size + 1 := by subst hV; simp
  have SV : ∀ w', Below W.heap.size V w' → I.Sl w' a0 l0 := fun w' hb => h0.bel (bV.trans hb)
  have C := hid (pattern_all W.heap.size a0 l0 c0 1 (by omega) V ⟨_, tV⟩ SV)
  have H1 := hid h1
  clear tV SV h0 h1
  go_enter Try.func5, Try.ntmps5
  go_wp2_with fail
  rw [← hV]; clear hV
  refine C.out.mono ?_
  rintro _ w1 ⟨aP, cP, P, rfl, hoP, hnP, hlP, -, hk⟩
  have B1 := hid (bV.trans (hk.belowp (by omega)))
  have zw1 := hk.size
  have HoP := hid hoP
  have NP := hid hnP
  clear hoP hk C hnP hlP
  obtain ⟨V2, hV2⟩ : ∃ V2, V2 = w1.alloc (.cells #[.slice a1 l1.length c1, .int .i64 0] 26) := ⟨_, rfl⟩
  have tV : TapeAt V2 w1.heap.size a1 l1 c1 0 := by
    subst hV2
    exact ⟨by simp, by rw [cell_alloc_new]; rfl, by rw [cell_alloc_new]; rfl, by simp, by omega⟩
  have bV2 : Below w1.heap.size w1 V2 := by subst hV2; (repeat' (first | exact Below.refl _ _ | assumption | refine bdrewN ?_ _ | refine Below.drew ?_ | refine bal ?_ _ | refine bthen ?_ (by assumption)))
  have zV2 : V2.heap.size = w1.heap.size + 1 := by subst hV2; simp
  have SV : ∀ w', Below w1.heap.size V2 w' → I.Sl w' a1 l1 := fun w' hb => H1.out.bel (B1.out.trans ((bV2.trans hb).mono B1.out.size))
  have C := hid (pattern_all w1.heap.size a1 l1 c1 1 (by omega) V2 ⟨_, tV⟩ SV)
  clear tV SV H1
  go_wp2_with fail
  rw [← hV2]; clear hV2
  refine C.out.mono ?_
  rintro _ w2 ⟨aQ, cQ, Q, rfl, hoQ, hnQ, hlQ, -, hk⟩
  have b2 : Below w1.heap.size w1 w2 := bV2.trans (hk.belowp (by omega))
  have zw2 := hk.size
  have B2 := hid (B1.out.trans (b2.mono B1.out.size))
  have HP := hid (HoP.out.grow b2)
  have HQ := hid hoQ
  have NQ := hid hnQ
  clear hoQ hk C hnQ hlQ bV bV2 B1 HoP b2
  obtain ⟨⟨t1, e1, f1⟩, hX1⟩ : ∃ X, X = parseW P := ⟨_, rfl⟩
  obtain ⟨⟨t2, e2, f2⟩, hX2⟩ : ∃ X, X = parseW Q := ⟨_, rfl⟩
  have kP : P.length ≤ cP := by rcases HP.out.shape with ⟨_, _, h⟩ | ⟨_, _, _, _, h⟩; simp [h]; exact h
  have kQ : Q.length ≤ cQ := by rcases HQ.out.shape with ⟨_, _, h⟩ | ⟨_, _, _, _, h⟩; simp [h]; exact h
  have PC := hid (parse_c aP cP P w2 HP.out.sl kP)
  rw [← hX1] at PC
  go_wp2_with fail
  refine PC.out.mono ?_
  rintro _ w3 ⟨a3, c3, L1, rfl, hr1, ho1, hs1, hm1, b3⟩
  dsimp only at hr1
  have X1 := hid (show parseW P = (rns L1, e1, f1) by rw [← hX1, hr1])
  have O1 := hid ho1
  have S1 := hid hs1
  have M1 := hid hm1
  have hm1l := hm1.len
  have B3 := hid (B2.out.trans (b3.mono B2.out.size))
  have zw3 := b3.size
  have HP3 := hid (HP.out.grow (b3.mono (by omega)))
  have HQ3 := hid (HQ.out.grow b3)
  clear hr1 ho1 hs1 hm1 b3 hX1 PC HP HQ B2
  go_wp2_with fail
  obtain ⟨V4, hV4⟩ : ∃ V4, V4 = w3.alloc (.cells #[.int .i64 e1, .int .i64 f1] 36) := ⟨_, rfl⟩
  have F1 : Hid (FtC V4 w3.heap.size e1 f1) := by subst hV4; exact FtC.new _ _ _ _ _ rfl
  have bV4 : Below w3.heap.size w3 V4 := by subst hV4; (repeat' (first | exact Below.refl _ _ | assumption | refine bdrewN ?_ _ | refine Below.drew ?_ | refine bal ?_ _ | refine bthen ?_ (by assumption)))
  have zV4 : V4.heap.size = w3.heap.size + 1 := by subst hV4; simp
  have PC := hid (parse_c aQ cQ Q V4 (HQ3.out.grow bV4).sl kQ)
  rw [← hX2] at PC
  rw [← hV4]; clear hV4
  refine PC.out.mono ?_
  rintro _ w5 ⟨a5, c5, L2, rfl, hr2, ho2, hs2, hm2, b5⟩
  dsimp only at hr2
  have X2 := hid (show parseW Q = (rns L2, e2, f2) by rw [← hX2, hr2])
  have O2 := hid ho2
  have S2 := hid hs2
  have hm2l := hm2.len
  have b35 := bV4.trans (b5.mono (by omega))
  have B5 := hid (B3.out.trans (b35.mono B3.out.size))
  have zw5 := b5.size
  have HP5 := hid (HP3.out.grow b35)
  have HQ5 := hid (HQ3.out.grow b35)
  have F5 := hid (F1.out.bel b5)
  have O5 := hid (O1.out.grow b35)
  have S5 := hid (S1.out.bel b35)
  clear hr2 ho2 hs2 hm2 b5 b35 bV4 hX2 PC HP3 HQ3 B3 F1 O1 S1
  go_upto_region 4 with fail
  obtain ⟨V6, hV6⟩ : ∃ V6, V6 = w5.alloc (.cells #[.int .i64 e2, .int .i64 f2] 36) := ⟨_, rfl⟩
  have F6 : Hid (FtC V6 w5.heap.size e2 f2) := by subst hV6; exact FtC.new _ _ _ _ _ rfl
  have bV6 : Below w5.heap.size w5 V6 := by subst hV6; (repeat' (first | exact Below.refl _ _ | assumption | refine bdrewN ?_ _ | refine Below.drew ?_ | refine bal ?_ _ | refine bthen ?_ (by assumption)))
  have zV6 : V6.heap.size = w5.heap.size + 1 := by subst hV6; simp
  have F7 := hid (F5.out.bel bV6)
  have B6 := hid (B5.out.trans (bV6.mono B5.out.size))
  have HP6 := hid (HP5.out.grow bV6)
  have HQ6 := hid (HQ5.out.grow bV6)
  have O6 := hid (O5.out.grow bV6)
  have S6 := hid (S5.out.bel bV6)
  have O7 := hid (O2.out.grow bV6)
  rw [← hV6]; clear hV6 HP5 HQ5 B5 F5 O5 S5 O2 bV6
  have hPl := HP6.out.sl.len
  have hQl := HQ6.out.sl.len
  have hw : IntKind.i64.wrap ((P.length : Int) + (Q.length : Int)) = (P.length : Int) + (Q.length : Int) := by rw [IntKind.wrap_i64]; omega
  obtain ⟨g1, hg1⟩ : ∃ b, b = (e1 != 0) := ⟨_, rfl⟩
  obtain ⟨g2, hg2⟩ : ∃ b, b = (e2 != 0) := ⟨_, rfl⟩
  obtain ⟨g3, hg3⟩ : ∃ b, b = decide ((55 : Int) < (P.length : Int) + (Q.length : Int)) := ⟨_, rfl⟩
  obtain ⟨g4, hg4⟩ : ∃ b, b = ((L1.length : Int) == 0) := ⟨_, rfl⟩
  obtain ⟨g5, hg5⟩ : ∃ b, b = ((L2.length : Int) == 0) := ⟨_, rfl⟩
  have y1 := F7.out.c0
  have y2 := F6.out.c0
  obtain ⟨gg, hgg⟩ : ∃ b, b = (g1 || g2 || g3 || g4 || g5) := ⟨_, rfl⟩
  go_cut [59] (fun v wx => v = .bool gg ∧ Below V6.heap.size V6 wx)
  case first =>
    have hg1' := hg1.symm
    have hg2' := hg2.symm
    have hg3' := hg3.symm
    have hg4' := hg4.symm
    have hg5' := hg5.symm
    clear hg1 hg2 hg3 hg4 hg5
    as_aux_lemma =>
    subst hgg
    cases g1
    · cases g2
      · cases g3
        · cases g4
          · cases g5
            all_goals
              go_wp2_with fail
              go_meet
              exact ⟨rfl, by (repeat' (first | exact Below.refl _ _ | assumption | refine bdrewN ?_ _ | refine Below.drew ?_ | refine Below.setCell ?_ (Nat.le_refl _) _ | refine bal ?_ _ | refine bthen ?_ (by assumption)))⟩
          · go_wp2_with fail
            go_meet
            exact ⟨rfl, by (repeat' (first | exact Below.refl _ _ | assumption | refine bdrewN ?_ _ | refine Below.drew ?_ | refine Below.setCell ?_ (Nat.le_refl _) _ | refine bal ?_ _ | refine bthen ?_ (by assumption)))⟩
        · go_wp2_with fail
          go_meet
          exact ⟨rfl, by (repeat' (first | exact Below.refl _ _ | assumption | refine bdrewN ?_ _ | refine Below.drew ?_ | refine Below.setCell ?_ (Nat.le_refl _) _ | refine bal ?_ _ | refine bthen ?_ (by assumption)))⟩
      · go_wp2_with fail
        go_meet
        exact ⟨rfl, by (repeat' (first | exact Below.refl _ _ | assumption | refine bdrewN ?_ _ | refine Below.drew ?_ | refine Below.setCell ?_ (Nat.le_refl _) _ | refine bal ?_ _ | refine bthen ?_ (by assumption)))⟩
    · go_wp2_with fail
      go_meet
      exact ⟨rfl, by (repeat' (first | exact Below.refl _ _ | assumption | refine bdrewN ?_ _ | refine Below.drew ?_ | refine Below.setCell ?_ (Nat.le_refl _) _ | refine bal ?_ _ | refine bthen ?_ (by assumption)))⟩
  case rest =>
    rename World => w7
    obtain ⟨rfl, hb7⟩ := hcut
    have B7 := hid (B6.out.trans (hb7.mono B6.out.size))
    have zw7 := hb7.size
    cases gg
    case true =>
      clear y1 y2 F7 F6 hgg hg1 hg2 hg3 hg4 hg5
      as_aux_lemma =>
      go_wp2_with fail
      refine (known_c _).mono ?_
      rintro _ w8 ⟨rfl, b8⟩
      have B8 := hid (B7.out.trans (b8.mono B7.out.size))
      clear b8
      go_wp2_with fail
      go_ret
      exact ⟨rfl, B8.out⟩
    case false =>
      have hf := hgg.symm
      simp only [Bool.or_eq_false_iff, hg1, hg2, hg3, hg4, hg5, bne_eq_false_iff_eq, decide_eq_false_iff_not, beq_eq_false_iff_ne] at hf
      obtain ⟨⟨⟨⟨k1, k2⟩, k3⟩, k4⟩, k5⟩ := hf
      obtain ⟨q1, hA1, hq1⟩ : ∃ g, altP CC P.length (4 * P.length + 8) P 0 0 = .ok (rns L1) [] g ∧ ¬ fbad P < P.length := by
        rcases parseW_cases P with ⟨e, f, h, he⟩ | ⟨l, g, h, hA, -, -, hf⟩
        · rw [X1.out] at h; injection h with _ h; injection h with h _; exact absurd (h.symm.trans k1) he
        · rw [X1.out] at h; injection h with h _; subst h; exact ⟨g, hA, hf⟩
      obtain ⟨q2, hA2, hq2⟩ : ∃ g, altP CC Q.length (4 * Q.length + 8) Q 0 0 = .ok (rns L2) [] g ∧ ¬ fbad Q < Q.length := by
        rcases parseW_cases Q with ⟨e, f, h, he⟩ | ⟨l, g, h, hA, -, -, hf⟩
        · rw [X2.out] at h; injection h with _ h; injection h with h _; exact absurd (h.symm.trans k2) he
        · rw [X2.out] at h; injection h with h _; subst h; exact ⟨g, hA, hf⟩
      have hPW := hid (within_w hA1 (alt_nine hA1) NP.out (by omega) hq1)
      have HP7 := hid (HP6.out.grow hb7)
      have HQ7 := hid (HQ6.out.grow hb7)
      have O8 := hid (O6.out.grow hb7)
      have S8 := hid (S6.out.bel hb7)
      have O9 := hid (O7.out.grow hb7)
      clear hg1 hg2 hg3 hg4 hg5 hgg y1 y2 HP6 HQ6 O6 S6 O7 F6 F7 B6
      go_upto_region 6 with fail
      go_wp2_with (first | (at_builtin; go_loud (refine wpL_appn rfl (.tmp 62) (.tmp 63) rfl w7.heap.size (some ⟨w7.heap.size, 0, none⟩) aP 3 P.length 3 cP [40, 63, 58] P rfl (by first | rfl | simp | omega) (Own.lit' w7 [40, 63, 58] _ _ 3 rfl (Nat.le_refl _) (by decide) (by unfold rng; simp) _ rfl rfl) rfl (by first | rfl | simp | omega) (HP7.out.grow (by (repeat' (first | exact Below.refl _ _ | assumption | refine bdrewN ?_ _ | refine Below.drew ?_ | refine bal ?_ _ | refine bthen ?_ (by assumption))))).sl (by simp; omega) (by first | (simp; done) | (simp; omega)) ?_); intro a8 c8 w8 L8 Hl8 ho8 hb8 hk8 hA8; have HA8 := hid hA8; clear hA8; have Ho8 := hid ho8; clear ho8; have Hk8 := hid hk8; clear hk8; have hz8 := hb8.size) | (at_builtin; go_loud (refine wpL_appn rfl (.tmp 64) (.tmp 65) rfl w7.heap.size a8 (some ⟨w8.heap.size, 0, none⟩) L8.length 1 c8 1 L8 [41] rfl (by first | rfl | simp | omega) (Ho8.out.grow (by (repeat' (first | exact Below.refl _ _ | assumption | refine bdrewN ?_ _ | refine Below.drew ?_ | refine bal ?_ _ | refine bthen ?_ (by assumption))))) rfl (by first | rfl | simp | omega) (Sl.lit' _ [41] _ _ (by simp) (by simp) (by simp [rng]) _ rfl) (by rw [Hl8.out, List.length_append]; simp; omega) (by have := hz8; simp only [World.size_alloc] at this ⊢; omega) ?_); intro a9 c9 w9 L9 Hl9 ho9 hb9 hk9 hA9; have HA9 := hid hA9; clear hA9; have Ho9 := hid ho9; clear ho9; have Hk9 := hid hk9; clear hk9; have hz9 := hb9.size))
      have hL9 : L9 = [40, 63, 58] ++ P ++ [41] := by rw [Hl9.out, Hl8.out]
      have z8 : w7.heap.size ≤ w8.heap.size := by have := hz8; simp only [World.size_alloc] at this; omega
      have b79 : Below w7.heap.size w7 w9 := (Below.trans (by (repeat' (first | exact Below.refl _ _ | assumption | refine bdrewN ?_ _ | refine Below.drew ?_ | refine bal ?_ _ | refine bthen ?_ (by assumption)))) hb8).trans (Below.trans ((Below.refl _ _).alloc z8 _) hb9)
      have k9 : L9.length ≤ c9 := by rcases Ho9.out.shape with ⟨_, _, h⟩ | ⟨_, _, _, _, h⟩; simp [h]; exact h
      have PC := hid (parse_c a9 c9 L9 w9 Ho9.out.sl k9)
      rw [show parseW L9 = _ from (congrArg parseW hL9).trans hPW.out] at PC
      clear hL9 Hl8 Hl9 k9 HA8 HA9 Hk8 Hk9 Ho8 Ho9
      refine PC.out.mono ?_
      rintro _ w10 ⟨a10, c10, N, rfl, hrN, hoN, hsN, hmN, b10⟩
      dsimp only at hrN
      have hNl : N.length = L1.length + 2 := by rw [← rns_len, hrN]; simp [lower, rns_len]
      have HrN := hid hrN
      have ON := hid hoN
      have SN := hid hsN
      have b710 := b79.trans (b10.mono (by have := b79.size; omega))
      have B10 := hid (B7.out.trans (b710.mono B7.out.size))
      have zw10 := b710.size
      have zw910 := b10.size
      have HP10 := hid (HP7.out.grow b710)
      have HQ10 := hid (HQ7.out.grow b710)
      have O10 := hid (O8.out.grow b710)
      have S10 := hid (S8.out.bel b710)
      have O11 := hid (O9.out.grow b710)
      clear hrN hoN hsN hmN b10 b79 b710 PC HP7 HQ7 O8 S8 O9 B7 hb8 hb9 hb7 hPW
      go_upto_region 7 with fail
      obtain ⟨V11, hV11⟩ : ∃ V6, V6 = w10.alloc (.cells #[.int .i64 0, .int .i64 0] 36) := ⟨_, rfl⟩
      have F11 : FtC V11 w10.heap.size 0 0 := by subst hV11; exact FtC.new _ _ _ _ _ rfl
      have bV11 : Below w10.heap.size w10 V11 := by subst hV11; (repeat' (first | exact Below.refl _ _ | assumption | refine bdrewN ?_ _ | refine Below.drew ?_ | refine bal ?_ _ | refine bthen ?_ (by assumption)))
      have zV11 : V11.heap.size = w10.heap.size + 1 := by subst hV11; simp
      have B11 := hid (B10.out.trans (bV11.mono B10.out.size))
      have HP11 := hid (HP10.out.grow bV11)
      have HQ11 := hid (HQ10.out.grow bV11)
      have OA := hid (O10.out.grow bV11)
      have SA := hid (S10.out.bel bV11)
      have SM := hid (SN.out.bel bV11)
      have OB := hid (O11.out.grow bV11)
      have OC := hid (ON.out.grow bV11)
      have KA := hid (fun w' (h : Below w10.heap.size w10 w') => (O10.out.grow h).sl)
      have KB := hid (fun w' (h : Below w10.heap.size w10 w') => (O11.out.grow h).sl)
      have BX := hid (fun w' (h : Below w10.heap.size w10 w') => B10.out.trans (h.mono B10.out.size))
      have HV11 := hid bV11
      rw [← hV11]; clear hV11 HP10 HQ10 O10 S10 O11 ON SN B10 bV11
      obtain ⟨gN, rfl, hN1, hN2, hN3⟩ : ∃ g, a10 = some ⟨g, 0, none⟩ ∧ w9.heap.size ≤ g ∧ g < V11.heap.size ∧ N.length ≤ c10 := by
        rcases OC.out.shape with ⟨_, _, h0⟩ | h0
        · rw [h0] at hNl; simp at hNl
        · exact h0
      have r1 := rec_re (OC.out.at (i := 1) (by omega))
      have eN := rns_at HrN.out (i := 1) (by omega)
      have r10 := r1.1
      have r12 := r1.2.2.1
      have eK : (rgt N 1).kind = 5 := congrArg Rn.kind eN
      have eL : (rgt N 1).lo = 0 := congrArg Rn.lo eN
      rw [eK] at r10
      rw [eL] at r12
      have y1 := F11.c0
      have F12 := hid F11
      have hwN : IntKind.i64.wrap ((L1.length : Int) + 2) = (L1.length : Int) + 2 := by rw [IntKind.wrap_i64]; omega
      have bN : ((N.length : Int) != (L1.length : Int) + 2) = false := by rw [hNl]; simp
      have zN : (1 : Int) < (N.length : Int) := by omega
      change V11.cell? ⟨gN, 7, none⟩ = _ at r10
      change V11.cell? ⟨gN, 9, none⟩ = _ at r12
      clear r1 eN eK eL F11
      go_wp2_with fail
      clear r10 r12 y1 bN hwN
      have RN := hid (fun w' (h : Below V11.heap.size V11 w') => OC.out.grow h)
      have RA := hid (fun w' (h : Below V11.heap.size V11 w') => OA.out.grow h)
      go_loopw [97] (fun iv wr => ∃ k : Nat, k ≤ L1.length ∧ iv = .int .i64 k ∧ Below V11.heap.size V11 wr) (fun iv _ => L1.length - (intOf iv).toNat)
      case atStart => exact ⟨0, by omega, rfl, by (repeat' (first | exact Below.refl _ _ | assumption | refine bdrewN ?_ _ | refine Below.drew ?_ | refine Below.setCell ?_ (Nat.le_refl _) _ | refine bal ?_ _ | refine bthen ?_ (by assumption)))⟩
      case round =>
        obtain ⟨k, hk, rfl, hb⟩ := hrel
        by_cases hlt : k < L1.length
        · have r1 := rec_re ((RN.out wr hb).at (i := k + 2) (by omega))
          have eN := rns_at HrN.out (i := k + 2) (by omega)
          have z1 : (k : Int) < (L1.length : Int) := by omega
          have z2 : (k : Int) + 2 < ((L1.length : Int) + 2) := by omega
          have w1' : IntKind.i64.wrap ((k : Int) + 1) = ((k + 1 : Nat) : Int) := by rw [IntKind.wrap_i64]; omega
          have w2' : IntKind.i64.wrap ((k : Int) + 2) = ((k + 2 : Nat) : Int) := by rw [IntKind.wrap_i64]; omega
          obtain ⟨x0, x1, x2, x3, x4, x5, x6⟩ := r1
          change wr.cell? ⟨gN, (k + 2) * 7, none⟩ = _ at x0
          change wr.cell? ⟨gN, (k + 2) * 7 + 1, none⟩ = _ at x1
          change wr.cell? ⟨gN, (k + 2) * 7 + 2, none⟩ = _ at x2
          change wr.cell? ⟨gN, (k + 2) * 7 + 3, none⟩ = _ at x3
          change wr.cell? ⟨gN, (k + 2) * 7 + 4, none⟩ = _ at x4
          change wr.cell? ⟨gN, (k + 2) * 7 + 5, none⟩ = _ at x5
          change wr.cell? ⟨gN, (k + 2) * 7 + 6, none⟩ = _ at x6
          obtain ⟨m, hm⟩ : ∃ m, m = rgt N (k + 2) := ⟨_, rfl⟩
          have Sm := hid (SM.out.own m (by rw [hm]; exact rgt_mem (by omega)))
          rw [← hm] at x0 x1 x2 x3 x4 x5 x6 eN
          clear hm
          obtain ⟨mk, md, ml, mh, mz, mn, ma, ms, mc⟩ := m
          dsimp only at x0 x1 x2 x3 x4 x5 x6
          obtain ⟨aD, cD, D, HD, sD, hDc, hrun⟩ := rslice_mid Try.tyRe (RA.out wr hb).sl k (k + 1) c3 (by omega) (by omega) (RA.out wr hb).cap
          push_cast at hrun
          have i1 : (0 : Int) ≤ (k : Int) := by omega
          have i2 : (k : Int) ≤ (k : Int) + 1 := by omega
          have i3 : (k : Int) + 1 ≤ (L1.length : Int) := by omega
          go_wp2_with fail
          obtain ⟨V12, hV12⟩ : ∃ V12, V12 = wr.alloc (.cells #[.int .i64 mk, .int .i64 (wrap64 (md - 2)), .int .i64 ml, .int .i64 mh, .bool mz, .bool mn, .slice ma ms.length mc] 40) := ⟨_, rfl⟩
          obtain ⟨d2, hd2⟩ : ∃ d, d = wrap64 (md - 2) := ⟨_, rfl⟩
          have hn1 : NdC V12 wr.heap.size mk d2 ml mh mz mn (.slice ma ms.length mc) := by subst hV12 hd2; exact NdC.new _ _ _ _ _ _ _ _ _ _ rfl
          have bV12 : Below wr.heap.size wr V12 := by subst hV12; (repeat' (first | exact Below.refl _ _ | assumption | refine bdrewN ?_ _ | refine Below.drew ?_ | refine bal ?_ _ | refine bthen ?_ (by assumption)))
          have zV12 : V12.heap.size = wr.heap.size + 1 := by subst hV12; simp
          have hb12 := hid (hb.trans (bV12.mono hb.size))
          have HD2 := hid hd2
          have sD2 := hid (sD.bel bV12)
          have hmD : D = [rgt L1 k] := by rw [HD.out, rgt_take hlt, List.drop_append_of_le_length (by simp; omega)]; simp
          have hmx := rgt_mem hlt
          have hdx := M1.out.deep _ hmx
          have okD : Hid (Rms V12 (fun _ => False) D) := by
            rw [hmD]
            refine hid fun x hx => ?_
            simp only [List.mem_singleton] at hx; subst hx
            have := (SA.out.own _ hmx).grow hb12.out
            exact ⟨this.sl, (by rcases this.shape with ⟨_, _, h⟩ | ⟨_, _, _, _, h⟩; simp [h]; exact h), fun ad h hf => hf⟩
          have okM : Hid (Rms V12 (fun _ => False) [(⟨mk, d2, ml, mh, mz, mn, ma, ms, mc⟩ : Rm)]) := by
            refine hid fun x hx => ?_
            simp only [List.mem_singleton] at hx; subst hx
            have := Sm.out.grow hb12.out
            exact ⟨this.sl, (by rcases this.shape with ⟨_, _, h⟩ | ⟨_, _, _, _, h⟩; simp [h]; exact h), fun ad h hf => hf⟩
          have hDe : rns [(⟨mk, d2, ml, mh, mz, mn, ma, ms, mc⟩ : Rm)] = rns D := by
            rw [hmD]
            have e2 : (nRow :: low1 (nGroup 0) :: lower (lower (rns L1))).getD (k + 2) ⟨0, 0, 0, 0, false, false, []⟩ = low1 (low1 (rgt L1 k).rn) := by
              rw [List.getD_cons_succ, List.getD_cons_succ, List.getD_eq_getElem?_getD, List.getElem?_eq_getElem (by simp [lower, rns_len]; exact hlt)]
              simp [lower, rns_get L1 hlt]
            have e3 := eN.trans e2
            have hd2' := HD2.out
            generalize rgt L1 k = q at e3 hdx ⊢
            obtain ⟨qk, qd, ql, qh, qz, qn, qa, qs, qc⟩ := q
            dsimp only at hdx
            simp only [Rm.rn, low1, Rn.mk.injEq] at e3
            obtain ⟨rfl, e3, rfl, rfl, rfl, rfl, rfl⟩ := e3
            have : d2 = qd := by rw [hd2']; simp only [wrap64]; omega
            subst this
            rfl
          have HDe := hid hDe
          obtain ⟨n0, n1, n2, n3, n4, n5, n6⟩ := hn1
          have SR : Hid (Calls Try.prog 16 #[.slice (some ⟨wr.heap.size + 1, 0, none⟩) 1 1, .slice aD D.length cD] (V12.alloc (.cells #[.int .i64 mk, .int .i64 d2, .int .i64 ml, .int .i64 mh, .bool mz, .bool mn, .slice ma ms.length mc] 40)).drew fun e w' => e = .returned (.bool true) ∧ Below V12.heap.size V12 w' ∧ w'.cell? ⟨wr.heap.size, 0, none⟩ = some (.int .i64 mk) ∧ w'.cell? ⟨wr.heap.size, 1, none⟩ = some (.int .i64 d2) ∧ w'.cell? ⟨wr.heap.size, 2, none⟩ = some (.int .i64 ml) ∧ w'.cell? ⟨wr.heap.size, 3, none⟩ = some (.int .i64 mh) ∧ w'.cell? ⟨wr.heap.size, 4, none⟩ = some (.bool mz) ∧ w'.cell? ⟨wr.heap.size, 5, none⟩ = some (.bool mn) ∧ w'.cell? ⟨wr.heap.size, 6, none⟩ = some (.slice ma ms.length mc)) :=
            hid ((samere_c (some ⟨wr.heap.size + 1, 0, none⟩) aD 1 cD [(⟨mk, d2, ml, mh, mz, mn, ma, ms, mc⟩ : Rm)] D _ (RSl.lit V12 (⟨mk, d2, ml, mh, mz, mn, ma, ms, mc⟩ : Rm) 40 (wr.heap.size + 1) zV12.symm _ rfl (by decide)).drew (sD2.out.alloc _).drew (okM.out.bel (by (repeat' (first | exact Below.refl _ _ | assumption | refine bdrewN ?_ _ | refine Below.drew ?_ | refine bal ?_ _ | refine bthen ?_ (by assumption))))) (okD.out.bel (by (repeat' (first | exact Below.refl _ _ | assumption | refine bdrewN ?_ _ | refine Below.drew ?_ | refine bal ?_ _ | refine bthen ?_ (by assumption))))) HDe.out).mono fun e w' h => by
              have hz : V12.heap.size ≤ (V12.alloc (.cells #[.int .i64 mk, .int .i64 d2, .int .i64 ml, .int .i64 mh, .bool mz, .bool mn, .slice ma ms.length mc] 40)).drew.heap.size := by simp
              have hb : Below V12.heap.size V12 w' := Below.trans (by (repeat' (first | exact Below.refl _ _ | assumption | refine bdrewN ?_ _ | refine Below.drew ?_ | refine bal ?_ _ | refine bthen ?_ (by assumption)))) (h.2.mono hz)
              exact ⟨h.1, hb, by rw [hb.cell (by show wr.heap.size < _; omega)]; exact n0, by rw [hb.cell (by show wr.heap.size < _; omega)]; exact n1, by rw [hb.cell (by show wr.heap.size < _; omega)]; exact n2, by rw [hb.cell (by show wr.heap.size < _; omega)]; exact n3, by rw [hb.cell (by show wr.heap.size < _; omega)]; exact n4, by rw [hb.cell (by show wr.heap.size < _; omega)]; exact n5, by rw [hb.cell (by show wr.heap.size < _; omega)]; exact n6⟩)
          rw [← hV12]
          clear hV12 hd2 x0 x1 x2 x3 x4 x5 x6 sD hDe bV12 hmD hmx hdx eN okM okD
          go_region_held3 (fun w' => w'.cell? ⟨wr.heap.size, 0, none⟩ = some (.int .i64 mk) ∧ w'.cell? ⟨wr.heap.size, 1, none⟩ = some (.int .i64 d2) ∧ w'.cell? ⟨wr.heap.size, 2, none⟩ = some (.int .i64 ml) ∧ w'.cell? ⟨wr.heap.size, 3, none⟩ = some (.int .i64 mh) ∧ w'.cell? ⟨wr.heap.size, 4, none⟩ = some (.bool mz) ∧ w'.cell? ⟨wr.heap.size, 5, none⟩ = some (.bool mn) ∧ w'.cell? ⟨wr.heap.size, 6, none⟩ = some (.slice ma ms.length mc)) (first | assumption | exact ⟨by assumption, by assumption, by assumption, by assumption, by assumption, by assumption, by assumption⟩ | go_keep)
            (with_reducible refine SR.out.mono ?_; rintro e w13 ⟨rfl, b13, m0, m1, m2, m3, m4, m5, m6⟩)
          go_wp2_with fail
          exact ⟨⟨k + 1, by omega, by go_num, hb12.out.trans (b13.mono hb12.out.size)⟩, by simp [intOf]; omega⟩
        · obtain rfl : k = L1.length := by omega
          have hG1 : (gsL (rns L1)).length = q1 := gs_len ((all_gs CC _ _).1 _ _ _ _ _ _ hA1).2
          have hG2 : (gsL (rns L2)).length = q2 := gs_len ((all_gs CC _ _).1 _ _ _ _ _ _ hA2).2
          have RB := hid (fun w' (h : Below V11.heap.size V11 w') => OB.out.grow h)
          have GC1 : Hid (∀ w', Below w10.heap.size w10 w' → Calls Try.prog 15 #[.slice a3 L1.length c3] w' fun e w'' => e = .returned (.int .i64 q1) ∧ Below w'.heap.size w' w'') := hid (fun w' h => by
            have := groups_c a3 c3 L1 w' (KA.out w' h)
            rw [hG1] at this; exact this)
          have GC2 : Hid (∀ w', Below w10.heap.size w10 w' → Calls Try.prog 15 #[.slice a5 L2.length c5] w' fun e w'' => e = .returned (.int .i64 q2) ∧ Below w'.heap.size w' w'') := hid (fun w' h => by
            have := groups_c a5 c5 L2 w' (KB.out w' h)
            rw [hG2] at this; exact this)
          have HX := hid (fun w' (h : Below V11.heap.size V11 w') => HV11.out.trans (h.mono HV11.out.size))
          have HGG : Hid ((gsL (nAlt :: (lower (rns L1) ++ lower (sh q1 (rns L2))))).length = q1 + q2) := by
            refine hid ?_
            rw [gsL_cons, gsL_app, gsL_lower, gsL_lower]
            simp only [List.length_append, gs_sh, hG1, hG2]
            simp [nAlt]
          have Hb := hid hb
          have n1 : L1.length ≠ 0 := by omega
          have n2 : L2.length ≠ 0 := by omega
          obtain ⟨gA, rfl, -, -, -⟩ : ∃ g, a3 = some ⟨g, 0, none⟩ ∧ True ∧ True ∧ True := by
            rcases OA.out.shape with ⟨_, _, h0⟩ | ⟨g, h0, _⟩
            · rw [h0] at n1; simp at n1
            · exact ⟨g, h0, trivial, trivial, trivial⟩
          obtain ⟨gB, rfl, -, -, -⟩ : ∃ g, a5 = some ⟨g, 0, none⟩ ∧ True ∧ True ∧ True := by
            rcases OB.out.shape with ⟨_, _, h0⟩ | ⟨g, h0, _⟩
            · rw [h0] at n2; simp at n2
            · exact ⟨g, h0, trivial, trivial, trivial⟩
          have r1 := (rec_re ((RA.out wr hb).at (i := 0) (by omega))).1
          have r2 := (rec_re ((RB.out wr hb).at (i := 0) (by omega))).1
          change wr.cell? ⟨gA, 0, none⟩ = _ at r1
          change wr.cell? ⟨gB, 0, none⟩ = _ at r2
          have z1 : (0 : Int) < (L1.length : Int) := by omega
          have z2 : (0 : Int) < (L2.length : Int) := by omega
          obtain ⟨K1, hK1⟩ : ∃ K, K = (rgt L1 0).kind := ⟨_, rfl⟩
          obtain ⟨K2, hK2⟩ : ∃ K, K = (rgt L2 0).kind := ⟨_, rfl⟩
          rw [← hK1] at r1
          rw [← hK2] at r2
          have HK1 := hid hK1
          have HK2 := hid hK2
          have BW := hid (fun w' (h : Below V11.heap.size V11 w') => B11.out.trans (h.mono B11.out.size))
          have HA := hid hA1
          have HB := hid hA2
          clear hK1 hK2 hG1 hG2 n1 n2 hlt hk hA1 hA2 hb
          by_cases e1 : K1 = 0
          · by_cases e2 : K2 = 0
            · have b1 : (K1 != 0) = false := by simp [e1]
              have b2 : (K2 != 0) = false := by simp [e2]
              have hwq : IntKind.i64.wrap ((q1 : Int) + q2) = (q1 : Int) + q2 := by
                have := alt_nine HA.out
                have := alt_nine HB.out
                rw [IntKind.wrap_i64]; omega
              go_wp2_with fail
              refine (GC1.out _ (HX.out _ Hb.out)).mono ?_
              rintro _ w14 ⟨rfl, b14⟩
              have H14 := hid (Hb.out.trans (b14.mono Hb.out.size))
              clear b14 r1 r2 z1 z2 b1 b2
              go_wp2_with fail
              refine (GC2.out _ (HX.out _ H14.out)).mono ?_
              rintro _ w15 ⟨rfl, b15⟩
              have H15 := hid (H14.out.trans (b15.mono H14.out.size))
              clear b15
              by_cases h9 : (9 : Int) < (q1 : Int) + q2
              · have bq : decide ((9 : Int) < (q1 : Int) + q2) = true := by simpa using h9
                as_aux_lemma =>
                go_wp2_with fail
                refine (known_c _).mono ?_
                rintro _ w16 ⟨rfl, b16⟩
                have B16 := hid (H15.out.trans (b16.mono H15.out.size))
                clear b16
                go_wp2_with fail
                go_ret
                exact ⟨rfl, BW.out _ B16.out⟩
              · have bq : decide ((9 : Int) < (q1 : Int) + q2) = false := by simpa using h9
                have hPA : Hid (parseW (P ++ [124] ++ Q) = (nAlt :: (lower (rns L1) ++ lower (sh q1 (rns L2))), 0, 0)) := by
                  obtain ⟨x, l, hxl⟩ : ∃ x l, rns L1 = x :: l := by
                    cases h : rns L1 with
                    | nil => have := rns_len L1; rw [h] at this; simp at this; omega
                    | cons x l => exact ⟨x, l, rfl⟩
                  obtain ⟨y, m, hym⟩ : ∃ x l, rns L2 = x :: l := by
                    cases h : rns L2 with
                    | nil => have := rns_len L2; rw [h] at this; simp at this; omega
                    | cons x l => exact ⟨x, l, rfl⟩
                  have hx : x.kind = 0 := by
                    have h1 := congrArg Rn.kind (rns_at hxl (i := 0) (by omega))
                    have h2 := HK1.out
                    rw [e1] at h2
                    exact h1.symm.trans h2.symm
                  have hy : y.kind = 0 := by
                    have h1 := congrArg Rn.kind (rns_at hym (i := 0) (by omega))
                    have h2 := HK2.out
                    rw [e2] at h2
                    exact h1.symm.trans h2.symm
                  have hA := HA.out
                  have hB := HB.out
                  rw [hxl] at hA ⊢
                  rw [hym] at hB ⊢
                  exact hid (alt_w hA hB hx hy (by omega) NP.out NQ.out (by omega) hq1 hq2)
                have SP := hid (fun w' (h : Below V11.heap.size V11 w') => (HP11.out.grow h).sl)
                have SQ := hid (fun w' (h : Below V11.heap.size V11 w') => (HQ11.out.grow h).sl)
                have hF := F12.out.bel H15.out
                have y0 := hF.c0
                have y1 := hF.c1
                have yf0 := hF.fz 0
                have yf1 := hF.fz 1
                have BF := hid (fun w' (h : Below w15.heap.size w15 w') => hF.bel h)
                have z15 : w10.heap.size < w15.heap.size := by have := H15.out.size; omega
                clear hF y0 y1 yf0 yf1
                go_upto_region 19 with fail
                go_wp2_with (first | (at_builtin; go_loud (refine wpL_appn rfl ((.const (.slice none 0 0))) (.tmp 141) rfl w15.heap.size none aP 0 P.length 0 cP [] P rfl (by first | rfl | simp | omega) (Own.nil _ _) rfl (by first | rfl | simp | omega) (SP.out _ H15.out) (by simp; omega) (by first | (simp; done) | (simp; omega)) ?_); intro a16 c16 w16 L16 Hl16 ho16 hb16 hk16 hA16; have HA16 := hid hA16; clear hA16; have Ho16 := hid ho16; clear ho16; have Hk16 := hid hk16; clear hk16; have hz16 := hb16.size) | (at_builtin; go_loud (refine wpL_appn rfl (.tmp 142) (.tmp 143) rfl w15.heap.size a16 (some ⟨w16.heap.size, 0, none⟩) L16.length 1 c16 1 L16 [124] rfl (by first | rfl | simp | omega) (Ho16.out.grow (by (repeat' (first | exact Below.refl _ _ | assumption | refine bdrewN ?_ _ | refine Below.drew ?_ | refine bal ?_ _ | refine bthen ?_ (by assumption))))) rfl (by first | rfl | simp | omega) (Sl.lit' _ [124] _ _ (by simp) (by simp) (by simp [rng]) _ rfl) (by rw [Hl16.out]; simp; omega) (by have := hz16; simp only [World.size_alloc] at this ⊢; omega) ?_); intro a17 c17 w17 L17 Hl17 ho17 hb17 hk17 hA17; have HA17 := hid hA17; clear hA17; have Ho17 := hid ho17; clear ho17; have Hk17 := hid hk17; clear hk17; have hz17 := hb17.size) | (at_builtin; go_loud (refine wpL_appn rfl (.tmp 144) (.tmp 145) rfl w15.heap.size a17 aQ L17.length Q.length c17 cQ L17 Q rfl (by first | rfl | simp | omega) (Ho17.out.grow (by (repeat' (first | exact Below.refl _ _ | assumption | refine bdrewN ?_ _ | refine Below.drew ?_ | refine bal ?_ _ | refine bthen ?_ (by assumption))))) rfl (by first | rfl | simp | omega) (SQ.out _ (H15.out.trans ((hb16.trans (Below.trans ((Below.refl _ _).alloc (by have := hz16; simpa using this) _) hb17)).mono H15.out.size))) (by rw [Hl17.out, Hl16.out]; simp; omega) (by have := hz17; simp only [World.size_alloc] at this ⊢; omega) ?_); intro a18 c18 w18 L18 Hl18 ho18 hb18 hk18 hA18; have HA18 := hid hA18; clear hA18; have Ho18 := hid ho18; clear ho18; have Hk18 := hid hk18; clear hk18; have hz18 := hb18.size))
                have hL18 : L18 = P ++ [124] ++ Q := by rw [Hl18.out, Hl17.out, Hl16.out]; simp
                have b1518 : Below w15.heap.size w15 w18 := (hb16.trans (Below.trans ((Below.refl _ _).alloc (by have := hz16; simpa using this) _) hb17)).trans hb18
                have k18 : L18.length ≤ c18 := by rcases Ho18.out.shape with ⟨_, _, h⟩ | ⟨_, _, _, _, h⟩; simp [h]; exact h
                have PC := hid (parse_c a18 c18 L18 w18 Ho18.out.sl k18)
                rw [show parseW L18 = _ from (congrArg parseW hL18).trans hPA.out] at PC
                clear hL18 Hl16 Hl17 Hl18 k18 HA16 HA17 HA18 Hk16 Hk17 Hk18 Ho16 Ho17 Ho18 hPA
                refine PC.out.mono ?_
                rintro _ w19 ⟨aR, cR, R, rfl, hrR, hoR, -, -, b19⟩
                dsimp only at hrR
                have hRl : R.length = L1.length + L2.length + 1 := by rw [← rns_len, hrR]; simp [lower, sh, rns_len]
                have HRl := hid hRl
                have HrR := hid hrR
                have OR := hid hoR
                have z18 := b1518.size
                have b1519 := b1518.trans (b19.mono z18)
                have z19 := b19.size
                have HF := BF.out _ b1519
                have H19 := hid (H15.out.trans (b1519.mono H15.out.size))
                have y0 := HF.c0
                have y1 := HF.c1
                have yf0 := HF.fz 0
                have yf1 := HF.fz 1
                have HFF := hid HF
                clear hRl hrR hoR b19 b1518 b1519 PC HF hb16 hb17 hb18 BF
                go_upto_region 20 with fail
                obtain ⟨V20, hV20⟩ : ∃ V, V = (w19.setCell ⟨w10.heap.size, 0, none⟩ (.int .i64 0)).setCell ⟨w10.heap.size, 1, none⟩ (.int .i64 0) := ⟨_, rfl⟩
                have HF20 : FtC V20 w10.heap.size 0 0 := by subst hV20; exact HFF.out.put 0 0
                have K20 : Hid (Kpt (· = w10.heap.size) w19 V20) := by
                  subst hV20
                  exact hid (Kpt.setCell (F := fun k => k = w10.heap.size) (Kpt.setCell (F := fun k => k = w10.heap.size) (Kpt.refl _ _) (p := ⟨w10.heap.size, 0, none⟩) rfl _) (p := ⟨w10.heap.size, 1, none⟩) rfl _)
                have B20 : Hid (Below w10.heap.size w10 V20) := hid ((HX.out _ H19.out).trans (K20.out.below (fun k hk => by omega) (by omega)))
                have SR : Hid (RSl encRe V20 aR R) := hid (OR.out.sl.kpt (fun ad h hk => by have := OR.out.lt (k := ad.block) ⟨ad, h, rfl⟩; omega) K20.out)
                rw [← hV20]
                clear hV20 y0 y1 yf0 yf1 HFF
                have y0 := HF20.c0
                obtain ⟨gR, rfl, hR1, -⟩ : ∃ g, aR = some ⟨g, 0, none⟩ ∧ True ∧ True := by
                  rcases OR.out.shape with ⟨_, _, h0⟩ | ⟨g, h0, _⟩
                  · have := HRl.out; rw [h0] at this; simp at this
                  · exact ⟨g, h0, trivial, trivial⟩
                obtain ⟨b', o', hbo, rR⟩ := SR.out.rc1 (k := 0) (by have := HRl.out; omega)
                simp only [Option.some.injEq, Addr.mk.injEq] at hbo
                obtain ⟨rfl, rfl, -⟩ := hbo
                have rR := (rec_re rR).1
                have eK : (rgt R 0).kind = 1 := congrArg Rn.kind (rns_at HrR.out (i := 0) (by have := HRl.out; omega))
                rw [eK] at rR
                change V20.cell? ⟨gR, 0, none⟩ = _ at rR
                have GC3 : Hid (∀ w', Below V20.heap.size V20 w' → Calls Try.prog 15 #[.slice (some ⟨gR, 0, none⟩) R.length cR] w' fun e w'' => e = .returned (.int .i64 ((q1 : Int) + q2)) ∧ Below w'.heap.size w' w'') := hid (fun w' h => by
                  have := groups_c (some ⟨gR, 0, none⟩) cR R w' (SR.out.bel h)
                  rw [HrR.out, HGG.out] at this
                  push_cast at this
                  exact this)
                have zR : (0 : Int) < (R.length : Int) := by have := HRl.out; omega
                have bR : ((R.length : Int) == (L1.length : Int) + (L2.length : Int) + 1) = true := by rw [HRl.out]; push_cast; simp
                have hwl : IntKind.i64.wrap ((L1.length : Int) + (L2.length : Int)) = (L1.length : Int) + (L2.length : Int) := by rw [IntKind.wrap_i64]; omega
                have hwm : IntKind.i64.wrap ((L1.length : Int) + (L2.length : Int) + 1) = (L1.length : Int) + (L2.length : Int) + 1 := by rw [IntKind.wrap_i64]; omega
                have bg : ((q1 : Int) + q2 == (q1 : Int) + q2) = true := by simp
                clear eK HF20
                go_wp2_with fail
                refine (GC3.out _ (Below.refl _ _)).mono ?_
                rintro _ w21 ⟨rfl, b21⟩
                have B21 := hid (B20.out.trans (b21.mono B20.out.size))
                clear b21 y0 rR zR bR hwl hwm
                go_wp2_with fail
                refine (GC1.out _ B21.out).mono ?_
                rintro _ w22 ⟨rfl, b22⟩
                have B22 := hid (B21.out.trans (b22.mono B21.out.size))
                clear b22
                go_wp2_with fail
                refine (GC2.out _ B22.out).mono ?_
                rintro _ w23 ⟨rfl, b23⟩
                have B23 := hid (B22.out.trans (b23.mono B22.out.size))
                clear b23
                go_wp2_with fail
                refine (known_c _).mono ?_
                rintro _ w24 ⟨rfl, b24⟩
                have B24 := hid (B23.out.trans (b24.mono B23.out.size))
                clear b24
                go_wp2_with fail
                go_ret
                exact ⟨rfl, BX.out _ B24.out⟩
            · have b1 : (K1 != 0) = false := by simp [e1]
              have b2 : (K2 != 0) = true := by simp [e2]
              clear e1 e2
              as_aux_lemma =>
              go_wp2_with fail
              refine (known_c _).mono ?_
              rintro _ w8 ⟨rfl, b8⟩
              have B8 := hid (Hb.out.trans (b8.mono Hb.out.size))
              clear b8
              go_wp2_with fail
              go_ret
              exact ⟨rfl, BW.out _ B8.out⟩
          · have b1 : (K1 != 0) = true := by simp [e1]
            clear e1
            as_aux_lemma =>
            go_wp2_with fail
            refine (known_c _).mono ?_
            rintro _ w8 ⟨rfl, b8⟩
            have B8 := hid (Hb.out.trans (b8.mono Hb.out.size))
            clear b8
            go_wp2_with fail
            go_ret
            exact ⟨rfl, BW.out _ B8.out⟩
end Go.Proofs.Ytdjhnlihalihlaa
