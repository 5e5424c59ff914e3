/- Layer 16: VarsDraws' walk. -/
import Derived.Test.YtijhkpbnalnpbaaDoorVd
namespace Go.Proofs.YtijhkpbnalnpbaaDoor
open Go.RowKit

set_option maxHeartbeats 16000000 in
set_option maxRecDepth 100000 in
theorem vdraws_c (ai : Option Addr) (ci : Nat) (li : List Int) (k used : Int) (ab : Option Addr) (cb : Nat) (lb : List Int) (w : World) (hi : Hid (I.Sl w ai li)) (hb : Hid (I.Sl w ab lb)) (hg : Hid (Gl w)) :
    Calls Tryd.prog 6 #[.slice ai li.length ci, .int .i64 k, .int .i64 used, .slice ab lb.length cb] w fun e w' => e = .returned (.bool true) ∧ Below w.heap.size w w' := by
  obtain ⟨nL, hN⟩ := name16_v k
  have NM := hid hN
  have hlb := hb.out.len
  have hbT : Hid (Below w.heap.size w (w.alloc (.cells #[.slice ai li.length ci, .int .i64 0] 29))) := hid (bal (Below.refl _ _) _)
  have TA : TapeAt (w.alloc (.cells #[.slice ai li.length ci, .int .i64 0] 29)) w.heap.size ai li ci 0 := ⟨by simp, by rw [cell_alloc_new]; rfl, by rw [cell_alloc_new]; rfl, by unfold World.frozen?; rw [heap_alloc_new]; rfl, Nat.zero_le _⟩
  have SI : Hid (∀ w', Below w.heap.size (w.alloc (.cells #[.slice ai li.length ci, .int .i64 0] 29)) w' → I.Sl w' ai li) := hid fun w' h => hi.out.bel (hbT.out.trans h)
  have HTA := hid TA
  clear hN TA
  go_enter Tryd.func6, Tryd.ntmps6
  go_wp2_with fail
  refine (env16_c w.heap.size ai li ci 0 _ HTA.out SI).mono ?_
  rintro e w1 ⟨m, rfl, hE, hb1, _⟩
  have N1 := hid hE
  have B1 : Hid (Below w.heap.size w w1) := hid (hbT.out.trans hb1)
  clear hE hb1 hbT SI HTA
  simp only [enC]
  go_upto_block 0 with fail
  generalize hV : World.alloc w1 _ = W
  have X1 : Hid (BoxV W w1.heap.size (enC m)) := hid (by rw [← hV]; exact BoxV.new w1 _ _)
  have B2 : Hid (Below w1.heap.size w1 W) := hid (by rw [← hV]; exact bal (Below.refl _ _) _)
  have hl1 : w1.heap.size < W.heap.size := by rw [← hV]; simp
  clear hV
  have BW : Hid (Below w.heap.size w W) := hid (B1.out.trans (B2.out.mono B1.out.size))
  have h81 : 8 ≤ w1.heap.size := Nat.le_trans hg.out.lt B1.out.size
  have E1 : Hid (EnK w1.heap.size W m) := hid (EnK.of N1.out B2.out (Nat.le_refl _) (Nat.le_of_lt hl1))
  have L1 : Hid (ISlK w1.heap.size W ab lb) := hid (ISlK.of hb.out BW.out B1.out.size (Nat.le_of_lt hl1))
  have G1 : Hid (GlK w1.heap.size W) := hid (GlK.of hg.out BW.out B1.out.size (Nat.le_of_lt hl1))
  have LB : Hid (∀ w', Below W.heap.size W w' → I.Sl w' ab lb) := hid fun w' h => L1.out w' (Kpt.of h)
  go_cut [10] (fun dv wc => ∃ (aD : Option Addr) (cD : Nat) (D : List Int), dv = .slice aD D.length cD ∧ D.length ≤ 8 ∧ Hid (I.Own wc W.heap.size aD cD D) ∧ Hid (∀ x ∈ D, 0 ≤ x ∧ x ≤ 16777215) ∧ Below W.heap.size W wc)
  case first =>
    go_wp2_with fail
    go_loopw [10, 11] (fun dv iv wr => ∃ (j : Nat) (aD : Option Addr) (cD : Nat) (D : List Int), j ≤ 8 ∧ j ≤ lb.length ∧ iv = .int .i64 j ∧ dv = .slice aD D.length cD ∧ D.length = j ∧ Hid (I.Own wr W.heap.size aD cD D) ∧ Hid (∀ x ∈ D, 0 ≤ x ∧ x ≤ 16777215) ∧ Below W.heap.size W wr) (fun _ iv _ => 8 - (intOf iv).toNat)
    case atStart => exact ⟨0, none, 0, [], by omega, Nat.zero_le _, rfl, rfl, rfl, hid (I.Own.nil _ _), hid (fun x hx => by cases hx), Below.refl _ _⟩
    case round =>
      rename World => V
      obtain ⟨j, aD, cD, D, hj8, hjl, rfl, rfl, hDl, hO, hR, hbV⟩ := hrel
      by_cases hlt : j < lb.length
      · have b0 : decide (j < lb.length) = true := by simpa using hlt
        by_cases h8 : j < 8
        · have b1 : decide (j < 8) = true := by simpa using h8
          have sV := LB.out V hbV
          obtain ⟨b', o', he, hcell⟩ := sV.at (i := j) hlt
          subst he
          have ck := hcell j hlt
          have bx := band_le (gt lb j) 16777215 (by decide)
          rw [show ((16777215 : Nat) : Int) = 16777215 from rfl] at bx
          generalize gt lb j = x at ck bx
          obtain ⟨z, hz⟩ : ∃ z, z = bits .and .i64 x 16777215 := ⟨_, rfl⟩
          rw [← hz] at bx
          have Bx := hid bx
          have ez : bits .and .i64 x 16777215 = z := hz.symm
          have HbV := hid hbV
          have hzV := hbV.size
          clear hcell sV bx hz hbV
          go_wp2_with (first | (at_builtin; (refine I.wpL_appn rfl (.tmp 34) (.tmp 40) rfl W.heap.size aD (some ⟨V.heap.size, 0, none⟩) D.length 1 cD 1 D [z] rfl (by first | rfl | simp | omega) (hO.out.grow (by (repeat' (first | exact Below.refl _ _ | assumption | refine bdrewN ?_ _ | refine Below.drew ?_ | refine bal ?_ _ | refine bthen ?_ (by assumption))))) rfl (by first | rfl | simp | omega) (I.Sl.lit' V [z] 3 _ rfl (by simp) (I.rng_one (by have := Bx.out; omega)) _ rfl) (by simp; omega) (by simp; omega) ?_); intro a1 c1 w1 L1 Hl1 ho1 hb1 hk1 hA1; have HA1 := hid hA1; clear hA1; have Ho1 := hid ho1; clear ho1; have Hk1 := hid hk1; clear hk1; have hz1 := hb1.size))
          go_roundw
          case rel =>
            refine ⟨j + 1, a1, c1, L1, by omega, by omega, by go_num, rfl, by rw [Hl1.out]; simp; omega, Ho1, hid fun y hy => ?_, (HbV.out.trans ((bal (Below.refl _ _) _).mono hzV)).trans hb1⟩
            rw [Hl1.out] at hy
            rcases List.mem_append.1 hy with h | h
            · exact hR.out y h
            · rw [List.mem_singleton.1 h]; exact Bx.out
          case measure => simp [intOf]; omega
        · have b1 : decide (j < 8) = false := by simpa using h8
          go_wp2
          go_meet
          exact ⟨aD, cD, D, rfl, by omega, hO, hR, hbV⟩
      · have b0 : decide (j < lb.length) = false := by simpa using hlt
        go_wp2
        go_meet
        exact ⟨aD, cD, D, rfl, by omega, hO, hR, hbV⟩
  case rest =>
    rename World => V
    obtain ⟨aD, cD, D, rfl, hD8, hO, hR, hbV⟩ := hcut
    have hcp : D.length ≤ cD := hO.out.cap
    have kV : KR w1.heap.size W V := Kpt.of hbV
    have X2 : Hid (BoxV V w1.heap.size (enC m)) := hid (X1.out.bel hbV)
    have E2 : Hid (EnK w1.heap.size V m) := hid (E1.out.kr kV)
    have G2 : Hid (GlK w1.heap.size V) := hid (G1.out.kr kV)
    have LD : Hid (ISlK w1.heap.size V aD D) := hid (ISlK.own hO.out hl1)
    have BV : Hid (Below w.heap.size w V) := hid (BW.out.trans (hbV.mono BW.out.size))
    have hdE : Hid (drE D = true) := hid (by
      simp only [drE, Bool.and_eq_true, decide_eq_true_eq, List.all_eq_true]
      refine ⟨by omega, fun x hx => ?_⟩
      have := hR.out x hx
      simp [bti]; omega)
    obtain ⟨u, hu, hx⟩ := index16_v used (D.length + 1) (by omega) (by omega)
    have HX : Hid (∀ w, Calls Tryd.prog 11 #[.int .i64 used, .int .i64 ((D.length : Int) + 1)] w fun e w' => e = .returned (.int .i64 u) ∧ w = w') := hid (by simpa using hx)
    have B1s := B1.out.size
    clear hx kV hbV X1 E1 G1 L1 LB hO hR B1 B2 N1 BW
    go_wp2_with fail
    refine (HX.out V).mono ?_
    rintro e v ⟨rfl, rfl⟩
    have q14 := X2.out.c 14 _ rfl
    have z14 := X2.out.f 14
    go_upto_region 9 with fail
    generalize hV : World.setCell V _ _ = W3
    have k3 : KR w1.heap.size V W3 := by rw [← hV]; exact (Kpt.refl _ _).set _
    have X3 : BoxV W3 w1.heap.size (enC (withD m aD D cD)) := by rw [← hV]; exact X2.out.set (by simp [enC]) rfl
    have hz3 : W3.heap.size = V.heap.size := by rw [← hV]; simp
    clear hV
    have E3 : Hid (EnK w1.heap.size W3 (withD m aD D cD)) := hid ((E2.out.kr k3).withD (LD.out.kr k3) hcp)
    have G3 : Hid (GlK w1.heap.size W3) := hid (G2.out.kr k3)
    have LD3 : Hid (ISlK w1.heap.size W3 aD D) := hid (LD.out.kr k3)
    have BW3 : Hid (Below w.heap.size w W3) := hid (BV.out.trans ((k3.belowp (Nat.le_of_lt X2.out.lt)).mono B1s))
    have hl3 : w1.heap.size < W3.heap.size := X3.lt
    obtain ⟨x0, x1, x2, x3, x4, x5, x6, x7, x8, x9, x10, x11, x12, x13, x14, hA⟩ : ∃ x0 x1 x2 x3 x4 x5 x6 x7 x8 x9 x10 x11 x12 x13 x14 : Value, Hid (enC (withD m aD D cD) = #[x0, x1, x2, x3, x4, x5, x6, x7, x8, x9, x10, x11, x12, x13, x14]) := ⟨_, _, _, _, _, _, _, _, _, _, _, _, _, _, _, rfl⟩
    rw [hA.out] at X3
    have HX3 := hid X3
    have BK : Hid (∀ w', Below W3.heap.size W3 w' → w'.cell? ⟨w1.heap.size, 0, none⟩ = some x0 ∧ w'.cell? ⟨w1.heap.size, 1, none⟩ = some x1 ∧ w'.cell? ⟨w1.heap.size, 2, none⟩ = some x2 ∧ w'.cell? ⟨w1.heap.size, 3, none⟩ = some x3 ∧ w'.cell? ⟨w1.heap.size, 4, none⟩ = some x4 ∧ w'.cell? ⟨w1.heap.size, 5, none⟩ = some x5 ∧ w'.cell? ⟨w1.heap.size, 6, none⟩ = some x6 ∧ w'.cell? ⟨w1.heap.size, 7, none⟩ = some x7 ∧ w'.cell? ⟨w1.heap.size, 8, none⟩ = some x8 ∧ w'.cell? ⟨w1.heap.size, 9, none⟩ = some x9 ∧ w'.cell? ⟨w1.heap.size, 10, none⟩ = some x10 ∧ w'.cell? ⟨w1.heap.size, 11, none⟩ = some x11 ∧ w'.cell? ⟨w1.heap.size, 12, none⟩ = some x12 ∧ w'.cell? ⟨w1.heap.size, 13, none⟩ = some x13 ∧ w'.cell? ⟨w1.heap.size, 14, none⟩ = some x14) := hid fun w' h => by
      have g0 := (HX3.out.bel h).c
      exact ⟨g0 0 _ rfl, g0 1 _ rfl, g0 2 _ rfl, g0 3 _ rfl, g0 4 _ rfl, g0 5 _ rfl, g0 6 _ rfl, g0 7 _ rfl, g0 8 _ rfl, g0 9 _ rfl, g0 10 _ rfl, g0 11 _ rfl, g0 12 _ rfl, g0 13 _ rfl, g0 14 _ rfl⟩
    clear k3 X3 hz3 X2 E2 G2 LD BV q14 z14
    cases hB : valB (withD m aD D cD) nL u with
    | false =>
      obtain ⟨hN0, hL0⟩ := valN_not hB
      have VAL : Hid (∀ w' a c, Below W3.heap.size W3 w' → Hid (Sl w' a nL) → Calls Tryd.prog 13 #[.agg #[x0, x1, x2, x3, x4, x5, x6, x7, x8, x9, x10, x11, x12, x13, x14], .slice a nL.length c, .int .i64 u] w' fun e w'' => ∃ a2 c2, e = .returned (.tuple #[.slice a2 0 c2, .bool false, .int .i64 u]) ∧ Below w'.heap.size w' w'') := hid fun w' a c h1 h2 => by
        rw [← hA.out]
        refine (value_c (withD m aD D cD) a c nL u w' (hid (E3.out w' (Kpt.of h1))) h2 (by unfold i64; omega) (hid (G3.out w' (Kpt.of h1)))).mono fun e w'' h => ?_
        obtain ⟨a2, c2, rfl, _, hb2⟩ := h.vals
        rw [hB, hN0, hL0]
        exact ⟨a2, c2, rfl, hb2⟩
      clear hB hN0 hL0
      obtain ⟨d0, d1, d2, d3, d4, d5, d6, d7, d8, d9, d10, d11, d12, d13, d14⟩ := BK.out W3.drew (Below.refl _ _).drew
      have xd : Below W3.heap.size W3 W3.drew := (Below.refl _ _).drew
      go_region_held3 (fun w' => w'.cell? ⟨w1.heap.size, 0, none⟩ = some x0 ∧ w'.cell? ⟨w1.heap.size, 1, none⟩ = some x1 ∧ w'.cell? ⟨w1.heap.size, 2, none⟩ = some x2 ∧ w'.cell? ⟨w1.heap.size, 3, none⟩ = some x3 ∧ w'.cell? ⟨w1.heap.size, 4, none⟩ = some x4 ∧ w'.cell? ⟨w1.heap.size, 5, none⟩ = some x5 ∧ w'.cell? ⟨w1.heap.size, 6, none⟩ = some x6 ∧ w'.cell? ⟨w1.heap.size, 7, none⟩ = some x7 ∧ w'.cell? ⟨w1.heap.size, 8, none⟩ = some x8 ∧ w'.cell? ⟨w1.heap.size, 9, none⟩ = some x9 ∧ w'.cell? ⟨w1.heap.size, 10, none⟩ = some x10 ∧ w'.cell? ⟨w1.heap.size, 11, none⟩ = some x11 ∧ w'.cell? ⟨w1.heap.size, 12, none⟩ = some x12 ∧ w'.cell? ⟨w1.heap.size, 13, none⟩ = some x13 ∧ w'.cell? ⟨w1.heap.size, 14, none⟩ = some x14 ∧ Below W3.heap.size W3 w') (first | (with_reducible assumption) | exact ⟨by with_reducible assumption, by with_reducible assumption, by with_reducible assumption, by with_reducible assumption, by with_reducible assumption, by with_reducible assumption, by with_reducible assumption, by with_reducible assumption, by with_reducible assumption, by with_reducible assumption, by with_reducible assumption, by with_reducible assumption, by with_reducible assumption, by with_reducible assumption, by with_reducible assumption, by with_reducible assumption⟩)
        (first | (go_at_call 9; refine (NM.out _).mono ?_; rintro e v ⟨na, nc, rfl, ho, hb1⟩; have y : Below W3.heap.size W3 v := bthen (by (repeat' (first | exact Below.refl _ _ | assumption | refine bdrewN ?_ _ | refine Below.drew ?_ | refine Below.setCell ?_ (Nat.le_refl _) _ | refine bal ?_ _ | refine bthen ?_ (by assumption)))) hb1; have NS := hid ho.sl; clear ho hb1; clear d0 d1 d2 d3 d4 d5 d6 d7 d8 d9 d10 d11 d12 d13 d14; have kk := BK.out _ y; obtain ⟨d0, d1, d2, d3, d4, d5, d6, d7, d8, d9, d10, d11, d12, d13, d14⟩ := kk)
               | (go_at_call 13; refine (VAL.out _ na nc ?_ ?_).mono ?_; (focus (repeat' (first | exact Below.refl _ _ | assumption | refine bdrewN ?_ _ | refine Below.drew ?_ | refine Below.setCell ?_ (Nat.le_refl _) _ | refine bal ?_ _ | refine bthen ?_ (by assumption)))); (focus (exact NS)); rintro e v ⟨a2, c2, rfl, hb1⟩; have y : Below W3.heap.size W3 v := bthen (by (repeat' (first | exact Below.refl _ _ | assumption | refine bdrewN ?_ _ | refine Below.drew ?_ | refine Below.setCell ?_ (Nat.le_refl _) _ | refine bal ?_ _ | refine bthen ?_ (by assumption)))) hb1; clear hb1; clear d0 d1 d2 d3 d4 d5 d6 d7 d8 d9 d10 d11 d12 d13 d14; have kk := BK.out _ y; obtain ⟨d0, d1, d2, d3, d4, d5, d6, d7, d8, d9, d10, d11, d12, d13, d14⟩ := kk))
      have ww : ((u : Int) - u) = 0 := by omega
      clear d0 d1 d2 d3 d4 d5 d6 d7 d8 d9 d10 d11 d12 d13 d14
      go_wp2_with (first | (go_at_call 10; refine (known16_c _ (hid (G3.out _ (Kpt.of (by assumption))))).mono ?_; rintro e v2 ⟨rfl, hb2⟩))
      go_ret
      exact ⟨rfl, bthen BW3.out (bthen (by assumption) (by assumption))⟩
    | true =>
      obtain ⟨kk, hk24, hN0, hL0, hF, hM⟩ := draws_tell hB (by omega)
      obtain ⟨t, ht⟩ : ∃ t, t = takesN kk := ⟨_, rfl⟩
      obtain ⟨L, hL⟩ : ∃ L, L = valL (withD m aD D cD) nL u := ⟨_, rfl⟩
      have ht5 : t = 0 ∨ t = 1 ∨ t = 5 := by
        rw [ht]; rcases takes_cases hk24 with ⟨h, _⟩ | ⟨h, _⟩ | ⟨h, _⟩ <;> omega
      have hlen : t = 0 ∨ L.length = 6 ∨ L.length = 36 := by
        rcases takes_cases hk24 with ⟨h, _⟩ | ⟨_, h1, _⟩ | ⟨_, h1⟩
        · left; omega
        · right; rw [hL, hL0]; exact tell_len _ _ h1 hk24
        · right; rw [hL, hL0]; exact tell_len _ _ (by omega) hk24
      rw [← ht, ← hL] at hF
      rw [← ht] at hN0
      have HF := hid hF
      have HM := hid hM
      have VAL : Hid (∀ w' a c, Below W3.heap.size W3 w' → Hid (Sl w' a nL) → Calls Tryd.prog 13 #[.agg #[x0, x1, x2, x3, x4, x5, x6, x7, x8, x9, x10, x11, x12, x13, x14], .slice a nL.length c, .int .i64 u] w' fun e w'' => ∃ a2 c2, e = .returned (.tuple #[.slice a2 L.length c2, .bool true, .int .i64 ((u : Int) + t)]) ∧ Own w'' w'.heap.size a2 c2 L ∧ Below w'.heap.size w' w'') := hid fun w' a c h1 h2 => by
        rw [← hA.out]
        refine (value_c (withD m aD D cD) a c nL u w' (hid (E3.out w' (Kpt.of h1))) h2 (by unfold i64; omega) (hid (G3.out w' (Kpt.of h1)))).mono fun e w'' h => ?_
        obtain ⟨a2, c2, rfl, ho, hb2⟩ := h.vals
        rw [hB, hN0, hL]
        rw [← hL] at ho ⊢
        exact ⟨a2, c2, rfl, ho, hb2⟩
      have Hlen := hid hlen
      have Ht5 := hid ht5
      have W1 : IntKind.i64.wrap ((u : Int) + t - u) = t := by rw [show (u : Int) + t - u = t by omega]; rcases ht5 with h | h | h <;> (rw [h]; rfl)
      have ht5' : t ≤ 5 := by omega
      clear hB hN0 hL0 hF hM ht hL hlen ht5
      obtain ⟨d0, d1, d2, d3, d4, d5, d6, d7, d8, d9, d10, d11, d12, d13, d14⟩ := BK.out W3.drew (Below.refl _ _).drew
      have xd : Below W3.heap.size W3 W3.drew := (Below.refl _ _).drew
      go_region_held3 (fun w' => w'.cell? ⟨w1.heap.size, 0, none⟩ = some x0 ∧ w'.cell? ⟨w1.heap.size, 1, none⟩ = some x1 ∧ w'.cell? ⟨w1.heap.size, 2, none⟩ = some x2 ∧ w'.cell? ⟨w1.heap.size, 3, none⟩ = some x3 ∧ w'.cell? ⟨w1.heap.size, 4, none⟩ = some x4 ∧ w'.cell? ⟨w1.heap.size, 5, none⟩ = some x5 ∧ w'.cell? ⟨w1.heap.size, 6, none⟩ = some x6 ∧ w'.cell? ⟨w1.heap.size, 7, none⟩ = some x7 ∧ w'.cell? ⟨w1.heap.size, 8, none⟩ = some x8 ∧ w'.cell? ⟨w1.heap.size, 9, none⟩ = some x9 ∧ w'.cell? ⟨w1.heap.size, 10, none⟩ = some x10 ∧ w'.cell? ⟨w1.heap.size, 11, none⟩ = some x11 ∧ w'.cell? ⟨w1.heap.size, 12, none⟩ = some x12 ∧ w'.cell? ⟨w1.heap.size, 13, none⟩ = some x13 ∧ w'.cell? ⟨w1.heap.size, 14, none⟩ = some x14 ∧ Below W3.heap.size W3 w') (first | (with_reducible assumption) | exact ⟨by with_reducible assumption, by with_reducible assumption, by with_reducible assumption, by with_reducible assumption, by with_reducible assumption, by with_reducible assumption, by with_reducible assumption, by with_reducible assumption, by with_reducible assumption, by with_reducible assumption, by with_reducible assumption, by with_reducible assumption, by with_reducible assumption, by with_reducible assumption, by with_reducible assumption, by with_reducible assumption⟩)
        (first | (go_at_call 9; refine (NM.out _).mono ?_; rintro e v ⟨na, nc, rfl, ho, hb1⟩; have y : Below W3.heap.size W3 v := bthen (by (repeat' (first | exact Below.refl _ _ | assumption | refine bdrewN ?_ _ | refine Below.drew ?_ | refine Below.setCell ?_ (Nat.le_refl _) _ | refine bal ?_ _ | refine bthen ?_ (by assumption)))) hb1; have NS := hid ho.sl; clear ho hb1; clear d0 d1 d2 d3 d4 d5 d6 d7 d8 d9 d10 d11 d12 d13 d14; have kk := BK.out _ y; obtain ⟨d0, d1, d2, d3, d4, d5, d6, d7, d8, d9, d10, d11, d12, d13, d14⟩ := kk)
               | (go_at_call 13; refine (VAL.out _ na nc ?_ ?_).mono ?_; (focus (repeat' (first | exact Below.refl _ _ | assumption | refine bdrewN ?_ _ | refine Below.drew ?_ | refine Below.setCell ?_ (Nat.le_refl _) _ | refine bal ?_ _ | refine bthen ?_ (by assumption)))); (focus (exact NS)); rintro e v ⟨a2, c2, rfl, ho, hb1⟩; have y : Below W3.heap.size W3 v := bthen (by (repeat' (first | exact Below.refl _ _ | assumption | refine bdrewN ?_ _ | refine Below.drew ?_ | refine Below.setCell ?_ (Nat.le_refl _) _ | refine bal ?_ _ | refine bthen ?_ (by assumption)))) hb1; have S2 := hid ho.sl; clear ho hb1; clear d0 d1 d2 d3 d4 d5 d6 d7 d8 d9 d10 d11 d12 d13 d14; have kk := BK.out _ y; obtain ⟨d0, d1, d2, d3, d4, d5, d6, d7, d8, d9, d10, d11, d12, d13, d14⟩ := kk))
      have Y1 := hid y
      clear d0 d1 d2 d3 d4 d5 d6 d7 d8 d9 d10 d11 d12 d13 d14 y xd VAL BK
      have hX : #[x0, x1, x2, x3, x4, x5, x6, x7, x8, x9, x10, x11, x12, x13, x14] = enC (withD m aD D cD) := hA.out.symm
      simp only [enC, withD, Array.mk.injEq, List.cons.injEq, and_true] at hX
      obtain ⟨rfl, rfl, rfl, rfl, rfl, rfl, rfl, rfl, rfl, rfl, rfl, rfl, rfl, rfl, rfl⟩ := hX
      go_upto_region 13 with fail
      go_cut [82] (fun s wc => s = .bool false ∧ wc = v)
      case first =>
        rcases Ht5.out with h | h | h <;> subst h
        all_goals go_wp2_with fail
        all_goals go_meet
        all_goals exact ⟨rfl, rfl⟩
      case rest =>
      obtain ⟨rfl, rfl⟩ := hcut
      rename World => V5
      have X5 := HX3.out.bel Y1.out
      have q0 := X5.c 0 _ rfl
      have q1 := X5.c 1 _ rfl
      have q2 := X5.c 2 _ rfl
      have q3 := X5.c 3 _ rfl
      have q4 := X5.c 4 _ rfl
      have q5 := X5.c 5 _ rfl
      have q6 := X5.c 6 _ rfl
      have q7 := X5.c 7 _ rfl
      have q8 := X5.c 8 _ rfl
      have q9 := X5.c 9 _ rfl
      have q10 := X5.c 10 _ rfl
      have q11 := X5.c 11 _ rfl
      have q12 := X5.c 12 _ rfl
      have q13 := X5.c 13 _ rfl
      have q14 := X5.c 14 _ rfl
      have k5 : KR w1.heap.size W3 V5 := Kpt.of Y1.out
      have E5 : Hid (EnOk V5 (withD m aD D cD)) := hid (E3.out V5 k5)
      have G5 : Hid (Gl V5) := hid (G3.out V5 k5)
      have D5 : Hid (I.Sl V5 aD D) := hid (LD3.out V5 k5)
      have BV5 : Hid (Below w.heap.size w V5) := hid (BW3.out.trans (Y1.out.mono BW3.out.size))
      clear X5 k5 E3 G3 LD3 HX3 Y1 BW3 hA
      go_upto_region 16 with fail
      generalize hV : World.alloc V5 _ = V6
      have X6 : Hid (BoxV V6 V5.heap.size (enC (withD m aD D cD))) := hid (by rw [← hV]; exact BoxV.new V5 _ _)
      have B6 : Hid (Below V5.heap.size V5 V6) := hid (by rw [← hV]; exact bal (Below.refl _ _) _)
      have hl6 : V5.heap.size < V6.heap.size := by rw [← hV]; simp
      clear hV q0 q1 q2 q3 q4 q5 q6 q7 q8 q9 q10 q11 q12 q13 q14
      go_upto_if 85 with fail
      go_cut [] (fun wc => ∃ mf : En, Hid (BoxV wc V5.heap.size (enC mf)) ∧ Hid (∀ da dl dc, I.Sl (wc.setCell ⟨V5.heap.size, 14, none⟩ (.slice da (dl : List Int).length dc)) da dl → dl.length ≤ dc → EnOk (wc.setCell ⟨V5.heap.size, 14, none⟩ (.slice da dl.length dc)) (withD mf da dl dc)) ∧ Hid (Below V5.heap.size V5 wc) ∧ Hid (∀ da dl dc, drE dl = true → mayE (withD mf da dl dc) = true) ∧ Hid (t = 0 → ∀ da dl dc, withD mf da dl dc = withD m da dl dc))
      case first =>
        by_cases h0 : t = 0
        · subst h0
          go_wp2
          go_meet
          exact ⟨withD m aD D cD, X6, hid fun da dl dc hs hl => (by
            have e := E5.out.bel (B6.out.setCell (Nat.le_refl _) (p := ⟨V5.heap.size, 14, none⟩) (.slice da dl.length dc))
            exact ⟨e.s0, e.s1, e.s2, e.s3, e.s4, e.s5, hs, e.l0, e.l1, e.l2, e.l3, e.l4, e.l5, hl⟩), B6, hid fun da dl dc h => may_withD HM.out h, hid fun _ _ _ _ => rfl⟩
        · have b0 : decide (0 < t) = true := by simp; omega
          have hbT2 : Hid (Below V6.heap.size V6 (V6.alloc (.cells #[.slice none 0 0, .int .i64 0] 29))) := hid (bal (Below.refl _ _) _)
          have TA2 : Hid (TapeAt (V6.alloc (.cells #[.slice none 0 0, .int .i64 0] 29)) V6.heap.size none [] 0 0) := hid ⟨by simp, by rw [cell_alloc_new]; rfl, by rw [cell_alloc_new]; rfl, by unfold World.frozen?; rw [heap_alloc_new]; rfl, Nat.zero_le _⟩
          go_wp2_with fail
          refine (env16_c V6.heap.size none [] 0 0 _ TA2.out (hid fun _ _ => I.Sl.nil _ _)).mono ?_
          rintro e V7 ⟨m2, rfl, hE2, hb7, hD2⟩
          have E7 := hid hE2
          have D7 := hid (hD2 rfl)
          have B7 : Hid (Below V6.heap.size V6 V7) := hid (hbT2.out.trans hb7)
          have X7 : Hid (BoxV V7 V5.heap.size (enC (withD m aD D cD))) := hid (X6.out.bel B7.out)
          have B57 : Hid (Below V5.heap.size V5 V7) := hid (B6.out.trans (B7.out.mono B6.out.size))
          clear hE2 hb7 hD2 hbT2 TA2
          simp only [enC]
          have q0 := X7.out.c 0 _ rfl
          have z0 := X7.out.f 0
          have q1 := X7.out.c 1 _ rfl
          have z1 := X7.out.f 1
          have q2 := X7.out.c 2 _ rfl
          have z2 := X7.out.f 2
          have q3 := X7.out.c 3 _ rfl
          have z3 := X7.out.f 3
          have q4 := X7.out.c 4 _ rfl
          have z4 := X7.out.f 4
          have q5 := X7.out.c 5 _ rfl
          have z5 := X7.out.f 5
          have q6 := X7.out.c 6 _ rfl
          have z6 := X7.out.f 6
          have q7 := X7.out.c 7 _ rfl
          have z7 := X7.out.f 7
          have q8 := X7.out.c 8 _ rfl
          have z8 := X7.out.f 8
          have q9 := X7.out.c 9 _ rfl
          have z9 := X7.out.f 9
          have q10 := X7.out.c 10 _ rfl
          have z10 := X7.out.f 10
          have q11 := X7.out.c 11 _ rfl
          have z11 := X7.out.f 11
          have q12 := X7.out.c 12 _ rfl
          have z12 := X7.out.f 12
          have q13 := X7.out.c 13 _ rfl
          have z13 := X7.out.f 13
          have q14 := X7.out.c 14 _ rfl
          have z14 := X7.out.f 14
          go_wp2
          generalize hV : World.setCell _ _ _ = VF
          have hVe : VF = chainS V7 V5.heap.size 0 (enC m2).toList := hV.symm
          clear hV q0 z0 q1 z1 q2 z2 q3 z3 q4 z4 q5 z5 q6 z6 q7 z7 q8 z8 q9 z9 q10 z10 q11 z11 q12 z12 q13 z13 q14 z14
          go_meet
          refine ⟨m2, hid ?_, hid ?_, hid ?_, hid fun da dl dc h => may_envD D7.out h, hid fun h => absurd h h0⟩
          · have := X7.out.chain (enC m2).toList (by simp [enC])
            rw [hVe]; simpa using this
          · rw [hVe]
            exact fun da dl dc hs hl => EnOk.over X7.out E7.out hs hl
          · rw [hVe]
            exact B57.out.trans ((chainS_kr _ _ _).belowp (Nat.le_of_lt X7.out.lt))
      case rest =>
      rename World => V8
      obtain ⟨mf, X8, EO, B8, MF, H0⟩ := hcut
      obtain ⟨aF, cF, F, hF, hS, hFc, r2⟩ := islice_fromK (K := fun w' => Below V5.heap.size V5 w') (fun w' h => D5.out.bel h) u cD (by omega) hcp
      have HS := hid hS
      have q14 := X8.out.c 14 _ rfl
      have z14 := X8.out.f 14
      clear hS
      go_upto_region 19 with fail
      generalize hV : World.setCell V8 _ _ = V9
      have X9 : BoxV V9 V5.heap.size (enC (withD mf aF F cF)) := by rw [← hV]; exact X8.out.set (by simp [enC]) rfl
      have B9 : Hid (Below V5.heap.size V5 V9) := hid (by rw [← hV]; exact B8.out.setCell (Nat.le_refl _) _)
      have E9 : Hid (EnOk V9 (withD mf aF F cF)) := hid (by have hs := HS.out V9 B9.out; rw [← hV] at hs ⊢; exact EO.out _ _ _ hs hFc)
      have hl9 : V5.heap.size < V9.heap.size := X9.lt
      have HFf := HF.out (withD mf aF F cF) (MF.out _ _ _ (by rw [hF.out]; exact drE_drop hdE.out u)) hF.out (fun h => ⟨aF, cF, by rw [H0.out h, hF.out]⟩)
      have HF2 := hid HFf
      clear hV q14 z14 HFf X8 EO MF H0 r2 HS HF hF
      obtain ⟨z0, z1, z2, z3, z4, z5, z6, z7, z8, z9, z10, z11, z12, z13, z14, hA9⟩ : ∃ z0 z1 z2 z3 z4 z5 z6 z7 z8 z9 z10 z11 z12 z13 z14 : Value, Hid (enC (withD mf aF F cF) = #[z0, z1, z2, z3, z4, z5, z6, z7, z8, z9, z10, z11, z12, z13, z14]) := ⟨_, _, _, _, _, _, _, _, _, _, _, _, _, _, _, rfl⟩
      rw [hA9.out] at X9
      have HX9 := hid X9
      have BK9 : Hid (∀ w', Below V9.heap.size V9 w' → w'.cell? ⟨V5.heap.size, 0, none⟩ = some z0 ∧ w'.cell? ⟨V5.heap.size, 1, none⟩ = some z1 ∧ w'.cell? ⟨V5.heap.size, 2, none⟩ = some z2 ∧ w'.cell? ⟨V5.heap.size, 3, none⟩ = some z3 ∧ w'.cell? ⟨V5.heap.size, 4, none⟩ = some z4 ∧ w'.cell? ⟨V5.heap.size, 5, none⟩ = some z5 ∧ w'.cell? ⟨V5.heap.size, 6, none⟩ = some z6 ∧ w'.cell? ⟨V5.heap.size, 7, none⟩ = some z7 ∧ w'.cell? ⟨V5.heap.size, 8, none⟩ = some z8 ∧ w'.cell? ⟨V5.heap.size, 9, none⟩ = some z9 ∧ w'.cell? ⟨V5.heap.size, 10, none⟩ = some z10 ∧ w'.cell? ⟨V5.heap.size, 11, none⟩ = some z11 ∧ w'.cell? ⟨V5.heap.size, 12, none⟩ = some z12 ∧ w'.cell? ⟨V5.heap.size, 13, none⟩ = some z13 ∧ w'.cell? ⟨V5.heap.size, 14, none⟩ = some z14) := hid fun w' h => by
        have g0 := (HX9.out.bel h).c
        exact ⟨g0 0 _ rfl, g0 1 _ rfl, g0 2 _ rfl, g0 3 _ rfl, g0 4 _ rfl, g0 5 _ rfl, g0 6 _ rfl, g0 7 _ rfl, g0 8 _ rfl, g0 9 _ rfl, g0 10 _ rfl, g0 11 _ rfl, g0 12 _ rfl, g0 13 _ rfl, g0 14 _ rfl⟩
      have VAL2 : Hid (∀ w' a c, Below V9.heap.size V9 w' → Hid (Sl w' a nL) → Calls Tryd.prog 13 #[.agg #[z0, z1, z2, z3, z4, z5, z6, z7, z8, z9, z10, z11, z12, z13, z14], .slice a nL.length c, .int .i64 0] w' fun e w'' => ∃ a2 c2, e = .returned (.tuple #[.slice a2 L.length c2, .bool true, .int .i64 (t : Int)]) ∧ Own w'' w'.heap.size a2 c2 L ∧ Below w'.heap.size w' w'') := hid fun w' a c h1 h2 => by
        rw [← hA9.out]
        refine (value_c (withD mf aF F cF) a c nL 0 w' (hid (E9.out.bel h1)) h2 (by unfold i64; omega) (hid (G5.out.bel (B9.out.trans (h1.mono B9.out.size))))).mono fun e w'' h => ?_
        obtain ⟨a2, c2, rfl, ho, hb2⟩ := h.vals
        obtain ⟨f1, f2, f3⟩ := HF2.out
        rw [f3] at ho
        rw [f1, f2, f3]
        exact ⟨a2, c2, rfl, ho, hb2⟩
      have S9 : Hid (Sl V9 a2 L) := hid (S2.out.bel B9.out)
      clear X9 HX9 S2
      obtain ⟨d0, d1, d2, d3, d4, d5, d6, d7, d8, d9, d10, d11, d12, d13, d14⟩ := BK9.out V9.drew (Below.refl _ _).drew
      have xd : Below V9.heap.size V9 V9.drew := (Below.refl _ _).drew
      go_region_held3 (fun w' => w'.cell? ⟨V5.heap.size, 0, none⟩ = some z0 ∧ w'.cell? ⟨V5.heap.size, 1, none⟩ = some z1 ∧ w'.cell? ⟨V5.heap.size, 2, none⟩ = some z2 ∧ w'.cell? ⟨V5.heap.size, 3, none⟩ = some z3 ∧ w'.cell? ⟨V5.heap.size, 4, none⟩ = some z4 ∧ w'.cell? ⟨V5.heap.size, 5, none⟩ = some z5 ∧ w'.cell? ⟨V5.heap.size, 6, none⟩ = some z6 ∧ w'.cell? ⟨V5.heap.size, 7, none⟩ = some z7 ∧ w'.cell? ⟨V5.heap.size, 8, none⟩ = some z8 ∧ w'.cell? ⟨V5.heap.size, 9, none⟩ = some z9 ∧ w'.cell? ⟨V5.heap.size, 10, none⟩ = some z10 ∧ w'.cell? ⟨V5.heap.size, 11, none⟩ = some z11 ∧ w'.cell? ⟨V5.heap.size, 12, none⟩ = some z12 ∧ w'.cell? ⟨V5.heap.size, 13, none⟩ = some z13 ∧ w'.cell? ⟨V5.heap.size, 14, none⟩ = some z14 ∧ Below V9.heap.size V9 w') (first | (with_reducible assumption) | exact ⟨by with_reducible assumption, by with_reducible assumption, by with_reducible assumption, by with_reducible assumption, by with_reducible assumption, by with_reducible assumption, by with_reducible assumption, by with_reducible assumption, by with_reducible assumption, by with_reducible assumption, by with_reducible assumption, by with_reducible assumption, by with_reducible assumption, by with_reducible assumption, by with_reducible assumption, by with_reducible assumption⟩)
        (first | (go_at_call 9; refine (NM.out _).mono ?_; rintro e v ⟨na, nc, rfl, ho, hb1⟩; have y : Below V9.heap.size V9 v := bthen (by (repeat' (first | exact Below.refl _ _ | assumption | refine bdrewN ?_ _ | refine Below.drew ?_ | refine Below.setCell ?_ (Nat.le_refl _) _ | refine bal ?_ _ | refine bthen ?_ (by assumption)))) hb1; have NS := hid ho.sl; clear ho hb1; clear d0 d1 d2 d3 d4 d5 d6 d7 d8 d9 d10 d11 d12 d13 d14; have kk := BK9.out _ y; obtain ⟨d0, d1, d2, d3, d4, d5, d6, d7, d8, d9, d10, d11, d12, d13, d14⟩ := kk)
               | (go_at_call 13; refine (VAL2.out _ na nc ?_ ?_).mono ?_; (focus (repeat' (first | exact Below.refl _ _ | assumption | refine bdrewN ?_ _ | refine Below.drew ?_ | refine Below.setCell ?_ (Nat.le_refl _) _ | refine bal ?_ _ | refine bthen ?_ (by assumption)))); (focus (exact NS)); rintro e v ⟨a3, c3, rfl, ho, hb1⟩; have y : Below V9.heap.size V9 v := bthen (by (repeat' (first | exact Below.refl _ _ | assumption | refine bdrewN ?_ _ | refine Below.drew ?_ | refine Below.setCell ?_ (Nat.le_refl _) _ | refine bal ?_ _ | refine bthen ?_ (by assumption)))) hb1; have S3 := hid ho.sl; clear ho hb1; clear d0 d1 d2 d3 d4 d5 d6 d7 d8 d9 d10 d11 d12 d13 d14; have kk := BK9.out _ y; obtain ⟨d0, d1, d2, d3, d4, d5, d6, d7, d8, d9, d10, d11, d12, d13, d14⟩ := kk))
      have Y9 := hid y
      clear d0 d1 d2 d3 d4 d5 d6 d7 d8 d9 d10 d11 d12 d13 d14 y xd VAL2 BK9
      rename World => V10
      have S10 : Hid (Sl V10 a2 L) := hid (S9.out.bel Y9.out)
      have B10 : Hid (Below V5.heap.size V5 V10) := hid (B9.out.trans (Y9.out.mono B9.out.size))
      have he : eqM L L = true := by simp [eqM]
      have HL : t = 0 ∨ (t ≠ 0 ∧ L.length = 6) ∨ (t ≠ 0 ∧ L.length = 36) := by
        by_cases h : t = 0
        · exact .inl h
        · rcases Hlen.out with h1 | h1 | h1
          · exact absurd h1 h
          · exact .inr (.inl ⟨h, h1⟩)
          · exact .inr (.inr ⟨h, h1⟩)
      clear S9 B9 Hlen Ht5 W1 HF2 E9 hA9 E5 D5 hdE HM
      rcases HL with h | ⟨h, h6⟩ | ⟨h, h6⟩
      · subst h
        go_wp2_with (first | (go_at_call 14; refine (rsame_c a2 a3 c2 c3 L L _ S10.out S3.out).mono ?_; rintro e w3 ⟨rfl, n3, hn3⟩; rw [he]; have x3 : Below V10.heap.size V10 w3 := (by rw [hn3]; exact bdrewN (Below.refl _ _) _); clear hn3) | (go_at_call 10; refine (known16_c _ (hid (G5.out.bel (bthen B10.out (by assumption))))).mono ?_; rintro e w4 ⟨rfl, hb4⟩; have x4 : Below V10.heap.size V10 w4 := bthen (by assumption) hb4; clear hb4))
        go_ret
        exact ⟨rfl, bthen BV5.out (bthen B10.out (by assumption))⟩
      · have b5 : decide (t = 0) = false := by simpa using h
        have b6 : ((t : Int) == 0) = false := by simp; omega
        have b7 : decide (L.length = 6) = true := by simpa using h6
        have b8 : ((L.length : Int) == 6) = true := by rw [h6]; rfl
        clear h h6
        go_wp2_with (first | (go_at_call 14; refine (rsame_c a2 a3 c2 c3 L L _ S10.out S3.out).mono ?_; rintro e w3 ⟨rfl, n3, hn3⟩; rw [he]; have x3 : Below V10.heap.size V10 w3 := (by rw [hn3]; exact bdrewN (Below.refl _ _) _); clear hn3) | (go_at_call 10; refine (known16_c _ (hid (G5.out.bel (bthen B10.out (by assumption))))).mono ?_; rintro e w4 ⟨rfl, hb4⟩; have x4 : Below V10.heap.size V10 w4 := bthen (by assumption) hb4; clear hb4))
        go_ret
        exact ⟨rfl, bthen BV5.out (bthen B10.out (by assumption))⟩
      · have b5 : decide (t = 0) = false := by simpa using h
        have b6 : ((t : Int) == 0) = false := by simp; omega
        have b7 : decide (L.length = 6) = false := by simp; omega
        have b8 : ((L.length : Int) == 6) = false := by rw [h6]; rfl
        have b9 : decide (L.length = 36) = true := by simpa using h6
        have b10 : ((L.length : Int) == 36) = true := by rw [h6]; rfl
        clear h h6
        go_wp2_with (first | (go_at_call 14; refine (rsame_c a2 a3 c2 c3 L L _ S10.out S3.out).mono ?_; rintro e w3 ⟨rfl, n3, hn3⟩; rw [he]; have x3 : Below V10.heap.size V10 w3 := (by rw [hn3]; exact bdrewN (Below.refl _ _) _); clear hn3) | (go_at_call 10; refine (known16_c _ (hid (G5.out.bel (bthen B10.out (by assumption))))).mono ?_; rintro e w4 ⟨rfl, hb4⟩; have x4 : Below V10.heap.size V10 w4 := bthen (by assumption) hb4; clear hb4))
        go_ret
        exact ⟨rfl, bthen BV5.out (bthen B10.out (by assumption))⟩
end Go.Proofs.YtijhkpbnalnpbaaDoor
