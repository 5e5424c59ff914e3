/- The walk of ChangeBack. -/
import Derived.Test.YtnaipahapdjakaaCfm
import Derived.Deep.RegionHeld3
namespace Go.Proofs.Ytnaipahapdjakaa
open Go.RowKit

set_option maxRecDepth 20000 in
set_option maxHeartbeats 16000000 in
theorem back_w (a aA aC aQ : Option Addr) (c cA cC cQ : Nat) (l A0 C0 Q0 : List Int) (W : World) (h : Sl W a l) (hA : I.Sl W aA A0) (hC : I.Sl W aC C0) (hQ : Sl W aQ Q0) (hc : l.length ≤ c) (hcQ : Q0.length ≤ cQ) :
    Calls Try.prog 6 #[.slice a l.length c, .slice aA A0.length cA, .slice aC C0.length cC, .slice aQ Q0.length cQ] W fun e w' => e = .returned (.bool true) ∧ Below W.heap.size W w' := by
  have hAl := hA.len
  have hCl := hC.len
  have HQ : Hid (∀ w', Below W.heap.size W w' → Sl w' aQ Q0) := fun w' hb => hQ.bel hb
  have HA : Hid (∀ w', Below W.heap.size W w' → I.Sl w' aA A0) := fun w' hb => hA.bel hb
  have HC : Hid (∀ w', Below W.heap.size W w' → I.Sl w' aC C0) := fun w' hb => hC.bel hb
  clear hQ hA hC
  go_enter Try.func6, Try.ntmps6
  go_wp2_with fail
  refine (cut_c a c l 200 W h hc (by omega)).mono ?_
  rintro e w' ⟨a1, c1, L1, rfl, hL1, s1, hc1, rfl⟩
  have hl1 : L1.length ≤ 200 := by rw [hL1.out]; simp; omega
  have S1 := hid s1
  clear s1 hL1 hc1 h
  go_wp2_with fail
  refine ((clean_c a1 c1 L1 W S1.out).mono fun e w' h => h.n).mono ?_
  rintro e w1 ⟨aS, cS, S, rfl, hS, hoS, hb1⟩
  have hSl : S.length ≤ 200 := by rw [hS.out, cln_len]; exact hl1
  have hSm : Hid (may S = true) := by rw [hS.out]; exact cln_may L1
  have hcS := hoS.cap
  have HS1 := hid hoS.sl
  clear hoS S1 hS
  go_wp2_with fail
  refine (cut_c aQ cQ Q0 30 w1 (HQ.out _ hb1) hcQ (by omega)).mono ?_
  rintro e w' ⟨a2, c2, L2, rfl, hL2, s2, hc2, rfl⟩
  have hl2 : L2.length ≤ 30 := by rw [hL2.out]; simp; omega
  have S2 := hid s2
  clear s2 hL2 hc2
  go_wp2_with fail
  refine ((clean_c a2 c2 L2 w1 S2.out).mono fun e w' h => h.n).mono ?_
  rintro e wp ⟨aP, cP, Q, rfl, hQ2, hoP, hbp⟩
  have hQl : Q.length ≤ 30 := by rw [hQ2.out, cln_len]; exact hl2
  have hQm : Hid (may Q = true) := by rw [hQ2.out]; exact cln_may L2
  have hQc := hoP.cap
  have hxp : Below W.heap.size W wp := bthen hb1 hbp
  have SSp : Hid (∀ w', Below wp.heap.size wp w' → Sl w' aS S ∧ Sl w' aP Q) := fun w' hb => ⟨(HS1.out.bel hbp).bel hb, hoP.sl.bel hb⟩
  clear hoP S2 hQ2 HQ hb1 hbp HS1
  go_upto_block 0 with (at_builtin; (refine wpL_appn rfl ((.const (.slice none 0 0))) (.tmp 25) rfl wp.heap.size none aS 0 S.length 0 cS [] S rfl (by first | rfl | simp | omega) (Own.nil _ _) rfl (by first | rfl | simp | omega) (SSp.out _ (Below.refl _ _)).1 (by simp; omega) (Nat.le_refl _) ?_); intro a2 c2 w2 L2 Hl2 ho2 hb2 hk2 hA2; have HA2 := hid hA2; clear hA2; have Ho2 := hid ho2; clear ho2; have Hk2 := hid hk2; clear hk2; have hz2 := hb2.size)
  obtain rfl : S = L2 := by simpa using Hl2.out.symm
  have hx2 : Below W.heap.size W w2 := bthen hxp hb2
  have SS : Hid (∀ w', Below w2.heap.size w2 w' → Sl w' aS S ∧ Sl w' aP Q) := fun w' hb => SSp.out _ (bthen hb2 hb)
  have hstart : Hid (Txt w2 a2 c2 S none) := ⟨Ho2.out.sl, Ho2.out.cap, hSm.out, by omega, .inr (fun ad _ hb => by obtain ⟨ae, h0, _⟩ := hb; cases h0)⟩
  have hWz : W.heap.size ≤ w2.heap.size := hx2.size
  clear Ho2 Hl2 HA2 Hk2 hb2 hxp hz2
  go_cut [9, 10] (fun tv lv wc => ∃ (aT : Option Addr) (cT : Nat) (aL : Option Addr) (cL : Nat) (M : List Cm) (T : List Int), tv = .slice aT T.length cT ∧ lv = .slice aL M.length cL ∧ M.length ≤ 15 ∧ Hid (rowC S (cgs M) = some T) ∧ Hid (Sl wc aT T) ∧ Hid (COwn wc w2.heap.size aL cL M) ∧ Hid (CsRd wc aL M) ∧ Below w2.heap.size w2 wc)
  case first =>
    go_wp2_with fail
    go_loopw [9, 10, 11] (fun tv lv iv wr => ∃ (k : Nat) (aT : Option Addr) (cT : Nat) (T : List Int) (aL : Option Addr) (cL : Nat) (M : List Cm), k ≤ 15 ∧ iv = .int .i64 k ∧ tv = .slice aT T.length cT ∧ lv = .slice aL M.length cL ∧ M.length ≤ k ∧ Hid (rowC S (cgs M) = some T) ∧ Hid (Txt wr aT cT T aL) ∧ Hid (COwn wr w2.heap.size aL cL M) ∧ Hid (CsRd wr aL M) ∧ Below w2.heap.size w2 wr) (fun _ _ iv _ => 15 - (intOf iv).toNat)
    case atStart => exact ⟨0, a2, c2, S, none, 0, [], by omega, rfl, rfl, rfl, by simp, hid rfl, hstart, COwn.nil _ _, CsRd.nil _ _, Below.refl _ _⟩
    case round =>
      obtain ⟨k, aT, cT, T, aL, cL, M, hk, rfl, rfl, rfl, hMk, HR, HT, HO, HC2, hb⟩ := hrel
      have hxr : Below W.heap.size W wr := hx2.trans (hb.mono hWz)
      by_cases hkA : k < A0.length
      · by_cases hkC : k < C0.length
        · by_cases hk12 : k < 15
          · obtain ⟨bA, oA, rfl, hcA⟩ := (HA.out _ hxr).at hkA
            obtain ⟨bC, oC, rfl, hcC⟩ := (HC.out _ hxr).at hkC
            have x0 := hcA k hkA
            have y0 := hcC k hkC
            have hbA := World.block_lt_of_cell? wr _ x0
            have hbC := World.block_lt_of_cell? wr _ y0
            generalize gt A0 k = av at x0
            generalize gt C0 k = cv at y0
            have KD : Hid (∀ w', Below wr.heap.size wr w' → w'.cell? ⟨bA, oA + k, none⟩ = some (.int .i64 av) ∧ w'.cell? ⟨bC, oC + k, none⟩ = some (.int .i64 cv)) := fun w' hb' => by
              refine ⟨?_, ?_⟩
              · rw [hb'.cell (by exact hbA)]; exact x0
              · rw [hb'.cell (by exact hbC)]; exact y0
            have FT : Hid (∀ w', Below wr.heap.size wr w' → Sl w' aT T ∧ Sl w' aP Q) := fun w' hb' => ⟨HT.out.sl.bel hb', (SS.out _ (bthen hb hb')).2⟩
            obtain ⟨mn, hmn⟩ : ∃ mn : Nat, min k Q.length = mn := ⟨_, rfl⟩
            have hmq : mn ≤ Q.length := by omega
            have hmi : (if (Q.length : Int) < (k : Int) then (Q.length : Int) else (k : Int)) = (mn : Int) := by split <;> omega
            have hmi2 : (if Q.length < k then (Q.length : Int) else (k : Int)) = (mn : Int) := by split <;> omega
            obtain ⟨aD, cD, D, HD, sD, hDc, rD⟩ := slice_from (FT.out _ (Below.refl _ _)).2 mn cP hmq hQc
            have hDl : D.length ≤ 30 := by rw [HD.out]; simp; omega
            have FD : Hid (∀ w', Below wr.heap.size wr w' → Sl w' aD D) := fun w' hb' => sD.bel hb'
            have hDm : Hid (may D = true) := by rw [Hid, HD.out]; exact may_drop' hQm.out _
            clear sD hmn HD
            have hTc := HT.out.cap
            have hTl := HT.out.len
            clear hcA hcC
            go_upto_region 8 with fail
            go_cut [12] (fun s8 wc => ∃ (X i kc r : Nat) (C P : List Int) (a7 : Option Addr) (c7 : Nat) (a8 : Option Addr) (c8 : Nat), s8 = .pointer (some ⟨X, 0, none⟩) ∧ i + C.length ≤ T.length ∧ Hid (C = (T.drop i).take kc ∧ C.length = kc) ∧ Hid (P = D.take r) ∧ P.length + (T.length - C.length) ≤ 1000 ∧ P.length ≤ 30 ∧ Hid (FitM w2 wr wc X i C P a7 c7 a8 c8))
            case first =>
              have hx0 : Below w2.heap.size w2 wr.drew := hb.drew
              have hy0 : Below wr.heap.size wr wr.drew := (Below.refl _ _).drew
              have hz0 := hb.size
              go_region_held3 (fun w' => Below w2.heap.size w2 w' ∧ Below wr.heap.size wr w' ∧ w'.cell? ⟨bA, oA + k, none⟩ = some (.int .i64 av) ∧ w'.cell? ⟨bC, oC + k, none⟩ = some (.int .i64 cv)) (first | assumption | exact ⟨by assumption, by assumption, by assumption, by assumption⟩ | (refine ⟨(by (repeat' (first | exact Below.refl _ _ | assumption | refine bdrewN ?_ _ | refine Below.drew ?_ | refine bal ?_ _ | refine bthen ?_ (by assumption)))), (by (repeat' (first | exact Below.refl _ _ | assumption | refine bdrewN ?_ _ | refine Below.drew ?_ | refine bal ?_ _ | refine bthen ?_ (by assumption)))), ?_, ?_⟩ <;> go_keep) | (refine ⟨(((hx7.setCell (by first | omega | (simp; done) | (simp; omega)) _).setCell (by first | omega | (simp; done) | (simp; omega)) _).setCell (by first | omega | (simp; done) | (simp; omega)) _), (((hy7.setCell (by first | omega | (simp; done) | (simp; omega)) _).setCell (by first | omega | (simp; done) | (simp; omega)) _).setCell (by first | omega | (simp; done) | (simp; omega)) _), ?_, ?_⟩ <;> first | exact (KD.out _ (((hy7.setCell (by first | omega | (simp; done) | (simp; omega)) _).setCell (by first | omega | (simp; done) | (simp; omega)) _).setCell (by first | omega | (simp; done) | (simp; omega)) _)).1 | exact (KD.out _ (((hy7.setCell (by first | omega | (simp; done) | (simp; omega)) _).setCell (by first | omega | (simp; done) | (simp; omega)) _).setCell (by first | omega | (simp; done) | (simp; omega)) _)).2) | go_keep)
                (first | (go_at_call 11; refine (fit_c aT aD cT cD T D av cv _ (FT.out _ (by (repeat' (first | exact Below.refl _ _ | assumption | refine bdrewN ?_ _ | refine Below.drew ?_ | refine bal ?_ _ | refine bthen ?_ (by assumption))))).1 (FD.out _ (by (repeat' (first | exact Below.refl _ _ | assumption | refine bdrewN ?_ _ | refine Below.drew ?_ | refine bal ?_ _ | refine bthen ?_ (by assumption))))) hTc hTl (by omega)).mono ?_; rintro e w7 ⟨i, kc, r, C, P, a7, c7, a8, c8, rfl, hC, hik, HCk, HP, hPl, ho7, s8, hc8, hblk, hb7⟩; have HhC := hid hC; clear hC; have Ho7 := hid ho7; have hx7 : Below w2.heap.size w2 w7 := bthen (by (repeat' (first | exact Below.refl _ _ | assumption | refine bdrewN ?_ _ | refine Below.drew ?_ | refine bal ?_ _ | refine bthen ?_ (by assumption)))) hb7; have hy7 : Below wr.heap.size wr w7 := bthen (by (repeat' (first | exact Below.refl _ _ | assumption | refine bdrewN ?_ _ | refine Below.drew ?_ | refine bal ?_ _ | refine bthen ?_ (by assumption)))) hb7; have hz7 := hb7.size; (try (have z0 : w7.cell? ⟨wr.heap.size, 0, none⟩ = some (.int .i64 0) := (hb7.cell (p := ⟨wr.heap.size, 0, none⟩) (by first | assumption | (simp; done) | (simp; omega))).trans (by first | assumption | (simp; done)); have g0 : w7.frozen? ⟨wr.heap.size, 0, none⟩ = false := (hb7.frozen (p := ⟨wr.heap.size, 0, none⟩) (by first | assumption | (simp; done) | (simp; omega))).trans (by first | assumption | (simp; done)); have z1 : w7.cell? ⟨wr.heap.size, 1, none⟩ = some (.slice none 0 0) := (hb7.cell (p := ⟨wr.heap.size, 1, none⟩) (by first | assumption | (simp; done) | (simp; omega))).trans (by first | assumption | (simp; done)); have g1 : w7.frozen? ⟨wr.heap.size, 1, none⟩ = false := (hb7.frozen (p := ⟨wr.heap.size, 1, none⟩) (by first | assumption | (simp; done) | (simp; omega))).trans (by first | assumption | (simp; done)); have z2 : w7.cell? ⟨wr.heap.size, 2, none⟩ = some (.slice none 0 0) := (hb7.cell (p := ⟨wr.heap.size, 2, none⟩) (by first | assumption | (simp; done) | (simp; omega))).trans (by first | assumption | (simp; done)); have g2 : w7.frozen? ⟨wr.heap.size, 2, none⟩ = false := (hb7.frozen (p := ⟨wr.heap.size, 2, none⟩) (by first | assumption | (simp; done) | (simp; omega))).trans (by first | assumption | (simp; done)); have gx : wr.heap.size < w7.heap.size := World.block_lt_of_cell? _ _ z0)); have kk := KD.out _ hy7; obtain ⟨m1, m2⟩ := kk))
              all_goals
                go_wp2_with fail
                go_meet
                have hPm : P.length ≤ 30 := by rw [HP.out, List.length_take]; omega
                have hcb : ∀ ad, a7 = some ad → _ ≤ ad.block := fun ad ha => (Ho7.out.lt ⟨ad, ha, rfl⟩).1
                first
                | exact ⟨_, i, kc, r, C, P, a7, c7, a8, c8, rfl, by rw [HhC.out]; exact hik, hid ⟨HCk.out, HhC.out⟩, HP, by rw [HhC.out]; exact hPl, hPm, hid (FitM.late _ hx7 hy7 Ho7.out.sl s8 Ho7.out.cap hc8 (fun ad ha => by have hq := hcb ad ha; first | omega | (simp at hq; omega)) (fun ad ha => by have hq := hblk ad ha; first | omega | (simp at hq; omega)))⟩
                | exact ⟨_, i, kc, r, C, P, a7, c7, a8, c8, rfl, by rw [HhC.out]; exact hik, hid ⟨HCk.out, HhC.out⟩, HP, by rw [HhC.out]; exact hPl, hPm, hid (FitM.early hx7 hy7 (by omega) (by omega) z0 z1 z2 Ho7.out.sl s8 Ho7.out.cap hc8 (fun ad ha => by have hq := hcb ad ha; first | omega | (simp at hq; omega)) (fun ad ha => by have hq := hblk ad ha; first | omega | (simp at hq; omega)))⟩
            case rest =>
              obtain ⟨X, i, kc, r, C, P, a7, c7, a8, c8, rfl, hik, HCk, HP, hPl, hP10, HF⟩ := hcut
              have hmP : Hid (may P = true) := by rw [Hid, HP.out]; exact may_sub hDm.out fun _ hx => List.mem_of_mem_take hx
              have hT := HT.out
              have hmC : Hid (mayC T ⟨i, C, P⟩ = true) := fit_mayC (k := C.length) (by rw [HCk.out.2]; exact HCk.out.1) rfl hik hT.may hT.len hmP.out hPl
              have hmT : Hid (may (appC T ⟨i, C, P⟩) = true ∧ (appC T ⟨i, C, P⟩).length ≤ 1000) := ⟨appC_may hmC.out hT.may, appC_le hmC.out⟩
              have hil : i ≤ 1000 := by have := hT.len; omega
              have hRr : Hid (rowC S (cgs (M ++ [(⟨i, a7, C, c7, a8, P, c8⟩ : Cm)])) = some (appC T ⟨i, C, P⟩)) := by
                rw [Hid, cgs_app]; exact (rowC_snoc_some HR.out _).trans (if_pos hmC.out)
              have hck : Hid (CmOk wc ⟨i, a7, C, c7, a8, P, c8⟩) := ⟨by unfold ir; simp only; omega, HF.out.sc, HF.out.sl, HF.out.cc, HF.out.pc⟩
              have e0 := HF.out.c0; have e1 := HF.out.c1; have e2 := HF.out.c2
              have hXr := HF.out.hX
              have hwc := HF.out.hwr
              have hzc := hwc.size
              have haL : ∀ j, Blk aL j → j < wr.heap.size := fun j hj => (HO.out.lt hj).2
              have nX : ¬ Blk aL X := fun h => by have := haL _ h; omega
              have hXl := World.block_lt_of_cell? wc _ e0
              have hap := hid ((apply_c aT a7 a8 cT c7 c8 T C P i wc (HT.out.sl.bel hwc) HF.out.sc HF.out.sl hTc (by unfold ir; omega)).mono fun e w' h => app_yes hmC.out h)
              have hnl : Hid ((appC T ⟨i, C, P⟩).length = T.length - C.length + P.length) := appC_len hmC.out
              have hCT : C.length ≤ T.length := by omega
              have hP30 := hP10
              have HaL := hid haL
              have Hwc := hid hwc
              have hbz := hb.size
              clear haL hik hPl hwc hT
              go_wp2_with fail
              refine hap.out.mono ?_
              rintro e w6 ⟨aN, cN, N, rfl, hN, hoN, hb6⟩
              have hNl : N.length = T.length - C.length + P.length := by rw [hN.out]; exact hnl.out
              have hne : ((N.length : Int) != (T.length : Int) - (C.length : Int) + (P.length : Int)) = false := by simp; omega
              have hTx6 : Hid (Sl w6 aN N ∧ N.length ≤ cN ∧ may N = true ∧ N.length ≤ 1000 ∧ (N = [] ∨ Off aN (Blk aL))) := ⟨hoN.sl, hoN.cap, by rw [hN.out]; exact hmT.out.1, by rw [hN.out]; exact hmT.out.2, .inr fun ad ha hb' => by have := (hoN.lt ⟨ad, ha, rfl⟩).1; have := HaL.out _ hb'; omega⟩
              clear hNl
              have hw6 := hid (bthen Hwc.out hb6)
              have q0 : w6.cell? ⟨X, 0, none⟩ = some (.int .i64 i) := by rw [hb6.cell (by exact hXl)]; exact e0
              have q1 : w6.cell? ⟨X, 1, none⟩ = some (.slice a7 C.length c7) := by rw [hb6.cell (by exact hXl)]; exact e1
              have q2 : w6.cell? ⟨X, 2, none⟩ = some (.slice a8 P.length c8) := by rw [hb6.cell (by exact hXl)]; exact e2
              have hck6 := hid (hck.out.bel hb6)
              have hz6 := hb6.size
              have Hb6 := hid hb6
              clear hoN hb6 hck
              have hbase : w2.heap.size ≤ (w6.alloc (.cells #[.int .i64 i, .slice a7 C.length c7, .slice a8 P.length c8] 24)).heap.size := by simp; omega
              have HOc : Hid (COwn (w6.alloc (.cells #[.int .i64 i, .slice a7 C.length c7, .slice a8 P.length c8] 24)) w2.heap.size aL cL M) := (HO.out.grow hw6.out).grow (bal (Below.refl _ _) _)
              go_wp2_with ((at_builtin; (refine wpL_capp rfl (.tmp 82) (.tmp 84) rfl w2.heap.size aL (some ⟨w6.heap.size, 0, none⟩) M.length 1 cL 1 M [(⟨i, a7, C, c7, a8, P, c8⟩ : Cm)] rfl (by first | rfl | simp | omega) HOc.out rfl (by first | rfl | simp | omega) (CSl.lit w6 ⟨i, a7, C, c7, a8, P, c8⟩ _ _ rfl _ rfl) (by simp; omega) hbase ?_); intro a19 c19 w19 L19 Hl19 ho19 hb19 hk19 hA19; have HA19 := hid hA19; clear hA19; have Ho19 := hid ho19; clear ho19; have Hk19 := hid hk19; clear hk19; have hz19 := hb19.size))
              have hq1 : Below w6.heap.size w6 (w6.alloc (.cells #[.int .i64 i, .slice a7 C.length c7, .slice a8 P.length c8] 24)) := bal (Below.refl _ _) _
              have hsn : Hid (CsRd w19 a19 L19) := by rw [Hl19.out]; exact HC2.out.snoc HO.out (bthen hw6.out hq1) (hck6.out.bel hq1) (.inr HF.out.bc) (.inr HF.out.blk) Hk19.out HA19.out
              have hL8 : L19.length ≤ k + 1 := by rw [Hl19.out]; simp; omega
              have hRr8 : Hid (rowC S (cgs L19) = some N) := by rw [Hid, Hl19.out, hN.out]; exact hRr.out
              have hTx8 : Hid (Txt w19 aN cN N a19) := ⟨sl_kept (hTx6.out.1.bel hq1) hTx6.out.2.2.2.2 Hk19.out, hTx6.out.2.1, hTx6.out.2.2.1, hTx6.out.2.2.2.1, off_at hTx6.out.1 hTx6.out.2.2.2.2 hq1.size HA19.out⟩
              have hB8 : Hid (Below w2.heap.size w2 w19) := ((bthen hb hw6.out).trans (hq1.mono (bthen hb hw6.out).size)).trans hb19
              clear hb19 hz19 hne hq1
              go_roundw
              case rel => exact ⟨k + 1, aN, cN, N, a19, c19, L19, by omega, by go_num, rfl, rfl, hL8, hRr8, hTx8, Ho19, hsn, hB8.out⟩
              case measure => simp [intOf]; omega
          · go_wp2
            go_meet
            exact ⟨aT, cT, aL, cL, M, T, rfl, rfl, by omega, HR, hid HT.out.sl, HO, HC2, hb⟩
        · go_wp2
          go_meet
          exact ⟨aT, cT, aL, cL, M, T, rfl, rfl, by omega, HR, hid HT.out.sl, HO, HC2, hb⟩
      · go_wp2
        go_meet
        exact ⟨aT, cT, aL, cL, M, T, rfl, rfl, by omega, HR, hid HT.out.sl, HO, HC2, hb⟩
  case rest =>
    obtain ⟨aT, cT, aL, cL, M, T, rfl, rfl, hM12, HR, HT, HO, HC2, hb⟩ := hcut
    have hxc : Below W.heap.size W wc := hx2.trans (hb.mono hWz)
    have RB := hid (row_back HR.out)
    have hv0 : Below wc.heap.size wc wc := Below.refl _ _
    have DD : Hid (∀ w', Below wc.heap.size wc w' → CSl w' aL M ∧ Cms w' M ∧ Sl w' aS S ∧ Sl w' aT T) := fun w' hb' => ⟨HO.out.sl.bel hb', HC2.out.cms.bel hb', (SS.out _ (bthen hb hb')).1, HT.out.bel hb'⟩
    clear HO HC2 HT SS SSp
    go_wp2_with fail
    refine ((crow_c aS aL cS cL S M wc (DD.out _ hv0).2.2.1 (DD.out _ hv0).1 (DD.out _ hv0).2.1).mono fun e w' h => rows_yes HR.out h).mono ?_
    rintro e w4 ⟨a5, c5, A1, rfl, hAe, ho5, hb4⟩
    obtain rfl : T = A1 := hAe.out.symm
    have S5 := hid ho5.sl
    have hv4 : Below wc.heap.size wc w4 := hb4
    clear ho5 hb4 hAe
    go_wp2_with fail
    refine (back_c aL cL M w4 (DD.out _ hv4).1 (DD.out _ hv4).2.1).mono ?_
    rintro e w5 ⟨a6, c6, M1, rfl, hM1, hO1, hS1, hb5⟩
    have hv5 : Below wc.heap.size wc w5 := bthen hv4 hb5
    have S5' := hid (S5.out.bel hb5)
    have hr2 := hid ((crow_c a5 a6 c5 c6 T M1 w5 S5'.out hO1.sl hS1.cms).mono fun e w' h => rows_yes (show rowC T (cgs M1) = some S by rw [hM1.out]; exact RB.out) h)
    clear hO1 hS1 hb5 S5
    go_wp2_with fail
    refine hr2.out.mono ?_
    rintro e w6 ⟨a7, c7, B1, rfl, hBe, ho7, hb6⟩
    obtain rfl : S = B1 := hBe.out.symm
    have hv6 : Below wc.heap.size wc w6 := bthen hv5 hb6
    have S7 : Hid (∀ w', Below w6.heap.size w6 w' → Sl w' a7 S ∧ Sl w' a5 T) := fun w' hb' => ⟨ho7.sl.bel hb', (S5'.out.bel hb6).bel hb'⟩
    have hu0 : Below w6.heap.size w6 w6 := Below.refl _ _
    clear ho7 hb6 hBe S5' hr2
    go_wp2_with fail
    refine (rsame_v a5 aT c5 cT T T w6 (S7.out _ hu0).2 (DD.out _ hv6).2.2.2 (eqM_self T)).mono ?_
    rintro e w' ⟨rfl, n1, rfl⟩
    have hu1 : Below w6.heap.size w6 (w6.drewN n1) := bdrewN hu0 _
    generalize w6.drewN n1 = w7 at hu1 ⊢
    have hv7 : Below wc.heap.size wc w7 := bthen hv6 hu1
    go_wp2_with fail
    refine (rsame_v a7 aS c7 cS S S w7 (S7.out _ hu1).1 (DD.out _ hv7).2.2.1 (eqM_self S)).mono ?_
    rintro e w' ⟨rfl, n2, rfl⟩
    have hv8 : Below wc.heap.size wc (w7.drewN n2) := bdrewN hv7 _
    generalize w7.drewN n2 = w8 at hv8 ⊢
    go_wp2_with fail
    refine (known_c w8).mono ?_
    rintro e w14 ⟨rfl, hb14⟩
    go_wp2
    go_ret
    exact ⟨rfl, bthen hxc (bthen hv8 hb14)⟩
end Go.Proofs.Ytnaipahapdjakaa
