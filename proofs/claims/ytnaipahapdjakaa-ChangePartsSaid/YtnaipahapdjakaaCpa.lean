/- The walk of ChangeParts. -/
import Derived.Test.YtnaipahapdjakaaCfm
import Derived.Deep.RegionHeld3
namespace Go.Proofs.Ytnaipahapdjakaa
open Go.RowKit

set_option maxHeartbeats 16000000 in
theorem parts_w (a aA aC aQ : Option Addr) (c cA cC cQ : Nat) (l A0 C0 Q0 : List Int) (x4 : Int) (W : World) (h : Sl W a l) (hA : I.Sl W aA A0) (hC : I.Sl W aC C0) (hQ : Sl W aQ Q0) (hc : l.length ≤ c) (hcQ : Q0.length ≤ cQ) :
    Calls Try.prog 8 #[.slice a l.length c, .slice aA A0.length cA, .slice aC C0.length cC, .slice aQ Q0.length cQ, .int .i64 x4] W fun e w' => e = .returned (.bool true) ∧ Below W.heap.size W w' := by
  have hAl := hA.len
  have hCl := hC.len
  have HQ : Hid (∀ w', Below W.heap.size W w' → Sl w' aQ Q0) := fun w' hb => hQ.bel hb
  have HA : Hid (∀ w', Below W.heap.size W w' → I.Sl w' aA A0) := fun w' hb => hA.bel hb
  have HC : Hid (∀ w', Below W.heap.size W w' → I.Sl w' aC C0) := fun w' hb => hC.bel hb
  clear hQ hA hC
  go_enter Try.func8, Try.ntmps8
  go_wp2_with fail
  refine (cut_c a c l 100 W h hc (by omega)).mono ?_
  rintro e w' ⟨a1, c1, L1, rfl, hL1, s1, hc1, rfl⟩
  have hl1 : L1.length ≤ 100 := by rw [hL1.out]; simp; omega
  have S1 := hid s1
  clear s1 hL1 hc1 h
  go_wp2_with fail
  refine ((clean_c a1 c1 L1 W S1.out).mono fun e w' h => h.n).mono ?_
  rintro e w1 ⟨aS, cS, S, rfl, hS, hoS, hb1⟩
  have hSl : S.length ≤ 100 := by rw [hS.out, cln_len]; exact hl1
  have hSm : Hid (may S = true) := by rw [hS.out]; exact cln_may L1
  have hcS := hoS.cap
  have HS1 := hid hoS.sl
  clear hoS S1 hS
  go_wp2_with fail
  refine (cut_c aQ cQ Q0 10 w1 (HQ.out _ hb1) hcQ (by omega)).mono ?_
  rintro e w' ⟨a2, c2, L2, rfl, hL2, s2, hc2, rfl⟩
  have hl2 : L2.length ≤ 10 := by rw [hL2.out]; simp; omega
  have S2 := hid s2
  clear s2 hL2 hc2
  go_wp2_with fail
  refine ((clean_c a2 c2 L2 w1 S2.out).mono fun e w' h => h.n).mono ?_
  rintro e w2 ⟨aP, cP, Q, rfl, hQ2, hoP, hb2⟩
  have hQl : Q.length ≤ 10 := by rw [hQ2.out, cln_len]; exact hl2
  have hQm : Hid (may Q = true) := by rw [hQ2.out]; exact cln_may L2
  have hx2 : Below W.heap.size W w2 := bthen hb1 hb2
  have SS : Hid (∀ w', Below w2.heap.size w2 w' → Sl w' aS S ∧ Sl w' aP Q) := fun w' hb => ⟨(HS1.out.bel hb2).bel hb, hoP.sl.bel hb⟩
  have hltS : Hid (S = [] ∨ ∀ ad, aS = some ad → ad.block < w2.heap.size) := by
    by_cases h0 : S = []
    · exact .inl h0
    · exact .inr (sl_lt (HS1.out.bel hb2) h0)
  clear hoP S2 hQ2 HQ hb1 hb2
  have hWz : W.heap.size ≤ w2.heap.size := hx2.size
  go_upto_block 0 with fail
  go_cut [12] (fun lv wc => ∃ (aL : Option Addr) (cL : Nat) (M : List Cm) (T : List Int), lv = .slice aL M.length cL ∧ M.length ≤ 12 ∧ Hid (rowC S (cgs M) = some T) ∧ Hid (COwn wc w2.heap.size aL cL M) ∧ Hid (CsRd wc aL M) ∧ Below w2.heap.size w2 wc)
  case first =>
    go_wp2_with fail
    go_loopw [11, 12, 13] (fun tv lv iv wr => ∃ (k : Nat) (aT : Option Addr) (cT : Nat) (T : List Int) (aL : Option Addr) (cL : Nat) (M : List Cm), k ≤ 12 ∧ iv = .int .i64 k ∧ tv = .slice aT T.length cT ∧ lv = .slice aL M.length cL ∧ M.length ≤ k ∧ Hid (rowC S (cgs M) = some T) ∧ Hid (Txt wr aT cT T aL) ∧ Hid (COwn wr w2.heap.size aL cL M) ∧ Hid (CsRd wr aL M) ∧ Below w2.heap.size w2 wr) (fun _ _ iv _ => 12 - (intOf iv).toNat)
    case atStart => exact ⟨0, aS, cS, S, none, 0, [], by omega, rfl, rfl, rfl, by simp, hid rfl, hid ⟨(SS.out _ (Below.refl _ _)).1, hcS, hSm.out, by omega, .inr (fun ad _ hb => by obtain ⟨ae, h0, _⟩ := hb; cases h0)⟩, COwn.nil _ _, CsRd.nil _ _, Below.refl _ _⟩
    case round =>
      obtain ⟨k, aT, cT, T, aL, cL, M, hk, rfl, rfl, rfl, hMk, HR, HT, HO, HC2, hb⟩ := hrel
      have hxr : Below W.heap.size W wr := hx2.trans (hb.mono hWz)
      by_cases hkA : k < A0.length
      · by_cases hkC : k < C0.length
        · by_cases hk12 : k < 12
          · obtain ⟨bA, oA, rfl, hcA⟩ := (HA.out _ hxr).at hkA
            obtain ⟨bC, oC, rfl, hcC⟩ := (HC.out _ hxr).at hkC
            have x0 := hcA k hkA
            have y0 := hcC k hkC
            have hbA := World.block_lt_of_cell? wr _ x0
            have hbC := World.block_lt_of_cell? wr _ y0
            generalize gt A0 k = av at x0
            generalize gt C0 k = cv at y0
            have KD : Hid (∀ w', Below wr.heap.size wr w' → w'.cell? ⟨bA, oA + k, none⟩ = some (.int .i64 av) ∧ w'.cell? ⟨bC, oC + k, none⟩ = some (.int .i64 cv)) := fun w' hb' => by
              refine ⟨?_, ?_⟩
              · rw [hb'.cell (by exact hbA)]; exact x0
              · rw [hb'.cell (by exact hbC)]; exact y0
            have FT : Hid (∀ w', Below wr.heap.size wr w' → Sl w' aT T ∧ Sl w' aP Q) := fun w' hb' => ⟨HT.out.sl.bel hb', (SS.out _ (bthen hb hb')).2⟩
            have hTc := HT.out.cap
            have hTl := HT.out.len
            clear hcA hcC
            go_upto_region 8 with fail
            go_cut [14] (fun s8 wc => ∃ (X i kc r : Nat) (C P : List Int) (a7 : Option Addr) (c7 : Nat) (a8 : Option Addr) (c8 : Nat), s8 = .pointer (some ⟨X, 0, none⟩) ∧ i + C.length ≤ T.length ∧ Hid (C = (T.drop i).take kc ∧ C.length = kc) ∧ Hid (P = Q.take r) ∧ P.length + (T.length - C.length) ≤ 1000 ∧ P.length ≤ 10 ∧ Hid (FitM w2 wr wc X i C P a7 c7 a8 c8))
            case first =>
              have hx0 : Below w2.heap.size w2 wr.drew := hb.drew
              have hy0 : Below wr.heap.size wr wr.drew := (Below.refl _ _).drew
              have hz0 := hb.size
              go_region_held3 (fun w' => Below w2.heap.size w2 w' ∧ Below wr.heap.size wr w' ∧ w'.cell? ⟨bA, oA + k, none⟩ = some (.int .i64 av) ∧ w'.cell? ⟨bC, oC + k, none⟩ = some (.int .i64 cv)) (first | assumption | exact ⟨by assumption, by assumption, by assumption, by assumption⟩ | (refine ⟨(by (repeat' (first | exact Below.refl _ _ | assumption | refine bdrewN ?_ _ | refine Below.drew ?_ | refine bal ?_ _ | refine bthen ?_ (by assumption)))), (by (repeat' (first | exact Below.refl _ _ | assumption | refine bdrewN ?_ _ | refine Below.drew ?_ | refine bal ?_ _ | refine bthen ?_ (by assumption)))), ?_, ?_⟩ <;> go_keep) | (refine ⟨(((hx7.setCell (by first | omega | (simp; done) | (simp; omega)) _).setCell (by first | omega | (simp; done) | (simp; omega)) _).setCell (by first | omega | (simp; done) | (simp; omega)) _), (((hy7.setCell (by first | omega | (simp; done) | (simp; omega)) _).setCell (by first | omega | (simp; done) | (simp; omega)) _).setCell (by first | omega | (simp; done) | (simp; omega)) _), ?_, ?_⟩ <;> first | exact (KD.out _ (((hy7.setCell (by first | omega | (simp; done) | (simp; omega)) _).setCell (by first | omega | (simp; done) | (simp; omega)) _).setCell (by first | omega | (simp; done) | (simp; omega)) _)).1 | exact (KD.out _ (((hy7.setCell (by first | omega | (simp; done) | (simp; omega)) _).setCell (by first | omega | (simp; done) | (simp; omega)) _).setCell (by first | omega | (simp; done) | (simp; omega)) _)).2) | go_keep)
                (first | (go_at_call 11; refine (fit_c aT aP cT cP T Q av cv _ (FT.out _ (by (repeat' (first | exact Below.refl _ _ | assumption | refine bdrewN ?_ _ | refine Below.drew ?_ | refine bal ?_ _ | refine bthen ?_ (by assumption))))).1 (FT.out _ (by (repeat' (first | exact Below.refl _ _ | assumption | refine bdrewN ?_ _ | refine Below.drew ?_ | refine bal ?_ _ | refine bthen ?_ (by assumption))))).2 hTc hTl (by omega)).mono ?_; rintro e w7 ⟨i, kc, r, C, P, a7, c7, a8, c8, rfl, hC, hik, HCk, HP, hPl, ho7, s8, hc8, hblk, hb7⟩; have HhC := hid hC; clear hC; have Ho7 := hid ho7; have hx7 : Below w2.heap.size w2 w7 := bthen (by (repeat' (first | exact Below.refl _ _ | assumption | refine bdrewN ?_ _ | refine Below.drew ?_ | refine bal ?_ _ | refine bthen ?_ (by assumption)))) hb7; have hy7 : Below wr.heap.size wr w7 := bthen (by (repeat' (first | exact Below.refl _ _ | assumption | refine bdrewN ?_ _ | refine Below.drew ?_ | refine bal ?_ _ | refine bthen ?_ (by assumption)))) hb7; have hz7 := hb7.size; (try (have z0 : w7.cell? ⟨wr.heap.size, 0, none⟩ = some (.int .i64 0) := (hb7.cell (p := ⟨wr.heap.size, 0, none⟩) (by first | assumption | (simp; done) | (simp; omega))).trans (by first | assumption | (simp; done)); have g0 : w7.frozen? ⟨wr.heap.size, 0, none⟩ = false := (hb7.frozen (p := ⟨wr.heap.size, 0, none⟩) (by first | assumption | (simp; done) | (simp; omega))).trans (by first | assumption | (simp; done)); have z1 : w7.cell? ⟨wr.heap.size, 1, none⟩ = some (.slice none 0 0) := (hb7.cell (p := ⟨wr.heap.size, 1, none⟩) (by first | assumption | (simp; done) | (simp; omega))).trans (by first | assumption | (simp; done)); have g1 : w7.frozen? ⟨wr.heap.size, 1, none⟩ = false := (hb7.frozen (p := ⟨wr.heap.size, 1, none⟩) (by first | assumption | (simp; done) | (simp; omega))).trans (by first | assumption | (simp; done)); have z2 : w7.cell? ⟨wr.heap.size, 2, none⟩ = some (.slice none 0 0) := (hb7.cell (p := ⟨wr.heap.size, 2, none⟩) (by first | assumption | (simp; done) | (simp; omega))).trans (by first | assumption | (simp; done)); have g2 : w7.frozen? ⟨wr.heap.size, 2, none⟩ = false := (hb7.frozen (p := ⟨wr.heap.size, 2, none⟩) (by first | assumption | (simp; done) | (simp; omega))).trans (by first | assumption | (simp; done)); have gx : wr.heap.size < w7.heap.size := World.block_lt_of_cell? _ _ z0)); have kk := KD.out _ hy7; obtain ⟨m1, m2⟩ := kk))
              all_goals
                go_wp2_with fail
                go_meet
                have hPm : P.length ≤ 10 := by rw [HP.out, List.length_take]; omega
                have hcb : ∀ ad, a7 = some ad → _ ≤ ad.block := fun ad ha => (Ho7.out.lt ⟨ad, ha, rfl⟩).1
                first
                | exact ⟨_, i, kc, r, C, P, a7, c7, a8, c8, rfl, by rw [HhC.out]; exact hik, hid ⟨HCk.out, HhC.out⟩, HP, by rw [HhC.out]; exact hPl, hPm, hid (FitM.late _ hx7 hy7 Ho7.out.sl s8 Ho7.out.cap hc8 (fun ad ha => by have hq := hcb ad ha; first | omega | (simp at hq; omega)) (fun ad ha => by have hq := hblk ad ha; first | omega | (simp at hq; omega)))⟩
                | exact ⟨_, i, kc, r, C, P, a7, c7, a8, c8, rfl, by rw [HhC.out]; exact hik, hid ⟨HCk.out, HhC.out⟩, HP, by rw [HhC.out]; exact hPl, hPm, hid (FitM.early hx7 hy7 (by omega) (by omega) z0 z1 z2 Ho7.out.sl s8 Ho7.out.cap hc8 (fun ad ha => by have hq := hcb ad ha; first | omega | (simp at hq; omega)) (fun ad ha => by have hq := hblk ad ha; first | omega | (simp at hq; omega)))⟩
            case rest =>
              obtain ⟨X, i, kc, r, C, P, a7, c7, a8, c8, rfl, hik, HCk, HP, hPl, hP10, HF⟩ := hcut
              have hmP : Hid (may P = true) := by rw [Hid, HP.out]; exact may_sub hQm.out fun _ hx => List.mem_of_mem_take hx
              have hT := HT.out
              have hmC : Hid (mayC T ⟨i, C, P⟩ = true) := fit_mayC (k := C.length) (by rw [HCk.out.2]; exact HCk.out.1) rfl hik hT.may hT.len hmP.out hPl
              have hmT : Hid (may (appC T ⟨i, C, P⟩) = true ∧ (appC T ⟨i, C, P⟩).length ≤ 1000) := ⟨appC_may hmC.out hT.may, appC_le hmC.out⟩
              have hil : i ≤ 1000 := by have := hT.len; omega
              have hRr : Hid (rowC S (cgs (M ++ [(⟨i, a7, C, c7, a8, P, c8⟩ : Cm)])) = some (appC T ⟨i, C, P⟩)) := by
                rw [Hid, cgs_app]; exact (rowC_snoc_some HR.out _).trans (if_pos hmC.out)
              have hck : Hid (CmOk wc ⟨i, a7, C, c7, a8, P, c8⟩) := ⟨by unfold ir; simp only; omega, HF.out.sc, HF.out.sl, HF.out.cc, HF.out.pc⟩
              have e0 := HF.out.c0; have e1 := HF.out.c1; have e2 := HF.out.c2
              have hXr := HF.out.hX
              have hwc := HF.out.hwr
              have hzc := hwc.size
              have haL : ∀ j, Blk aL j → j < wr.heap.size := fun j hj => (HO.out.lt hj).2
              have nX : ¬ Blk aL X := fun h => by have := haL _ h; omega
              have hXl := World.block_lt_of_cell? wc _ e0
              have HaL := hid haL
              have hq1 : Below wc.heap.size wc (wc.alloc (.cells #[.int .i64 i, .slice a7 C.length c7, .slice a8 P.length c8] 24)) := bal (Below.refl _ _) _
              have KB : Hid (∀ w', Kpt (Blk aL) (wc.alloc (.cells #[.int .i64 i, .slice a7 C.length c7, .slice a8 P.length c8] 24)) w' → w'.cell? ⟨X, 0, none⟩ = some (.int .i64 i) ∧ w'.cell? ⟨X, 1, none⟩ = some (.slice a7 C.length c7) ∧ w'.cell? ⟨X, 2, none⟩ = some (.slice a8 P.length c8)) := by
                intro w' hk'
                refine ⟨hk'.cell ?_ nX, hk'.cell ?_ nX, hk'.cell ?_ nX⟩
                · rw [hq1.cell (by exact hXl)]; exact e0
                · rw [hq1.cell (by exact hXl)]; exact e1
                · rw [hq1.cell (by exact hXl)]; exact e2
              have hbase : w2.heap.size ≤ (wc.alloc (.cells #[.int .i64 i, .slice a7 C.length c7, .slice a8 P.length c8] 24)).heap.size := by have := hb.size; simp; omega
              have HOc : Hid (COwn (wc.alloc (.cells #[.int .i64 i, .slice a7 C.length c7, .slice a8 P.length c8] 24)) w2.heap.size aL cL M) := (HO.out.grow hwc).grow hq1
              have Hwc := hid hwc
              clear haL nX hik hPl hwc hT
              go_upto_region 10 with ((at_builtin; (refine wpL_capp rfl (.tmp 56) (.tmp 58) rfl w2.heap.size aL (some ⟨wc.heap.size, 0, none⟩) M.length 1 cL 1 M [(⟨i, a7, C, c7, a8, P, c8⟩ : Cm)] rfl (by first | rfl | simp | omega) HOc.out rfl (by first | rfl | simp | omega) (CSl.lit wc ⟨i, a7, C, c7, a8, P, c8⟩ _ _ rfl _ rfl) (by simp; omega) hbase ?_); intro a6 c6 w6 L6 Hl6 ho6 hb6 hk6 hA6; have HA6 := hid hA6; clear hA6; have Ho6 := hid ho6; clear ho6; have Hk6 := hid hk6; clear hk6; have hz6 := hb6.size); obtain ⟨q0, q1, q2⟩ := KB.out _ Hk6.out)
              have hsn : CsRd w6 a6 L6 := by rw [Hl6.out]; exact HC2.out.snoc HO.out (bthen Hwc.out hq1) (hck.out.bel hq1) (.inr HF.out.bc) (.inr HF.out.blk) Hk6.out HA6.out
              have hmem : (⟨i, a7, C, c7, a8, P, c8⟩ : Cm) ∈ L6 := by rw [Hl6.out]; simp
              have hT6 : Hid (Sl w6 aT T) := sl_kept ((HT.out.sl.bel Hwc.out).bel hq1) HT.out.off Hk6.out
              have hP6 : Hid (Sl w6 a7 C ∧ Sl w6 a8 P) := ⟨(hsn _ hmem).ok.cut, (hsn _ hmem).ok.put⟩
              have Hsn := hid hsn
              have hL6 : L6.length ≤ k + 1 := by rw [Hl6.out]; simp; omega
              have hRr6 : Hid (rowC S (cgs L6) = some (appC T ⟨i, C, P⟩)) := by rw [Hid, Hl6.out]; exact hRr.out
              have hB6 : Below w2.heap.size w2 w6 := ((bthen hb Hwc.out).trans ((bal (Below.refl _ _) _).mono (bthen hb Hwc.out).size)).trans hb6
              have hap := hid ((rapply_c aT a7 a8 cT c7 c8 T C P i w6 hT6.out hP6.out.1 hP6.out.2 hTc (by unfold ir; omega)).mono fun e w' h => app_yes hmC.out h)
              clear hsn hmem hRr hck
              go_wp2_with fail
              refine hap.out.mono ?_
              rintro e w8 ⟨aN, cN, N, rfl, hN, hoN, hb8⟩
              have HoN := hid hoN
              have hTx : Hid (Txt w8 aN cN N a6) := ⟨hoN.sl, hoN.cap, by rw [hN.out]; exact hmT.out.1, by rw [hN.out]; exact hmT.out.2, .inr fun ad ha hb' => by have := (hoN.lt ⟨ad, ha, rfl⟩).1; have := (Ho6.out.lt hb').2; omega⟩
              have hb8' := hid hb8
              clear hoN hb8
              go_wp2
              go_roundw
              case rel => exact ⟨k + 1, aN, cN, N, a6, c6, L6, by omega, by go_num, rfl, rfl, hL6, hid (by rw [hRr6.out, hN.out]), hTx, hid (Ho6.out.grow hb8'.out), hid (Hsn.out.bel hb8'.out), bthen hB6 hb8'.out⟩
              case measure => simp [intOf]; omega
          · go_wp2
            go_meet
            exact ⟨aL, cL, M, T, rfl, by omega, HR, HO, HC2, hb⟩
        · go_wp2
          go_meet
          exact ⟨aL, cL, M, T, rfl, by omega, HR, HO, HC2, hb⟩
      · go_wp2
        go_meet
        exact ⟨aL, cL, M, T, rfl, by omega, HR, HO, HC2, hb⟩
  case rest =>
    obtain ⟨aL, cL, M, T, rfl, hM12, HR, HO, HC2, hb⟩ := hcut
    have hxc : Below W.heap.size W wc := hx2.trans (hb.mono hWz)
    have hcL := HO.out.cap
    have i1 := index_c x4 (M.length + 1) wc (by omega) (by omega)
    simp only [Int.natCast_add, Int.natCast_one] at i1
    go_wp2_with fail
    refine i1.mono ?_
    rintro e w' ⟨⟨k, hk, rfl⟩, rfl⟩
    clear i1
    obtain ⟨a3, c3, D1, HD1, sD1, hD1, r1⟩ := cslice_to HO.out.sl k cL (by omega) hcL
    obtain ⟨a4, c4, D2, HD2, sD2, hD2, r2⟩ := cslice_from HO.out.sl k cL (by omega) hcL
    have d1l : D1.length ≤ 12 := by rw [HD1.out]; simp; omega
    have d2l : D2.length ≤ 12 := by rw [HD2.out]; simp; omega
    obtain ⟨A, hA1, hA2⟩ := rows_cut HR.out k
    rw [← HD1.out] at hA1
    rw [← HD2.out] at hA2
    have RA1 := hid hA1; have RA2 := hid hA2
    have DD : Hid (∀ w', Below wc.heap.size wc w' → CSl w' a3 D1 ∧ CSl w' a4 D2 ∧ CSl w' aL M ∧ Cms w' D1 ∧ Cms w' D2 ∧ Cms w' M ∧ Sl w' aS S) := fun w' hb' =>
      ⟨sD1.bel hb', sD2.bel hb', HO.out.sl.bel hb', by rw [HD1.out]; exact (HC2.out.cms.bel hb').take k, by rw [HD2.out]; exact (HC2.out.cms.bel hb').drop k, HC2.out.cms.bel hb', (SS.out _ (bthen hb hb')).1⟩
    have HB : Hid (backC (cgs M) = backC (cgs D2) ++ backC (cgs D1)) := by
      rw [Hid, ← backC_app, HD1.out, HD2.out, ← cgs_app, List.take_append_drop]
    have hv0 : Below wc.heap.size wc wc := Below.refl _ _
    clear sD1 sD2 hA1 hA2 HO HC2 HD1 HD2
    go_wp2_with fail
    refine ((crow_c aS a3 cS c3 S D1 wc (DD.out _ hv0).2.2.2.2.2.2 (DD.out _ hv0).1 (DD.out _ hv0).2.2.2.1).mono fun e w' h => rows_yes RA1.out h).mono ?_
    rintro e w4 ⟨a5, c5, A1, rfl, hAe, ho5, hb4⟩
    obtain rfl : A = A1 := hAe.out.symm
    have hv4 : Below wc.heap.size wc w4 := hb4
    have S5 := hid ho5.sl
    clear ho5 hb4 hAe
    go_wp2_with fail
    refine ((crow_c a5 a4 c5 c4 A D2 w4 S5.out (DD.out _ hv4).2.1 (DD.out _ hv4).2.2.2.2.1).mono fun e w' h => rows_yes RA2.out h).mono ?_
    rintro e w5 ⟨a6, c6, B1, rfl, hBe, ho6, hb5⟩
    obtain rfl : T = B1 := hBe.out.symm
    have hv5 : Below wc.heap.size wc w5 := bthen hv4 hb5
    have S6 := hid ho6.sl
    clear ho6 hb5 hBe
    go_wp2_with fail
    refine ((crow_c aS aL cS cL S M w5 (DD.out _ hv5).2.2.2.2.2.2 (DD.out _ hv5).2.2.1 (DD.out _ hv5).2.2.2.2.2.1).mono fun e w' h => rows_yes HR.out h).mono ?_
    rintro e w6 ⟨a7, c7, B2, rfl, hBe, ho7, hb6⟩
    obtain rfl : T = B2 := hBe.out.symm
    have hv6 : Below wc.heap.size wc w6 := bthen hv5 hb6
    have S7 := hid ho7.sl
    have S66 : Hid (∀ w', Below w6.heap.size w6 w' → Sl w' a6 T ∧ Sl w' a7 T) := fun w' hb' => ⟨(S6.out.bel hb6).bel hb', S7.out.bel hb'⟩
    clear ho7 hb6 hBe S6 S7
    go_wp2
    have hu0 : Below w6.heap.size w6 w6.drew := (Below.refl _ _).drew
    have hv7 : Below wc.heap.size wc w6.drew := bthen hv6 hu0
    go_region_held3 (fun w' => Below wc.heap.size wc w') (first | assumption | go_keep)
      (first | (go_at_call 19; (with_reducible refine (back_c a4 c4 D2 _ (DD.out _ hv7).2.1 (DD.out _ hv7).2.2.2.2.1).mono ?_); rintro e w7 ⟨b1, k1, M1, rfl, hM1, hO1, hS1, hb7⟩; have HO1 := hid hO1; have HS1' := hid hS1; have hu1 : Below w6.heap.size w6 w7 := bthen hu0 hb7; have hv8 : Below wc.heap.size wc w7 := bthen hv7 hb7; have m1 : M1.length ≤ 12 := (by have e := congrArg List.length hM1.out; rw [backC_len, cgs_len, cgs_len] at e; omega); clear hO1 hS1 hb7)
                 | (((refine step_capp rfl ((.const (.slice none 0 0))) (.tmp 96) rfl w7.heap.size none b1 0 M1.length 0 k1 [] M1 rfl (by first | rfl | simp | omega) (COwn.nil _ _) rfl (by first | rfl | simp | omega) HO1.out.sl (by simp; omega) (Nat.le_refl _) ?_); intro a8 c8 w8 L8 Hl8 ho8 hb8 hk8 hA8; have HA8 := hid hA8; clear hA8; have Ho8 := hid ho8; clear ho8; have Hk8 := hid hk8; clear hk8; have hz8 := hb8.size); have hu2 : Below w6.heap.size w6 w8 := bthen hu1 hb8; have hv9 : Below wc.heap.size wc w8 := bthen hv8 hb8; have l8 : L8.length ≤ 12 := (by rw [Hl8.out]; simpa using m1))
                 | (go_at_call 19; (with_reducible refine (back_c a3 c3 D1 _ (DD.out _ hv9).1 (DD.out _ hv9).2.2.2.1).mono ?_); rintro e w9 ⟨b2, k2, M2, rfl, hM2, hO2, hS2, hb9⟩; have HO2 := hid hO2; have HS2' := hid hS2; have hu3 : Below w6.heap.size w6 w9 := bthen hu2 hb9; have hv10 : Below wc.heap.size wc w9 := bthen hv9 hb9; have m2 : M2.length ≤ 12 := (by have e := congrArg List.length hM2.out; rw [backC_len, cgs_len, cgs_len] at e; omega); have Hb9 := hid hb9; have hz9 := hb9.size; clear hO2 hS2 hb9)
                 | (((refine step_capp rfl (.tmp 97) (.tmp 101) rfl w7.heap.size a8 b2 L8.length M2.length c8 k2 L8 M2 rfl (by first | rfl | simp | omega) (Ho8.out.grow Hb9.out) rfl (by first | rfl | simp | omega) HO2.out.sl (by omega) (by omega) ?_); intro a10 c10 w10 L10 Hl10 ho10 hb10 hk10 hA10; have HA10 := hid hA10; clear hA10; have Ho10 := hid ho10; clear ho10; have Hk10 := hid hk10; clear hk10; have hz10 := hb10.size); have hu4 : Below w6.heap.size w6 w10 := Below.trans hu3 (hb10.mono hu1.size); have hv11 : Below wc.heap.size wc w10 := bthen hv6 hu4))
    have hb8c := hb8
    have O10 : Hid (CSl w10 a10 L10) := Ho10.out.sl
    have C10 : Hid (Cms w10 L10) := by
      have e : L10 = M1 ++ M2 := by rw [Hl10.out, Hl8.out]; rfl
      rw [Hid, e]
      refine Cms.app (fun m hm => ?_) (fun m hm => ?_)
      · have o := (((HS1'.out.each m hm).1.grow hb8).grow Hb9.out)
        refine (o.kpt Hk10.out fun j hj hj2 => ?_).ok
        have := ((HS1'.out.each m hm).1.lt hj).2
        have := (Ho8.out.lt hj2).1
        omega
      · have o := (HS2'.out.each m hm).1
        refine (o.kpt Hk10.out fun j hj hj2 => ?_).ok
        have := (o.lt hj).1
        have := (Ho8.out.lt hj2).2
        omega
    have E10 : Hid (cgs L10 = backC (cgs M)) := by
      have e : L10 = M1 ++ M2 := by rw [Hl10.out, Hl8.out]; rfl
      rw [Hid, e, cgs_app, hM1.out, hM2.out, HB.out]
    have Hu4 := hid hu4
    clear hb8c hb8 hb10 hz8 hz10 hM1 hM2 HA8 HA10 Hk8 Hk10 Hl8 Hl10 HO1 HO2 HS1' HS2' Ho8 Ho10 hu0 hu1 hu2 hu3 hv7 hv8 hv9 hv10
    go_wp2_with fail
    refine (rsame_v a6 a7 c6 c7 T T w10 (S66.out _ Hu4.out).1 (S66.out _ Hu4.out).2 (eqM_self T)).mono ?_
    rintro e w' ⟨rfl, n1, rfl⟩
    have hp1 : Below w10.heap.size w10 (w10.drewN n1) := bdrewN (Below.refl _ _) _
    generalize w10.drewN n1 = w11 at hp1 ⊢
    have hv12 : Below wc.heap.size wc w11 := bthen hv11 hp1
    go_wp2_with fail
    refine (back_c aL cL M w11 (DD.out _ hv12).2.2.1 (DD.out _ hv12).2.2.2.2.2.1).mono ?_
    rintro e w12 ⟨b3, k3, M3, rfl, hM3, hO3, hS3, hb12⟩
    have hp2 : Below w10.heap.size w10 w12 := bthen hp1 hb12
    have hsc := hid (sameChanges_c b3 a10 k3 c10 M3 L10 w12 hO3.sl (O10.out.bel hp2) hS3.cms (C10.out.bel hp2) (by rw [hM3.out, E10.out]))
    clear hO3 hS3
    go_wp2_with fail
    refine hsc.out.mono ?_
    rintro e w13 ⟨rfl, hb13⟩
    have hp3 : Below w10.heap.size w10 w13 := bthen hp2 hb13
    clear hsc hb13 hb12
    go_wp2_with fail
    refine (known_c w13).mono ?_
    rintro e w14 ⟨rfl, hb14⟩
    go_wp2
    go_ret
    exact ⟨rfl, bthen hxc (bthen hv11 (bthen hp3 hb14))⟩
end Go.Proofs.Ytnaipahapdjakaa
