/- The walk of ChangeRows. -/
import Derived.Test.YtnaipahapdjakaaCfm
import Derived.Deep.RegionHeld3
namespace Go.Proofs.Ytnaipahapdjakaa
open Go.RowKit

theorem CSl.take {w : World} {a : Option Addr} {l : List Cm} (h : CSl w a l) (n : Nat) : CSl w a (l.take n) := by
  have hl := h.len
  refine ⟨by rw [List.length_take]; omega, ?_⟩
  rcases h.cells with h0 | ⟨b, off, ha, hc⟩
  · exact .inl (by simp [h0])
  · refine .inr ⟨b, off, ha, fun i hi => ?_⟩
    rw [List.length_take] at hi
    have e : cgt (l.take n) i = cgt l i := by have := cgt_mid l 0 n i (by omega); simpa using this
    rw [e]; exact hc i (by omega)
theorem rows_eq {r : Option (List Int)} {L L' : List Int} {x x' : Int} (h : (r = some L ∧ x = 0) ∨ (r = none ∧ L = [] ∧ x = 1)) (h' : (r = some L' ∧ x' = 0) ∨ (r = none ∧ L' = [] ∧ x' = 1)) : L = L' ∧ x = x' := by
  rcases h with ⟨h1, rfl⟩ | ⟨h1, rfl, rfl⟩
  · rcases h' with ⟨h2, rfl⟩ | ⟨h2, rfl, rfl⟩
    · rw [h1] at h2; simp only [Option.some.injEq] at h2; exact ⟨h2, rfl⟩
    · rw [h1] at h2; cases h2
  · rcases h' with ⟨h2, rfl⟩ | ⟨h2, rfl, rfl⟩
    · rw [h1] at h2; cases h2
    · exact ⟨rfl, rfl⟩
theorem apart_at {l : List Cm} (h : l.Pairwise fun m m' => Dis (bk m) (bk m')) {i j : Nat} (hij : i < j) (hj : j < l.length) : Dis (bk (cgt l j)) (bk (cgt l i)) := by
  have e := List.pairwise_iff_getElem.1 h i j (by omega) hj hij
  rw [cgt_get hj, cgt_get (by omega)]
  exact e.symm
set_option maxRecDepth 20000 in
set_option maxHeartbeats 16000000 in
theorem rows_w (a al : Option Addr) (c cl : Nat) (l : List Int) (M0 : List Cm) (x2 : Bool) (W : World) (h : Sl W a l) (hM : CSl W al M0) (hO : Cms W M0) (hc : l.length ≤ c) (hcl : M0.length ≤ cl) :
    Calls Try.prog 5 #[.slice a l.length c, .slice al M0.length cl, .bool x2] W fun e w' => e = .returned (.bool true) ∧ Below W.heap.size W w' := by
  have hMl := hM.len
  have H0 := hid h
  clear h
  go_enter Try.func5, Try.ntmps5
  go_upto_if 21 with fail
  go_cut [1] (fun lv wc => ∃ (aL : Option Addr) (cL : Nat) (D : List Cm), lv = .slice aL D.length cL ∧ D.length ≤ 20 ∧ D.length ≤ cL ∧ Hid (CSl W aL D) ∧ Hid (Cms W D) ∧ W = wc)
  case first =>
    by_cases h20 : 20 < M0.length
    · have sD := hid (hM.take 20)
      have hDo : Hid (Cms W (M0.take 20)) := hO.take 20
      have hDl : Hid ((M0.take 20).length = 20) := hid (by simp; omega)
      clear hM
      go_wp2
      go_meet
      exact ⟨al, cl, M0.take 20, by rw [hDl.out], by rw [hDl.out]; omega, by rw [hDl.out]; omega, sD, hDo, rfl⟩
    · have HsM := hid hM
      clear hM
      go_wp2
      go_meet
      exact ⟨al, cl, M0, rfl, by omega, hcl, HsM, hid hO, rfl⟩
  case rest =>
    obtain ⟨aL, cL, D, rfl, hD20, hDc, hD, hDo, rfl⟩ := hcut
    have HDs : Hid (∀ w', Below W.heap.size W w' → CSl w' aL D ∧ Cms w' D) := fun w' hb => ⟨hD.out.bel hb, hDo.out.bel hb⟩
    clear hM hO hcl hMl hD hDo
    go_upto_if 24 with fail
    go_cut [0, 1] (fun sv lv w1 => ∃ (aS : Option Addr) (cS : Nat) (S : List Int) (aM : Option Addr) (cM : Nat) (M : List Cm), sv = .slice aS S.length cS ∧ lv = .slice aM M.length cM ∧ M.length ≤ 20 ∧ S.length ≤ cS ∧ Hid (Sl w1 aS S) ∧ Hid (CSl w1 aM M) ∧ Hid (Cms w1 M) ∧ Below W.heap.size W w1)
    case first =>
      cases x2
      · go_wp2
        go_meet
        exact ⟨a, c, l, aL, cL, D, rfl, rfl, hD20, hc, H0, hid (HDs.out _ (Below.refl _ _)).1, hid (HDs.out _ (Below.refl _ _)).2, Below.refl _ _⟩
      · go_wp2_with fail
        refine (cut_c a c l 200 W H0.out hc (by omega)).mono ?_
        rintro e w' ⟨a1, c1, L1, rfl, hL1, s1, hc1, rfl⟩
        have hl1 : L1.length ≤ 200 := by rw [hL1.out]; simp; omega
        have S1 := hid s1
        clear s1 hL1 hc1 H0
        go_wp2_with fail
        refine ((clean_c a1 c1 L1 _ S1.out).mono fun e w' h => h.n).mono ?_
        rintro e w2 ⟨aS, cS, S, rfl, hS, hoS, hb2⟩
        have hSl : S.length ≤ 200 := by rw [hS.out, cln_len]; exact hl1
        have hSm : Hid (may S = true) := by rw [hS.out]; exact cln_may L1
        have hcS := hoS.cap
        have SS : Hid (∀ w', Below w2.heap.size w2 w' → Sl w' aS S) := fun w' hb => hoS.sl.bel hb
        have Hb2 := hid hb2
        have hWz := hb2.size
        clear hoS S1 hS hb2
        go_wp2
        go_loopw [7, 8, 9, 31] (fun tv mv _ iv wr => ∃ (k : Nat) (aT : Option Addr) (cT : Nat) (T : List Int) (aM : Option Addr) (cM : Nat) (M : List Cm), k ≤ D.length ∧ iv = .int .i64 k ∧ tv = .slice aT T.length cT ∧ mv = .slice aM M.length cM ∧ M.length ≤ k ∧ Hid (Txt wr aT cT T aM) ∧ Hid (COwn wr w2.heap.size aM cM M) ∧ Hid (CsRd wr aM M) ∧ Below w2.heap.size w2 wr) (fun _ _ _ iv _ => D.length - (intOf iv).toNat)
        case atStart => exact ⟨0, aS, cS, S, none, 0, [], by omega, rfl, rfl, rfl, by simp, hid ⟨SS.out _ (Below.refl _ _), hcS, hSm.out, by omega, .inr (fun ad _ hb => by obtain ⟨ae, h0, _⟩ := hb; cases h0)⟩, COwn.nil _ _, CsRd.nil _ _, Below.refl _ _⟩
        case round =>
          obtain ⟨k, aT, cT, T, aM, cM, M, hk, rfl, rfl, rfl, hMk, HT, HO, HC2, hb⟩ := hrel
          have hxr := bthen Hb2.out hb
          by_cases hkD : k < D.length
          · obtain ⟨b, o, rfl, hcb⟩ := (HDs.out _ hxr).1.at hkD
            obtain ⟨x0, x1, x2⟩ := hcb k hkD
            have okD := (HDs.out _ hxr).2 _ (cgt_mem hkD)
            generalize cgt D k = Y at x0 x1 x2 okD
            obtain ⟨av, pa, PA, pac, qa, QA, qac⟩ := Y
            obtain ⟨-, sPA, sQA, -, hqc⟩ := okD
            simp only at x0 x1 x2 sPA sQA hqc
            have hPAl := sPA.len
            have hbA := World.block_lt_of_cell? wr _ x0
            have KD : Hid (∀ w', Below wr.heap.size wr w' → w'.cell? ⟨b, o + k * 3, none⟩ = some (.int .i64 av) ∧ w'.cell? ⟨b, o + k * 3 + 1, none⟩ = some (.slice pa PA.length pac) ∧ w'.cell? ⟨b, o + k * 3 + 2, none⟩ = some (.slice qa QA.length qac)) := fun w' hb' => by
              refine ⟨?_, ?_, ?_⟩
              · rw [hb'.cell (by exact hbA)]; exact x0
              · rw [hb'.cell (by exact hbA)]; exact x1
              · rw [hb'.cell (by exact hbA)]; exact x2
            have FT : Hid (∀ w', Below wr.heap.size wr w' → Sl w' aT T) := fun w' hb' => HT.out.sl.bel hb'
            have FQ : Hid (∀ w', Below wr.heap.size wr w' → Sl w' qa QA) := fun w' hb' => sQA.bel hb'
            have hTc := HT.out.cap
            have hTl := HT.out.len
            clear hcb sPA sQA
            go_upto_region 10 with fail
            go_cut [10] (fun s8 wk => ∃ (X i kc r : Nat) (C P L5 : List Int) (a7 : Option Addr) (c7 : Nat) (a8 : Option Addr) (c8 : Nat), s8 = .pointer (some ⟨X, 0, none⟩) ∧ i + C.length ≤ T.length ∧ Hid (C = (T.drop i).take kc ∧ C.length = kc) ∧ Hid (P = (cln L5).take r) ∧ P.length + (T.length - C.length) ≤ 1000 ∧ P.length ≤ 30 ∧ Hid (FitM w2 wr wk X i C P a7 c7 a8 c8))
            case first =>
              have hx0 : Below w2.heap.size w2 wr.drew := hb.drew
              have hy0 : Below wr.heap.size wr wr.drew := (Below.refl _ _).drew
              have hz0 := hb.size
              go_region_held3 (fun w' => Below w2.heap.size w2 w' ∧ Below wr.heap.size wr w' ∧ w'.cell? ⟨b, o + k * 3, none⟩ = some (.int .i64 av) ∧ w'.cell? ⟨b, o + k * 3 + 1, none⟩ = some (.slice pa PA.length pac) ∧ w'.cell? ⟨b, o + k * 3 + 2, none⟩ = some (.slice qa QA.length qac)) (first | assumption | exact ⟨by assumption, by assumption, by assumption, by assumption, by assumption⟩ | (refine ⟨(by (repeat' (first | exact Below.refl _ _ | assumption | refine bdrewN ?_ _ | refine Below.drew ?_ | refine bal ?_ _ | refine bthen ?_ (by assumption)))), (by (repeat' (first | exact Below.refl _ _ | assumption | refine bdrewN ?_ _ | refine Below.drew ?_ | refine bal ?_ _ | refine bthen ?_ (by assumption)))), ?_, ?_, ?_⟩ <;> go_keep) | (refine ⟨(((hx7.setCell (by first | omega | (simp; done) | (simp; omega)) _).setCell (by first | omega | (simp; done) | (simp; omega)) _).setCell (by first | omega | (simp; done) | (simp; omega)) _), (((hy7.setCell (by first | omega | (simp; done) | (simp; omega)) _).setCell (by first | omega | (simp; done) | (simp; omega)) _).setCell (by first | omega | (simp; done) | (simp; omega)) _), ?_, ?_, ?_⟩ <;> first | exact (KD.out _ (((hy7.setCell (by first | omega | (simp; done) | (simp; omega)) _).setCell (by first | omega | (simp; done) | (simp; omega)) _).setCell (by first | omega | (simp; done) | (simp; omega)) _)).1 | exact (KD.out _ (((hy7.setCell (by first | omega | (simp; done) | (simp; omega)) _).setCell (by first | omega | (simp; done) | (simp; omega)) _).setCell (by first | omega | (simp; done) | (simp; omega)) _)).2.1 | exact (KD.out _ (((hy7.setCell (by first | omega | (simp; done) | (simp; omega)) _).setCell (by first | omega | (simp; done) | (simp; omega)) _).setCell (by first | omega | (simp; done) | (simp; omega)) _)).2.2) | go_keep)
                (first | (go_at_call 10; refine (cut_c qa qac QA 30 _ (FQ.out _ (by (repeat' (first | exact Below.refl _ _ | assumption | refine bdrewN ?_ _ | refine Below.drew ?_ | refine bal ?_ _ | refine bthen ?_ (by assumption))))) hqc (by omega)).mono ?_; rintro e w' ⟨a5, c5, L5, rfl, HL5, s5, hc5, rfl⟩; have HS5 := hid s5; clear s5)
                           | (go_at_call 9; refine ((clean_c a5 c5 L5 _ (by first | exact HS5.out | exact HS5.out.alloc _)).mono fun e w' h => h.n).mono ?_; rintro e w6 ⟨a6, c6, Q, rfl, HQ, ho6, hb6⟩; have HO6 := hid ho6; have hx6 : Below w2.heap.size w2 w6 := bthen (by (repeat' (first | exact Below.refl _ _ | assumption | refine bdrewN ?_ _ | refine Below.drew ?_ | refine bal ?_ _ | refine bthen ?_ (by assumption)))) hb6; have hy6 : Below wr.heap.size wr w6 := bthen (by (repeat' (first | exact Below.refl _ _ | assumption | refine bdrewN ?_ _ | refine Below.drew ?_ | refine bal ?_ _ | refine bthen ?_ (by assumption)))) hb6; have hz6 := hy6.size; (try (have z0 : w6.cell? ⟨wr.heap.size, 0, none⟩ = some (.int .i64 0) := (hb6.cell (p := ⟨wr.heap.size, 0, none⟩) (by first | assumption | (simp; done) | (simp; omega))).trans (by first | assumption | (simp; done)); have g0 : w6.frozen? ⟨wr.heap.size, 0, none⟩ = false := (hb6.frozen (p := ⟨wr.heap.size, 0, none⟩) (by first | assumption | (simp; done) | (simp; omega))).trans (by first | assumption | (simp; done)); have z1 : w6.cell? ⟨wr.heap.size, 1, none⟩ = some (.slice none 0 0) := (hb6.cell (p := ⟨wr.heap.size, 1, none⟩) (by first | assumption | (simp; done) | (simp; omega))).trans (by first | assumption | (simp; done)); have g1 : w6.frozen? ⟨wr.heap.size, 1, none⟩ = false := (hb6.frozen (p := ⟨wr.heap.size, 1, none⟩) (by first | assumption | (simp; done) | (simp; omega))).trans (by first | assumption | (simp; done)); have z2 : w6.cell? ⟨wr.heap.size, 2, none⟩ = some (.slice none 0 0) := (hb6.cell (p := ⟨wr.heap.size, 2, none⟩) (by first | assumption | (simp; done) | (simp; omega))).trans (by first | assumption | (simp; done)); have g2 : w6.frozen? ⟨wr.heap.size, 2, none⟩ = false := (hb6.frozen (p := ⟨wr.heap.size, 2, none⟩) (by first | assumption | (simp; done) | (simp; omega))).trans (by first | assumption | (simp; done)); have gx : wr.heap.size < w6.heap.size := World.block_lt_of_cell? _ _ z0)); have kk := KD.out _ hy6; obtain ⟨n0, n1, n2⟩ := kk)
                           | (go_at_call 11; refine (fit_c aT a6 cT c6 T Q av PA.length _ (FT.out _ (by (repeat' (first | exact Below.refl _ _ | assumption | refine bdrewN ?_ _ | refine Below.drew ?_ | refine bal ?_ _ | refine bthen ?_ (by assumption))))) (by first | exact HO6.out.sl | exact HO6.out.sl.alloc _) hTc hTl (by rw [HQ.out, cln_len, HL5.out, List.length_take]; omega)).mono ?_; rintro e w7 ⟨i, kc, r, C, P, a7, c7, a8, c8, rfl, hC, hik, HCk, HP, hPl, ho7, s8, hc8, hblk, hb7⟩; have HhC := hid hC; clear hC; have Ho7 := hid ho7; have hx7 : Below w2.heap.size w2 w7 := bthen (by (repeat' (first | exact Below.refl _ _ | assumption | refine bdrewN ?_ _ | refine Below.drew ?_ | refine bal ?_ _ | refine bthen ?_ (by assumption)))) hb7; have hy7 : Below wr.heap.size wr w7 := bthen (by (repeat' (first | exact Below.refl _ _ | assumption | refine bdrewN ?_ _ | refine Below.drew ?_ | refine bal ?_ _ | refine bthen ?_ (by assumption)))) hb7; have hz7 := hb7.size; (try (have z0 : w7.cell? ⟨wr.heap.size, 0, none⟩ = some (.int .i64 0) := (hb7.cell (p := ⟨wr.heap.size, 0, none⟩) (by first | assumption | (simp; done) | (simp; omega))).trans (by first | assumption | (simp; done)); have g0 : w7.frozen? ⟨wr.heap.size, 0, none⟩ = false := (hb7.frozen (p := ⟨wr.heap.size, 0, none⟩) (by first | assumption | (simp; done) | (simp; omega))).trans (by first | assumption | (simp; done)); have z1 : w7.cell? ⟨wr.heap.size, 1, none⟩ = some (.slice none 0 0) := (hb7.cell (p := ⟨wr.heap.size, 1, none⟩) (by first | assumption | (simp; done) | (simp; omega))).trans (by first | assumption | (simp; done)); have g1 : w7.frozen? ⟨wr.heap.size, 1, none⟩ = false := (hb7.frozen (p := ⟨wr.heap.size, 1, none⟩) (by first | assumption | (simp; done) | (simp; omega))).trans (by first | assumption | (simp; done)); have z2 : w7.cell? ⟨wr.heap.size, 2, none⟩ = some (.slice none 0 0) := (hb7.cell (p := ⟨wr.heap.size, 2, none⟩) (by first | assumption | (simp; done) | (simp; omega))).trans (by first | assumption | (simp; done)); have g2 : w7.frozen? ⟨wr.heap.size, 2, none⟩ = false := (hb7.frozen (p := ⟨wr.heap.size, 2, none⟩) (by first | assumption | (simp; done) | (simp; omega))).trans (by first | assumption | (simp; done)); have gx : wr.heap.size < w7.heap.size := World.block_lt_of_cell? _ _ z0)); (try (have z0 : w7.cell? ⟨w6.heap.size, 0, none⟩ = some (.int .i64 0) := (hb7.cell (p := ⟨w6.heap.size, 0, none⟩) (by first | assumption | (simp; done) | (simp; omega))).trans (by first | assumption | (simp; done)); have g0 : w7.frozen? ⟨w6.heap.size, 0, none⟩ = false := (hb7.frozen (p := ⟨w6.heap.size, 0, none⟩) (by first | assumption | (simp; done) | (simp; omega))).trans (by first | assumption | (simp; done)); have z1 : w7.cell? ⟨w6.heap.size, 1, none⟩ = some (.slice none 0 0) := (hb7.cell (p := ⟨w6.heap.size, 1, none⟩) (by first | assumption | (simp; done) | (simp; omega))).trans (by first | assumption | (simp; done)); have g1 : w7.frozen? ⟨w6.heap.size, 1, none⟩ = false := (hb7.frozen (p := ⟨w6.heap.size, 1, none⟩) (by first | assumption | (simp; done) | (simp; omega))).trans (by first | assumption | (simp; done)); have z2 : w7.cell? ⟨w6.heap.size, 2, none⟩ = some (.slice none 0 0) := (hb7.cell (p := ⟨w6.heap.size, 2, none⟩) (by first | assumption | (simp; done) | (simp; omega))).trans (by first | assumption | (simp; done)); have g2 : w7.frozen? ⟨w6.heap.size, 2, none⟩ = false := (hb7.frozen (p := ⟨w6.heap.size, 2, none⟩) (by first | assumption | (simp; done) | (simp; omega))).trans (by first | assumption | (simp; done)); have gx : w6.heap.size < w7.heap.size := World.block_lt_of_cell? _ _ z0)); have kk := KD.out _ hy7; obtain ⟨m1, m2, m3⟩ := kk))
              all_goals
                go_wp2_with fail
                go_meet
                have hPm : P.length ≤ 30 := by rw [HP.out, List.length_take, HQ.out, cln_len, HL5.out, List.length_take]; omega
                have hP' : Hid (P = (cln L5).take r) := hid (by rw [HP.out, HQ.out])
                have hcb : ∀ ad, a7 = some ad → _ ≤ ad.block := fun ad ha => (Ho7.out.lt ⟨ad, ha, rfl⟩).1
                first
                | exact ⟨_, i, kc, r, C, P, L5, a7, c7, a8, c8, rfl, by rw [HhC.out]; exact hik, hid ⟨HCk.out, HhC.out⟩, hP', by rw [HhC.out]; exact hPl, hPm, hid (FitM.late _ hx7 hy7 Ho7.out.sl s8 Ho7.out.cap hc8 (fun ad ha => by have hq := hcb ad ha; first | omega | (simp at hq; omega)) (fun ad ha => by have hq := hblk ad ha; first | omega | (simp at hq; omega)))⟩
                | exact ⟨_, i, kc, r, C, P, L5, a7, c7, a8, c8, rfl, by rw [HhC.out]; exact hik, hid ⟨HCk.out, HhC.out⟩, hP', by rw [HhC.out]; exact hPl, hPm, hid (FitM.early hx7 hy7 (by omega) (by omega) z0 z1 z2 Ho7.out.sl s8 Ho7.out.cap hc8 (fun ad ha => by have hq := hcb ad ha; first | omega | (simp at hq hz6; omega) | (simp at hq; omega)) (fun ad ha => by have hq := hblk ad ha; first | omega | (simp at hq hz6; omega) | (simp at hq; omega)))⟩
            case rest =>
              obtain ⟨X, i, kc, r, C, P, L5, a7, c7, a8, c8, rfl, hik, HCk, HP, hPl, hP10, HF⟩ := hcut
              have hmP : Hid (may P = true) := by rw [Hid, HP.out]; exact may_take' (cln_may L5) r
              have hT := HT.out
              have hmC : Hid (mayC T ⟨i, C, P⟩ = true) := fit_mayC (k := C.length) (by rw [HCk.out.2]; exact HCk.out.1) rfl hik hT.may hT.len hmP.out hPl
              have hmT : Hid (may (appC T ⟨i, C, P⟩) = true ∧ (appC T ⟨i, C, P⟩).length ≤ 1000) := ⟨appC_may hmC.out hT.may, appC_le hmC.out⟩
              have hil : i ≤ 1000 := by have := hT.len; omega
              have hck : Hid (CmOk wc ⟨i, a7, C, c7, a8, P, c8⟩) := ⟨by unfold ir; simp only; omega, HF.out.sc, HF.out.sl, HF.out.cc, HF.out.pc⟩
              have e0 := HF.out.c0; have e1 := HF.out.c1; have e2 := HF.out.c2
              have hXr := HF.out.hX
              have hwc := HF.out.hwr
              have hzc := hwc.size
              have haM : ∀ j, Blk aM j → j < wr.heap.size := fun j hj => (HO.out.lt hj).2
              have nX : ¬ Blk aM X := fun h => by have := haM _ h; omega
              have hXl := World.block_lt_of_cell? wc _ e0
              have HaM := hid haM
              have hq1 : Below wc.heap.size wc (wc.alloc (.cells #[.int .i64 i, .slice a7 C.length c7, .slice a8 P.length c8] 24)) := bal (Below.refl _ _) _
              have KB : Hid (∀ w', Kpt (Blk aM) (wc.alloc (.cells #[.int .i64 i, .slice a7 C.length c7, .slice a8 P.length c8] 24)) w' → w'.cell? ⟨X, 0, none⟩ = some (.int .i64 i) ∧ w'.cell? ⟨X, 1, none⟩ = some (.slice a7 C.length c7) ∧ w'.cell? ⟨X, 2, none⟩ = some (.slice a8 P.length c8)) := by
                intro w' hk'
                refine ⟨hk'.cell ?_ nX, hk'.cell ?_ nX, hk'.cell ?_ nX⟩
                · rw [hq1.cell (by exact hXl)]; exact e0
                · rw [hq1.cell (by exact hXl)]; exact e1
                · rw [hq1.cell (by exact hXl)]; exact e2
              have hbase : w2.heap.size ≤ (wc.alloc (.cells #[.int .i64 i, .slice a7 C.length c7, .slice a8 P.length c8] 24)).heap.size := by have := hb.size; simp; omega
              have HOc : Hid (COwn (wc.alloc (.cells #[.int .i64 i, .slice a7 C.length c7, .slice a8 P.length c8] 24)) w2.heap.size aM cM M) := (HO.out.grow hwc).grow hq1
              have Hwc := hid hwc
              clear haM nX hik hPl hwc hT
              go_upto_region 12 with ((at_builtin; (refine wpL_capp rfl (.tmp 54) (.tmp 56) rfl w2.heap.size aM (some ⟨wc.heap.size, 0, none⟩) M.length 1 cM 1 M [(⟨i, a7, C, c7, a8, P, c8⟩ : Cm)] rfl (by first | rfl | simp | omega) HOc.out rfl (by first | rfl | simp | omega) (CSl.lit wc ⟨i, a7, C, c7, a8, P, c8⟩ _ _ rfl _ rfl) (by simp; omega) hbase ?_); intro a6 c6 w6 L6 Hl6 ho6 hb6 hk6 hA6; have HA6 := hid hA6; clear hA6; have Ho6 := hid ho6; clear ho6; have Hk6 := hid hk6; clear hk6; have hz6 := hb6.size); obtain ⟨q0, q1, q2⟩ := KB.out _ Hk6.out)
              have hsn : CsRd w6 a6 L6 := by rw [Hl6.out]; exact HC2.out.snoc HO.out (bthen Hwc.out hq1) (hck.out.bel hq1) (.inr HF.out.bc) (.inr HF.out.blk) Hk6.out HA6.out
              have hmem : (⟨i, a7, C, c7, a8, P, c8⟩ : Cm) ∈ L6 := by rw [Hl6.out]; simp
              have hT6 : Hid (Sl w6 aT T) := sl_kept ((HT.out.sl.bel Hwc.out).bel hq1) HT.out.off Hk6.out
              have hP6 : Hid (Sl w6 a7 C ∧ Sl w6 a8 P) := ⟨(hsn _ hmem).ok.cut, (hsn _ hmem).ok.put⟩
              have Hsn := hid hsn
              have hL6 : L6.length ≤ k + 1 := by rw [Hl6.out]; simp; omega
              have hB6 : Below w2.heap.size w2 w6 := ((bthen hb Hwc.out).trans ((bal (Below.refl _ _) _).mono (bthen hb Hwc.out).size)).trans hb6
              have hap := hid ((rapply_c aT a7 a8 cT c7 c8 T C P i w6 hT6.out hP6.out.1 hP6.out.2 hTc (by unfold ir; omega)).mono fun e w' h => app_yes hmC.out h)
              clear hsn hmem hck
              go_wp2_with fail
              refine hap.out.mono ?_
              rintro e w8 ⟨aN, cN, N, rfl, hN, hoN, hb8⟩
              have HoN := hid hoN
              have hTx : Hid (Txt w8 aN cN N a6) := ⟨hoN.sl, hoN.cap, by rw [hN.out]; exact hmT.out.1, by rw [hN.out]; exact hmT.out.2, .inr fun ad ha hb' => by have := (hoN.lt ⟨ad, ha, rfl⟩).1; have := (Ho6.out.lt hb').2; omega⟩
              have hb8' := hid hb8
              clear hoN hb8
              go_wp2
              go_roundw
              case rel => exact ⟨k + 1, aN, cN, N, a6, c6, L6, by omega, by go_num, rfl, rfl, hL6, hTx, hid (Ho6.out.grow hb8'.out), hid (Hsn.out.bel hb8'.out), bthen hB6 hb8'.out⟩
              case measure => simp [intOf]; omega
          · go_wp2
            go_meet
            exact ⟨aS, cS, S, aM, cM, M, rfl, rfl, by omega, hcS, hid (SS.out _ hb), hid HO.out.sl, hid HC2.out.cms, bthen Hb2.out hb⟩
    case rest =>
      obtain ⟨aS, cS, S, aM, cM, M, rfl, rfl, hM20, hcS, hS, hM, hO, hbw⟩ := hcut
      have DD : Hid (∀ w', Below wc.heap.size wc w' → Sl w' aS S ∧ CSl w' aM M ∧ Cms w' M) := fun w' hb => ⟨hS.out.bel hb, hM.out.bel hb, hO.out.bel hb⟩
      have hv0 : Below wc.heap.size wc wc := Below.refl _ _
      clear hS hM hO HDs H0
      go_wp2_with fail
      refine (crow_c aS aM cS cM S M wc (DD.out _ hv0).1 (DD.out _ hv0).2.1 (DD.out _ hv0).2.2).mono ?_
      rintro e w2 ⟨a5, c5, La, xa, rfl, hxa, ho5, hb2⟩
      have Ho5 := hid ho5
      have hv2 : Below wc.heap.size wc w2 := hb2
      clear ho5 hb2
      go_wp2_with fail
      refine (rrow_c aS aM cS cM S M w2 (DD.out _ hv2).1 (DD.out _ hv2).2.1 (DD.out _ hv2).2.2).mono ?_
      rintro e w3 ⟨a6, c6, Lb, xb, rfl, hxb, ho6, hb3⟩
      obtain ⟨rfl, rfl⟩ := rows_eq hxa.out hxb.out
      have hv3 : Below wc.heap.size wc w3 := bthen hv2 hb3
      have Ho53 := hid (Ho5.out.grow hb3)
      have n5 : Hid (∀ j, Blk a5 j → j < w2.heap.size) := fun j hj => (Ho5.out.lt hj).2
      have o6 : Hid (Own w3 w2.heap.size a6 c6 La) := ho6
      have hz3 := hb3.size
      clear ho6 hb3 Ho5 hxb
      go_wp2_with fail
      refine (back_c aM cM M w3 (DD.out _ hv3).2.1 (DD.out _ hv3).2.2).mono ?_
      rintro e w4 ⟨b1, k1, M1, rfl, hM1, hO1, hS1, hb4⟩
      have hv4 : Below wc.heap.size wc w4 := bthen hv3 hb4
      have HO1 := hid hO1; have HS1 := hid hS1
      have hM1l : M1.length ≤ 20 := by
        have e := congrArg List.length hM1.out
        rw [backC_len, cgs_len, cgs_len] at e; omega
      have hw4 : Below w3.heap.size w3 w4 := hb4
      have S56 : Hid (∀ w', Below w4.heap.size w4 w' → Sl w' a5 La ∧ Sl w' a6 La) := fun w' hb => ⟨(Ho53.out.sl.bel hw4).bel hb, (o6.out.sl.bel hw4).bel hb⟩
      have hu0 : Below w4.heap.size w4 w4 := Below.refl _ _
      clear hO1 hS1 hb4
      go_wp2_with fail
      refine (rsame_v a5 a6 c5 c6 La La w4 (S56.out _ hu0).1 (S56.out _ hu0).2 (eqM_self La)).mono ?_
      rintro e w' ⟨rfl, n1, rfl⟩
      have hu1 : Below w4.heap.size w4 (w4.drewN n1) := bdrewN hu0 _
      generalize w4.drewN n1 = w5 at hu1 ⊢
      have hv5 : Below wc.heap.size wc w5 := bthen hv4 hu1
      go_wp2_with fail
      refine (rback_c aM cM M w5 (DD.out _ hv5).2.1 (DD.out _ hv5).2.2).mono ?_
      rintro e w6 ⟨b2, k2, M2, rfl, hM2, hO2, hS2, hb6⟩
      have hu6 : Below w4.heap.size w4 w6 := bthen hu1 hb6
      have hsc := hid (sameChanges_c b1 b2 k1 k2 M1 M2 w6 (HO1.out.sl.bel hu6) hO2.sl (HS1.out.cms.bel hu6) hS2.cms (by rw [hM1.out, hM2.out]))
      clear hO2 hS2 hb6 hM1 hM2
      go_wp2_with fail
      refine hsc.out.mono ?_
      rintro e w7 ⟨rfl, hb7⟩
      have hu7 : Below w4.heap.size w4 w7 := bthen hu6 hb7
      have hy7 : Below w3.heap.size w3 w7 := bthen hw4 hu7
      have O7 := hid (HO1.out.grow hu7)
      have E7 : Hid (∀ j, 0 ≤ j → j < M1.length → CmOwn w7 w3.heap.size (cgt M1 j)) := fun j _ hj => (HS1.out.each _ (cgt_mem hj)).1.grow hu7
      have Dq : Hid ((∀ j, j < M1.length → Dis (bk (cgt M1 j)) (Blk b1)) ∧ ∀ i j, i < j → j < M1.length → Dis (bk (cgt M1 j)) (bk (cgt M1 i))) := ⟨fun j hj => (HS1.out.each _ (cgt_mem hj)).2, fun i j hij hj => apart_at HS1.out.apart hij hj⟩
      clear hsc hb7 hu0 hu1 hu6 hu7 S56 hv4 hv5 HO1 HS1
      go_wp2
      go_loopw [16, 98] (fun _ iv wr => ∃ k : Nat, k ≤ M1.length ∧ iv = .int .i64 k ∧ Hid (COwn wr w3.heap.size b1 k1 M1) ∧ Hid (∀ j, k ≤ j → j < M1.length → CmOwn wr w3.heap.size (cgt M1 j)) ∧ Below w3.heap.size w3 wr) (fun _ iv _ => M1.length - (intOf iv).toNat)
      case atStart => exact ⟨0, by omega, rfl, O7, E7, hy7⟩
      case round =>
        obtain ⟨k, hk, rfl, hOk, hEk, hbk⟩ := hrel
        by_cases hlt : k < M1.length
        · obtain ⟨b, o, rfl, hcb⟩ := hOk.out.sl.at hlt
          obtain ⟨x0, x1, x2⟩ := hcb k hlt
          have ok1 := hEk.out k (Nat.le_refl _) hlt
          have dk := hid (Dq.out.1 k hlt)
          have dj := hid (fun j hj hj2 => Dq.out.2 k j hj hj2)
          clear hcb
          generalize cgt M1 k = Y at x0 x1 x2 ok1 dk dj
          obtain ⟨i, ca, C, cc, pa, P, pc⟩ := Y
          obtain ⟨-, o1, o2, hd⟩ := ok1
          simp only at x0 x1 x2 o1 o2 hd
          have hsp := hid (spoil_g w3.heap.size i ca pa cc pc C P wr o1 o2 hd hbk.size)
          clear o1 o2 hd
          go_wp2_with fail
          refine hsp.out.mono ?_
          rintro e w8 ⟨rfl, hb8, hk8⟩
          have Hk8 := hid hk8
          have hb9 := hbk.trans hb8
          clear hk8 hb8 hsp
          go_wp2
          go_roundw
          case rel => exact ⟨k + 1, by omega, by go_num, hid (hOk.out.same fun ad ha hl => Hk8.out.block _ hl fun hf => dk.out _ hf ⟨ad, ha, rfl⟩), hid (fun j hj hj2 => (hEk.out j (by omega) hj2).kpt Hk8.out (dj.out j (by omega) hj2)), hb9⟩
          case measure => simp [intOf]; omega
        · have o5 := hid (Ho53.out.grow hbk)
          have q6 := hid (o6.out.grow hbk)
          have hv8 : Below wc.heap.size wc wr := bthen hv3 hbk
          clear hOk hEk
          go_wp2_with fail
          refine (spoilk_c wc.heap.size a5 c5 La wr o5.out).mono ?_
          rintro e w9 ⟨rfl, hb9, hk9⟩
          have hv9 : Below wc.heap.size wc w9 := hv8.trans hb9
          have r6 : Hid (Sl w9 a6 La) := q6.out.sl.kpt (fun ad ha hf => by have := n5.out _ hf; have := (q6.out.lt ⟨ad, ha, rfl⟩).1; omega) hk9
          clear hb9 hk9 hv8 q6 o5
          go_wp2_with fail
          refine (crow_c aS aM cS cM S M w9 (DD.out _ hv9).1 (DD.out _ hv9).2.1 (DD.out _ hv9).2.2).mono ?_
          rintro e w10 ⟨a7, c7, Lc, xc, rfl, hxc, ho7, hb10⟩
          obtain ⟨rfl, rfl⟩ := rows_eq hxa.out hxc.out
          have S7 := hid ho7.sl
          have r7 := hid (r6.out.bel hb10)
          have hv10 : Below wc.heap.size wc w10 := bthen hv9 hb10
          clear ho7 hb10
          go_wp2_with fail
          refine (rsame_v a7 a6 c7 c6 La La w10 S7.out r7.out (eqM_self La)).mono ?_
          rintro e w' ⟨rfl, n3, rfl⟩
          have hv11 : Below wc.heap.size wc (w10.drewN n3) := bdrewN hv10 _
          generalize w10.drewN n3 = w11 at hv11 ⊢
          go_wp2_with fail
          refine (known_c w11).mono ?_
          rintro e w14 ⟨rfl, hb14⟩
          go_wp2
          go_ret
          exact ⟨rfl, bthen hbw (bthen hv11 hb14)⟩
end Go.Proofs.Ytnaipahapdjakaa
