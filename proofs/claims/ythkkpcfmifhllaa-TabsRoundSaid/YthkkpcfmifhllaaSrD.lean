/- Package slices: symMergeCmpFunc at int, the whole. -/
import Derived.Test.YthkkpcfmifhllaaSrC
import Derived.Deep.DeepCutAuto
namespace Go.Proofs.Ythkkpcfmifhllaa
open Go.RowKit Go.ChangeShapes

/-- where the search begins and ends -/
structure Win (a m b mid s r : Nat) : Prop where
  h1 : a ≤ s
  h2 : s ≤ r
  h3 : r ≤ mid
  h4 : r ≤ m
  h5 : mid + m < s + b + 1
  h6 : s = a ∨ mid + m = s + b
  h7 : r = m ∨ r = mid
  h8 : r ≤ mid + m - m ∨ True
set_option maxRecDepth 20000 in
set_option maxHeartbeats 8000000 in
theorem sym_big (w : World) (base g c a m b : Nat) (n : Int) (L : List Int) (cs : Array Value) (K : Int → Int) (d : Nat) (IH : SymC base g c n cs K d) (hd : b - a ≤ d + 1) (hO : I.Own w base (some ⟨g, 0, none⟩) c L) (hC : Cmp w (Blk (some ⟨g, 0, none⟩)) cs n K) (hI : Rgn n L) (ham : a + 1 < m) (hmb : m + 1 < b) (hb : b ≤ L.length) (hP : Pre K a m b L) :
    Calls Try.prog 27 #[.slice (some ⟨g, 0, none⟩) L.length c, .int .i64 a, .int .i64 m, .int .i64 b, .func (.func 18) #[] cs] w (Moves w base (some ⟨g, 0, none⟩) c L (fun M => Seg a b L M ∧ Srt K a b M)) := by
  have hlen := hO.2.2
  have HO := hid hO
  have HC := hid hC
  have HI := hid hI
  have HP := hid hP
  have HIH := hid IH
  go_enter Try.func27, Try.ntmps27
  clear hO hC hI hP IH
  have e0 : decide ((m : Int) - (a : Int) = 1) = false := decide_eq_false (by omega)
  have e1 : decide ((b : Int) - (m : Int) = 1) = false := decide_eq_false (by omega)
  obtain ⟨mid, hmid⟩ : ∃ mid, mid = (a + b) / 2 := ⟨_, rfl⟩
  have hm1 : a < mid := by omega
  have hm2 : mid < b := by omega
  have hm3 : 2 * mid ≤ a + b := by omega
  have hm4 : a + b ≤ 2 * mid + 1 := by omega
  have em : ((a : Int) + (b : Int)) / 2 = (mid : Int) := by omega
  clear hmid
  go_upto_if 140 with fail
  go_cut [20, 21] (fun s r wx => ∃ s0 r0 : Nat, s = .int .i64 s0 ∧ r = .int .i64 r0 ∧ Hid (Win a m b mid s0 r0) ∧ wx = w)
  case first =>
    by_cases hmm : mid < m
    · have hz : (mid : Int) < (m : Int) := by omega
      go_wp2
      go_meet
      exact ⟨mid + m - b, mid, by go_num, rfl, hid ⟨by omega, by omega, Nat.le_refl _, by omega, by omega, .inr (by omega), .inr rfl, .inr trivial⟩, rfl⟩
    · have hz : ¬ (mid : Int) < (m : Int) := by omega
      go_wp2
      go_meet
      exact ⟨a, m, rfl, rfl, hid ⟨Nat.le_refl _, by omega, by omega, Nat.le_refl _, by omega, .inl rfl, .inl rfl, .inr trivial⟩, rfl⟩
  case rest =>
    obtain ⟨s0, r0, rfl, rfl, HW, hwc⟩ := hcut
    have HO0 : Hid (I.Own wc base (some ⟨g, 0, none⟩) c L) := by rw [hwc]; exact HO
    have HK0 : Hid (Kpt (Blk (some ⟨g, 0, none⟩)) w wc) := by rw [hwc]; exact Kpt.refl _ _
    clear hwc
    obtain ⟨P, hP⟩ : ∃ P, P = mid + m - 1 := ⟨_, rfl⟩
    have eP : (mid : Int) + (m : Int) - 1 = (P : Int) := by omega
    have hP1 : P + 1 = mid + m := by omega
    clear hP
    have HMo : Hid (∀ c c', s0 ≤ c' → c' ≤ c → c < r0 → Ahd K (gt L c) (gt L (P - c)) → Ahd K (gt L c') (gt L (P - c'))) := fun c c' h1 h2 h3 h4 => by
      obtain ⟨w1, w2, w3, w4, w5, w6, w7, _⟩ := HW.out
      by_cases h : c' = c
      · rw [h]; exact h4
      · exact ((HP.out.one c' c (by omega) (by omega) (by omega)).trans h4).trans (HP.out.two (P - c) (P - c') (by omega) (by omega) (by omega))
    go_wp2
    go_loopw [20, 21] (fun i j wr => ∃ (p q : Nat), s0 ≤ p ∧ p ≤ q ∧ q ≤ r0 ∧ i = .int .i64 p ∧ j = .int .i64 q ∧ Hid (I.Own wr base (some ⟨g, 0, none⟩) c L) ∧ Hid (Kpt (Blk (some ⟨g, 0, none⟩)) w wr) ∧ Hid (Fnd (fun c => Ahd K (gt L c) (gt L (P - c))) s0 r0 p q)) (fun i j _ => (intOf j).toNat - (intOf i).toNat)
    case atStart => exact ⟨s0, r0, Nat.le_refl _, HW.out.h2, Nat.le_refl _, rfl, rfl, HO0, HK0, hid ⟨fun c h1 h2 => by omega, fun c h1 h2 => by omega⟩⟩
    case round =>
      obtain ⟨p, q, hp, hpq, hq, rfl, rfl, HOw, HKw, HF⟩ := hrel
      clear HO0 HK0
      by_cases hlt : p < q
      · have hltz : (p : Int) < (q : Int) := by omega
        obtain ⟨h, hh⟩ : ∃ h, h = (p + q) / 2 := ⟨_, rfl⟩
        have h1 : p ≤ h := by omega
        have h2 : h < q := by omega
        have eh : ((p : Int) + (q : Int)) / 2 = (h : Int) := by omega
        obtain ⟨w1, w2, w3, w4, w5, w6, w7, _⟩ := HW.out
        obtain ⟨D, hD⟩ : ∃ D, D = P - h := ⟨_, rfl⟩
        have hD1 : D < L.length := by omega
        have hD2 : m ≤ D := by omega
        have hD3 : D < b := by omega
        have hD4 : h < m := by omega
        have eD : (P : Int) - (h : Int) = (D : Int) := by omega
        have hz : (h : Int) < (L.length : Int) := by omega
        have az : (D : Int) < (L.length : Int) := by omega
        clear hh w1 w2 w3 w4 w5 w6 w7
        go_upto_region 35 with fail
        have HE := hid eh
        clear eh
        have ch := HOw.out.cell (i := h) (by omega)
        have ca := HOw.out.cell (i := D) (by omega)
        have rh := HI.out h (by omega)
        have ra := HI.out D (by omega)
        have hc : ∀ x, Calls Try.prog 18 (#[.int .i64 (gt L D), .int .i64 (gt L h)] ++ cs) (wr.drewN x) fun e w2 => e = .returned (.int .i64 (cfv K (gt L D) (gt L h))) ∧ ∃ y, w2 = (wr.drewN x).drewN y := fun x =>
          HC.out _ (HKw.out.tr (Kpt.of (bdrewN (Below.refl _ _) x))) _ _ ra.1 ra.2 rh.1 rh.2
        have HCC := hid hc
        have hla : gt L h < gt L D := HP.out.less h D (by have := HW.out.h1; omega) (by omega) hD2 hD3
        have HLA := hid hla
        have HDe := hid hD
        clear hc rh ra hla hD
        by_cases hlv : K (gt L D) < K (gt L h)
        · obtain ⟨V, hV⟩ : ∃ V, V = cfv K (gt L D) (gt L h) := ⟨_, rfl⟩
          have hV0 : V < 0 := by rw [hV, cfv_lt hlv]; omega
          rw [← hV] at HCC
          have HF2 := hid (HF.out.left HMo.out (h := h) (by omega) (fun hx => by rw [← HDe.out] at hx; have := HLA.out; unfold Ahd at hx; omega))
          have HV' := hid hV; clear hV hlv
          go_quiet (first | (go_at_call 18; exact Calls.quiet_of (HCC.out _)))
          go_wp2
          go_round
          case rel => exact ⟨p, h, hp, h1, by omega, rfl, by go_num, hid (HOw.out.drewN nq), hid (HKw.out.tr (Kpt.of (bdrewN (Below.refl _ _) nq))), HF2⟩
          case measure => simp [intOf]; omega
        · obtain ⟨V, hV⟩ : ∃ V, V = cfv K (gt L D) (gt L h) := ⟨_, rfl⟩
          have hV0 : ¬ V < 0 := by rw [hV]; have := cfv_ge hlv; omega
          rw [← hV] at HCC
          have HF2 := hid (HF.out.right HMo.out (h := h) (by omega) (by rw [← HDe.out]; exact (ahd_le HLA.out).2 hlv))
          have HV' := hid hV; clear hV hlv
          go_quiet (first | (go_at_call 18; exact Calls.quiet_of (HCC.out _)))
          go_wp2
          go_round
          case rel => exact ⟨h + 1, q, by omega, by omega, hq, by go_num, rfl, hid (HOw.out.drewN nq), hid (HKw.out.tr (Kpt.of (bdrewN (Below.refl _ _) nq))), HF2⟩
          case measure => simp [intOf]; omega
      · obtain rfl : p = q := by omega
        have hltz : ¬ (p : Int) < (p : Int) := by omega
        have HWo := HW.out
        have w1 : a ≤ s0 := HWo.h1
        have w3 : r0 ≤ mid := HWo.h3
        have w4 : r0 ≤ m := HWo.h4
        have w5 : mid + m < s0 + b + 1 := HWo.h5
        obtain ⟨e, he⟩ : ∃ e, e = mid + m - p := ⟨_, rfl⟩
        have eE : (mid : Int) + (m : Int) - (p : Int) = (e : Int) := by omega
        have hep : e + p = mid + m := by omega
        have hpe : p + (e - m) = mid := by omega
        have hme : m ≤ e := by omega
        have heb : e ≤ b := by omega
        have hpm : p ≤ m := by omega
        have hpm2 : p ≤ mid := by omega
        have hap : a ≤ p := by omega
        have HCut : Hid (Cut K a p m e b L) := by
          refine ⟨HP.out, by omega, by omega, by omega, by omega, fun x y g1 g2 g3 g4 => ?_, fun x y g1 g2 g3 g4 => ?_⟩
          · by_cases hs : s0 < p
            · have h := HF.out.lo (p - 1) (by omega) (by omega)
              rw [show P - (p - 1) = e by omega] at h
              have k1 : x = p - 1 ∨ Ahd K (gt L x) (gt L (p - 1)) := by
                by_cases hx : x = p - 1
                · exact .inl hx
                · exact .inr (HP.out.one x (p - 1) g1 (by omega) (by omega))
              have k2 : y = e ∨ Ahd K (gt L e) (gt L y) := by
                by_cases hy : y = e
                · exact .inl hy
                · exact .inr (HP.out.two e y (by omega) (by omega) g4)
              rcases k1 with rfl | k1 <;> rcases k2 with rfl | k2
              · exact h
              · exact h.trans k2
              · exact k1.trans h
              · exact (k1.trans h).trans k2
            · have := HWo.h6; omega
          · by_cases hs : p < r0
            · have h := HF.out.hi p (Nat.le_refl _) hs
              rw [show P - p = e - 1 by omega] at h
              have h' : Ahd K (gt L (e - 1)) (gt L p) := Ahd.or h (HP.out.less p (e - 1) (by omega) (by omega) (by omega) (by omega))
              have k1 : x = e - 1 ∨ Ahd K (gt L x) (gt L (e - 1)) := by
                by_cases hx : x = e - 1
                · exact .inl hx
                · exact .inr (HP.out.two x (e - 1) g1 (by omega) (by omega))
              have k2 : y = p ∨ Ahd K (gt L p) (gt L y) := by
                by_cases hy : y = p
                · exact .inl hy
                · exact .inr (HP.out.one p y (by omega) (by omega) g4)
              rcases k1 with rfl | k1 <;> rcases k2 with rfl | k2
              · exact h'
              · exact h'.trans k2
              · exact k1.trans h'
              · exact (k1.trans h').trans k2
            · have := HWo.h7; omega
        have Hep := hid eP
        clear he eP HF HWo HMo
        by_cases c1 : p < m
        · by_cases c2 : m < e
          · by_cases c3 : a < p
            · by_cases c4 : e < b
              · skip
                have z1 : (p : Int) < (m : Int) := by omega
                have z2 : (m : Int) < (e : Int) := by omega
                have hr := rotate_c wr base g c p m e L (.func (.func 18) #[] cs) HOw.out (by omega) (by omega) (by omega)
                go_wp2_with fail
                refine hr.mono ?_
                rintro _ w1 ⟨rfl, M1, o1, k1, l1, v1⟩
                have HO1 := hid o1; have HL1 := hid l1; have HV1 := hid v1
                have HK1 : Hid (Kpt (Blk (some ⟨g, 0, none⟩)) w w1) := HKw.out.tr k1
                clear hr o1 k1 l1 v1
                have z3 : (a : Int) < (p : Int) := by omega
                have z4 : (p : Int) < (mid : Int) := by omega
                have HPl : Hid (Pre K a p mid M1) := by have h := HCut.out.low HV1.out; rwa [hpe] at h
                have HPh : Hid (Pre K mid e b M1) := by have h := HCut.out.high HV1.out; rwa [hpe] at h
                have HR1 : Hid (Rgn n M1) := HI.out.via HV1.out fun x hx => roI_lt (by omega) (by omega) (by omega) hx
                have hs := HIH.out _ a p mid M1 (by omega) HO1.out (HC.out.kpt HK1.out) HR1.out (by omega) (by omega) (by have := HL1.out; omega) HPl.out
                rw [HL1.out] at hs
                go_wp2_with fail
                refine hs.mono ?_
                rintro _ w2 ⟨rfl, M2, o2, k2, l2, s2, t2⟩
                have HO2 := hid o2
                have HL2 : Hid (M2.length = L.length) := (by first | exact l2.trans HL1.out | exact l2)
                have HS2 := hid s2; have HT2 := hid t2
                have HK2 : Hid (Kpt (Blk (some ⟨g, 0, none⟩)) w w2) := HK1.out.tr k2
                clear hs o2 k2 l2 s2 t2
                have z5 : (mid : Int) < (e : Int) := by omega
                have z6 : (e : Int) < (b : Int) := by omega
                have HPh2 : Hid (Pre K mid e b M2) := ⟨HPh.out.one.of_seg HS2.out (.inr (Nat.le_refl _)), HPh.out.two.of_seg HS2.out (.inr (by omega)), HPh.out.less.of_in HS2.out (.inr (.inl (Nat.le_refl _))) (.inr (.inl (by omega)))⟩
                have HR2 : Hid (Rgn n M2) := HR1.out.seg HS2.out (by have := HL1.out; omega)
                have hs := HIH.out _ mid e b M2 (by omega) HO2.out (HC.out.kpt HK2.out) HR2.out (by omega) (by omega) (by have := HL2.out; omega) HPh2.out
                rw [HL2.out] at hs
                go_wp2_with fail
                refine hs.mono ?_
                rintro _ w3 ⟨rfl, M3, o3, k3, l3, s3, t3⟩
                have HF3 : Hid (Seg a b L M3 ∧ Srt K a b M3) := HCut.out.done HV1.out (M2 := M2) (by rw [hpe]; exact HS2.out) (by rw [hpe]; exact HT2.out) (by rw [hpe]; exact s3) (by rw [hpe]; exact t3)
                go_wp2
                go_end0
                exact ⟨rfl, M3, o3, HK2.out.tr k3, (by first | exact l3.trans HL2.out | exact l3), HF3.out⟩
              · skip
                have z1 : (p : Int) < (m : Int) := by omega
                have z2 : (m : Int) < (e : Int) := by omega
                have hr := rotate_c wr base g c p m e L (.func (.func 18) #[] cs) HOw.out (by omega) (by omega) (by omega)
                go_wp2_with fail
                refine hr.mono ?_
                rintro _ w1 ⟨rfl, M1, o1, k1, l1, v1⟩
                have HO1 := hid o1; have HL1 := hid l1; have HV1 := hid v1
                have HK1 : Hid (Kpt (Blk (some ⟨g, 0, none⟩)) w w1) := HKw.out.tr k1
                clear hr o1 k1 l1 v1
                have z3 : (a : Int) < (p : Int) := by omega
                have z4 : (p : Int) < (mid : Int) := by omega
                have HPl : Hid (Pre K a p mid M1) := by have h := HCut.out.low HV1.out; rwa [hpe] at h
                have HPh : Hid (Pre K mid e b M1) := by have h := HCut.out.high HV1.out; rwa [hpe] at h
                have HR1 : Hid (Rgn n M1) := HI.out.via HV1.out fun x hx => roI_lt (by omega) (by omega) (by omega) hx
                have hs := HIH.out _ a p mid M1 (by omega) HO1.out (HC.out.kpt HK1.out) HR1.out (by omega) (by omega) (by have := HL1.out; omega) HPl.out
                rw [HL1.out] at hs
                go_wp2_with fail
                refine hs.mono ?_
                rintro _ w2 ⟨rfl, M2, o2, k2, l2, s2, t2⟩
                have HO2 := hid o2
                have HL2 : Hid (M2.length = L.length) := (by first | exact l2.trans HL1.out | exact l2)
                have HS2 := hid s2; have HT2 := hid t2
                have HK2 : Hid (Kpt (Blk (some ⟨g, 0, none⟩)) w w2) := HK1.out.tr k2
                clear hs o2 k2 l2 s2 t2
                have z5 : (mid : Int) < (e : Int) := by omega
                have z6 : ¬ (e : Int) < (b : Int) := by omega
                have HPh2 : Hid (Pre K mid e b M2) := ⟨HPh.out.one.of_seg HS2.out (.inr (Nat.le_refl _)), HPh.out.two.of_seg HS2.out (.inr (by omega)), HPh.out.less.of_in HS2.out (.inr (.inl (Nat.le_refl _))) (.inr (.inl (by omega)))⟩
                have HR2 : Hid (Rgn n M2) := HR1.out.seg HS2.out (by have := HL1.out; omega)
                have HF3 : Hid (Seg a b L M2 ∧ Srt K a b M2) := HCut.out.done HV1.out (M2 := M2) (by rw [hpe]; exact HS2.out) (by rw [hpe]; exact HT2.out) (by rw [hpe]; exact Seg.refl _ _ _) (by rw [hpe]; exact fun x y h1 h2 h3 => HPh2.out.one x y h1 h2 (by omega))
                go_wp2
                go_end0
                exact ⟨rfl, M2, HO2.out, HK2.out, (by first | exact HL2.out | rfl), HF3.out⟩
            · by_cases c4 : e < b
              · skip
                have z1 : (p : Int) < (m : Int) := by omega
                have z2 : (m : Int) < (e : Int) := by omega
                have hr := rotate_c wr base g c p m e L (.func (.func 18) #[] cs) HOw.out (by omega) (by omega) (by omega)
                go_wp2_with fail
                refine hr.mono ?_
                rintro _ w1 ⟨rfl, M1, o1, k1, l1, v1⟩
                have HO1 := hid o1; have HL1 := hid l1; have HV1 := hid v1
                have HK1 : Hid (Kpt (Blk (some ⟨g, 0, none⟩)) w w1) := HKw.out.tr k1
                clear hr o1 k1 l1 v1
                have z3 : ¬ (a : Int) < (p : Int) := by omega
                have HPl : Hid (Pre K a p mid M1) := by have h := HCut.out.low HV1.out; rwa [hpe] at h
                have HPh : Hid (Pre K mid e b M1) := by have h := HCut.out.high HV1.out; rwa [hpe] at h
                have HR1 : Hid (Rgn n M1) := HI.out.via HV1.out fun x hx => roI_lt (by omega) (by omega) (by omega) hx
                have HO2 := HO1; have HK2 := HK1; have HL2 := HL1
                have HS2 : Hid (Seg a mid M1 M1) := Seg.refl _ _ _
                have HT2 : Hid (Srt K a mid M1) := fun x y h1 h2 h3 => HPl.out.two x y (by omega) h2 h3
                have z5 : (mid : Int) < (e : Int) := by omega
                have z6 : (e : Int) < (b : Int) := by omega
                have HPh2 : Hid (Pre K mid e b M1) := ⟨HPh.out.one.of_seg HS2.out (.inr (Nat.le_refl _)), HPh.out.two.of_seg HS2.out (.inr (by omega)), HPh.out.less.of_in HS2.out (.inr (.inl (Nat.le_refl _))) (.inr (.inl (by omega)))⟩
                have HR2 : Hid (Rgn n M1) := HR1.out.seg HS2.out (by have := HL1.out; omega)
                have hs := HIH.out _ mid e b M1 (by omega) HO2.out (HC.out.kpt HK2.out) HR2.out (by omega) (by omega) (by have := HL2.out; omega) HPh2.out
                rw [HL2.out] at hs
                go_wp2_with fail
                refine hs.mono ?_
                rintro _ w3 ⟨rfl, M3, o3, k3, l3, s3, t3⟩
                have HF3 : Hid (Seg a b L M3 ∧ Srt K a b M3) := HCut.out.done HV1.out (M2 := M1) (by rw [hpe]; exact HS2.out) (by rw [hpe]; exact HT2.out) (by rw [hpe]; exact s3) (by rw [hpe]; exact t3)
                go_wp2
                go_end0
                exact ⟨rfl, M3, o3, HK2.out.tr k3, (by first | exact l3.trans HL2.out | exact l3), HF3.out⟩
              · skip
                have z1 : (p : Int) < (m : Int) := by omega
                have z2 : (m : Int) < (e : Int) := by omega
                have hr := rotate_c wr base g c p m e L (.func (.func 18) #[] cs) HOw.out (by omega) (by omega) (by omega)
                go_wp2_with fail
                refine hr.mono ?_
                rintro _ w1 ⟨rfl, M1, o1, k1, l1, v1⟩
                have HO1 := hid o1; have HL1 := hid l1; have HV1 := hid v1
                have HK1 : Hid (Kpt (Blk (some ⟨g, 0, none⟩)) w w1) := HKw.out.tr k1
                clear hr o1 k1 l1 v1
                have z3 : ¬ (a : Int) < (p : Int) := by omega
                have HPl : Hid (Pre K a p mid M1) := by have h := HCut.out.low HV1.out; rwa [hpe] at h
                have HPh : Hid (Pre K mid e b M1) := by have h := HCut.out.high HV1.out; rwa [hpe] at h
                have HR1 : Hid (Rgn n M1) := HI.out.via HV1.out fun x hx => roI_lt (by omega) (by omega) (by omega) hx
                have HO2 := HO1; have HK2 := HK1; have HL2 := HL1
                have HS2 : Hid (Seg a mid M1 M1) := Seg.refl _ _ _
                have HT2 : Hid (Srt K a mid M1) := fun x y h1 h2 h3 => HPl.out.two x y (by omega) h2 h3
                have z5 : (mid : Int) < (e : Int) := by omega
                have z6 : ¬ (e : Int) < (b : Int) := by omega
                have HPh2 : Hid (Pre K mid e b M1) := ⟨HPh.out.one.of_seg HS2.out (.inr (Nat.le_refl _)), HPh.out.two.of_seg HS2.out (.inr (by omega)), HPh.out.less.of_in HS2.out (.inr (.inl (Nat.le_refl _))) (.inr (.inl (by omega)))⟩
                have HR2 : Hid (Rgn n M1) := HR1.out.seg HS2.out (by have := HL1.out; omega)
                have HF3 : Hid (Seg a b L M1 ∧ Srt K a b M1) := HCut.out.done HV1.out (M2 := M1) (by rw [hpe]; exact HS2.out) (by rw [hpe]; exact HT2.out) (by rw [hpe]; exact Seg.refl _ _ _) (by rw [hpe]; exact fun x y h1 h2 h3 => HPh2.out.one x y h1 h2 (by omega))
                go_wp2
                go_end0
                exact ⟨rfl, M1, HO2.out, HK2.out, (by first | exact HL2.out | rfl), HF3.out⟩
          · skip
            have z1 : (p : Int) < (m : Int) := by omega
            have z2 : ¬ (m : Int) < (e : Int) := by omega
            have hv1 : Via (roI p m e) L L := Via.refl L fun x => by rw [show e = m by omega]; exact roI_none ..
            have HV1 := hid hv1; clear hv1
            have HO1 := HOw; have HK1 := HKw; have HL1 : Hid (L.length = L.length) := rfl
            have z3 : (a : Int) < (p : Int) := by omega
            have z4 : ¬ (p : Int) < (mid : Int) := by omega
            have HPl : Hid (Pre K a p mid L) := by have h := HCut.out.low HV1.out; rwa [hpe] at h
            have HPh : Hid (Pre K mid e b L) := by have h := HCut.out.high HV1.out; rwa [hpe] at h
            have HR1 : Hid (Rgn n L) := HI.out.via HV1.out fun x hx => roI_lt (by omega) (by omega) (by omega) hx
            have HO2 := HO1; have HK2 := HK1; have HL2 := HL1
            have HS2 : Hid (Seg a mid L L) := Seg.refl _ _ _
            have HT2 : Hid (Srt K a mid L) := fun x y h1 h2 h3 => HPl.out.one x y h1 h2 (by omega)
            have z5 : (mid : Int) < (e : Int) := by omega
            have z6 : (e : Int) < (b : Int) := by omega
            have HPh2 : Hid (Pre K mid e b L) := ⟨HPh.out.one.of_seg HS2.out (.inr (Nat.le_refl _)), HPh.out.two.of_seg HS2.out (.inr (by omega)), HPh.out.less.of_in HS2.out (.inr (.inl (Nat.le_refl _))) (.inr (.inl (by omega)))⟩
            have HR2 : Hid (Rgn n L) := HR1.out.seg HS2.out (by have := HL1.out; omega)
            have hs := HIH.out _ mid e b L (by omega) HO2.out (HC.out.kpt HK2.out) HR2.out (by omega) (by omega) (by have := HL2.out; omega) HPh2.out
            rw [HL2.out] at hs
            go_wp2_with fail
            refine hs.mono ?_
            rintro _ w3 ⟨rfl, M3, o3, k3, l3, s3, t3⟩
            have HF3 : Hid (Seg a b L M3 ∧ Srt K a b M3) := HCut.out.done HV1.out (M2 := L) (by rw [hpe]; exact HS2.out) (by rw [hpe]; exact HT2.out) (by rw [hpe]; exact s3) (by rw [hpe]; exact t3)
            go_wp2
            go_end0
            exact ⟨rfl, M3, o3, HK2.out.tr k3, (by first | exact l3.trans HL2.out | exact l3), HF3.out⟩
        · by_cases c2 : p < mid
          · skip
            have z1 : ¬ (p : Int) < (m : Int) := by omega
            have hv1 : Via (roI p m e) L L := Via.refl L fun x => by rw [show p = m by omega]; exact roI_none' ..
            have HV1 := hid hv1; clear hv1
            have HO1 := HOw; have HK1 := HKw; have HL1 : Hid (L.length = L.length) := rfl
            have z3 : (a : Int) < (p : Int) := by omega
            have z4 : (p : Int) < (mid : Int) := by omega
            have HPl : Hid (Pre K a p mid L) := by have h := HCut.out.low HV1.out; rwa [hpe] at h
            have HPh : Hid (Pre K mid e b L) := by have h := HCut.out.high HV1.out; rwa [hpe] at h
            have HR1 : Hid (Rgn n L) := HI.out.via HV1.out fun x hx => roI_lt (by omega) (by omega) (by omega) hx
            have hs := HIH.out _ a p mid L (by omega) HO1.out (HC.out.kpt HK1.out) HR1.out (by omega) (by omega) (by have := HL1.out; omega) HPl.out
            rw [HL1.out] at hs
            go_wp2_with fail
            refine hs.mono ?_
            rintro _ w2 ⟨rfl, M2, o2, k2, l2, s2, t2⟩
            have HO2 := hid o2
            have HL2 : Hid (M2.length = L.length) := (by first | exact l2.trans HL1.out | exact l2)
            have HS2 := hid s2; have HT2 := hid t2
            have HK2 : Hid (Kpt (Blk (some ⟨g, 0, none⟩)) w w2) := HK1.out.tr k2
            clear hs o2 k2 l2 s2 t2
            have z5 : ¬ (mid : Int) < (e : Int) := by omega
            have HPh2 : Hid (Pre K mid e b M2) := ⟨HPh.out.one.of_seg HS2.out (.inr (Nat.le_refl _)), HPh.out.two.of_seg HS2.out (.inr (by omega)), HPh.out.less.of_in HS2.out (.inr (.inl (Nat.le_refl _))) (.inr (.inl (by omega)))⟩
            have HR2 : Hid (Rgn n M2) := HR1.out.seg HS2.out (by have := HL1.out; omega)
            have HF3 : Hid (Seg a b L M2 ∧ Srt K a b M2) := HCut.out.done HV1.out (M2 := M2) (by rw [hpe]; exact HS2.out) (by rw [hpe]; exact HT2.out) (by rw [hpe]; exact Seg.refl _ _ _) (by rw [hpe]; exact fun x y h1 h2 h3 => HPh2.out.two x y (by omega) h2 h3)
            go_wp2
            go_end0
            exact ⟨rfl, M2, HO2.out, HK2.out, (by first | exact HL2.out | rfl), HF3.out⟩
          · skip
            have z1 : ¬ (p : Int) < (m : Int) := by omega
            have hv1 : Via (roI p m e) L L := Via.refl L fun x => by rw [show p = m by omega]; exact roI_none' ..
            have HV1 := hid hv1; clear hv1
            have HO1 := HOw; have HK1 := HKw; have HL1 : Hid (L.length = L.length) := rfl
            have z3 : (a : Int) < (p : Int) := by omega
            have z4 : ¬ (p : Int) < (mid : Int) := by omega
            have HPl : Hid (Pre K a p mid L) := by have h := HCut.out.low HV1.out; rwa [hpe] at h
            have HPh : Hid (Pre K mid e b L) := by have h := HCut.out.high HV1.out; rwa [hpe] at h
            have HR1 : Hid (Rgn n L) := HI.out.via HV1.out fun x hx => roI_lt (by omega) (by omega) (by omega) hx
            have HO2 := HO1; have HK2 := HK1; have HL2 := HL1
            have HS2 : Hid (Seg a mid L L) := Seg.refl _ _ _
            have HT2 : Hid (Srt K a mid L) := fun x y h1 h2 h3 => HPl.out.one x y h1 h2 (by omega)
            have z5 : ¬ (mid : Int) < (e : Int) := by omega
            have HPh2 : Hid (Pre K mid e b L) := ⟨HPh.out.one.of_seg HS2.out (.inr (Nat.le_refl _)), HPh.out.two.of_seg HS2.out (.inr (by omega)), HPh.out.less.of_in HS2.out (.inr (.inl (Nat.le_refl _))) (.inr (.inl (by omega)))⟩
            have HR2 : Hid (Rgn n L) := HR1.out.seg HS2.out (by have := HL1.out; omega)
            have HF3 : Hid (Seg a b L L ∧ Srt K a b L) := HCut.out.done HV1.out (M2 := L) (by rw [hpe]; exact HS2.out) (by rw [hpe]; exact HT2.out) (by rw [hpe]; exact Seg.refl _ _ _) (by rw [hpe]; exact fun x y h1 h2 h3 => HPh2.out.two x y (by omega) h2 h3)
            go_wp2
            go_end0
            exact ⟨rfl, L, HO2.out, HK2.out, (by first | exact HL2.out | rfl), HF3.out⟩

theorem sym_all (base g c : Nat) (n : Int) (cs : Array Value) (K : Int → Int) : ∀ d, SymC base g c n cs K d
  | 0 => fun w a m b L hd _ _ _ h1 h2 _ _ => by omega
  | d + 1 => fun w a m b L hd hO hC hI h1 h2 hb hP => by
    by_cases c1 : m = a + 1
    · subst c1; exact sym_one w base g c a b n L cs K hO hC hI h2 hb hP
    · by_cases c2 : b = m + 1
      · subst c2; exact sym_two w base g c a m n L cs K hO hC hI (by omega) hb hP
      · exact sym_big w base g c a m b n L cs K d (sym_all base g c n cs K d) hd hO hC hI (by omega) (by omega) hb hP
end Go.Proofs.Ythkkpcfmifhllaa
