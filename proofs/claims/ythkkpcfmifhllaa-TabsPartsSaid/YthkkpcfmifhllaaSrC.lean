/- Package slices: symMergeCmpFunc at int. -/
import Derived.Test.YthkkpcfmifhllaaSrB
namespace Go.Proofs.Ythkkpcfmifhllaa
open Go.RowKit Go.ChangeShapes

/-- a property that holds of the first ones alone: what a search knows -/
structure Fnd (Q : Nat → Prop) (s r i j : Nat) : Prop where
  lo : ∀ c, s ≤ c → c < i → Q c
  hi : ∀ c, j ≤ c → c < r → ¬ Q c
theorem Fnd.right {Q : Nat → Prop} {s r i j h : Nat} (f : Fnd Q s r i j) (hm : ∀ c c', s ≤ c' → c' ≤ c → c < r → Q c → Q c') (hr : h < r) (hq : Q h) : Fnd Q s r (h + 1) j := ⟨fun c h1 h2 => hm h c h1 (by omega) hr hq, f.hi⟩
theorem Fnd.left {Q : Nat → Prop} {s r i j h : Nat} (f : Fnd Q s r i j) (hm : ∀ c c', s ≤ c' → c' ≤ c → c < r → Q c → Q c') (hs : s ≤ h) (hq : ¬ Q h) : Fnd Q s r i h := ⟨f.lo, fun c h1 h2 hc => hq (hm c h hs h1 h2 hc)⟩

theorem Ahd.or' {K : Int → Int} {x y : Int} (h : ¬ Ahd K x y) (hn : y < x) : Ahd K y x := by unfold Ahd at *; omega

/-- what a merge does -/
def SymC (base g c : Nat) (n : Int) (cs : Array Value) (K : Int → Int) (d : Nat) : Prop :=
  ∀ (w : World) (a m b : Nat) (L : List Int), b - a ≤ d → I.Own w base (some ⟨g, 0, none⟩) c L → Cmp w (Blk (some ⟨g, 0, none⟩)) cs n K → Rgn n L → a < m → m < b → b ≤ L.length → Pre K a m b L →
    Calls Try.prog 27 #[.slice (some ⟨g, 0, none⟩) L.length c, .int .i64 a, .int .i64 m, .int .i64 b, .func (.func 18) #[] cs] w (Moves w base (some ⟨g, 0, none⟩) c L (fun M => Seg a b L M ∧ Srt K a b M))

set_option maxRecDepth 20000 in
set_option maxHeartbeats 4000000 in
theorem sym_one (w : World) (base g c a b : Nat) (n : Int) (L : List Int) (cs : Array Value) (K : Int → Int) (hO : I.Own w base (some ⟨g, 0, none⟩) c L) (hC : Cmp w (Blk (some ⟨g, 0, none⟩)) cs n K) (hI : Rgn n L) (hab : a + 1 < b) (hb : b ≤ L.length) (hP : Pre K a (a + 1) b L) :
    Calls Try.prog 27 #[.slice (some ⟨g, 0, none⟩) L.length c, .int .i64 a, .int .i64 ((a : Int) + 1), .int .i64 b, .func (.func 18) #[] cs] w (Moves w base (some ⟨g, 0, none⟩) c L (fun M => Seg a b L M ∧ Srt K a b M)) := by
  have hlen := hO.2.2
  have HO := hid hO
  have HC := hid hC
  have HI := hid hI
  have HP := hid hP
  go_enter Try.func27, Try.ntmps27
  clear hO hC hI hP
  have e1 : decide ((a : Int) + 1 - (a : Int) = 1) = true := by simp; omega
  have HMo : Hid (∀ c c', a + 1 ≤ c' → c' ≤ c → c < b → Ahd K (gt L c) (gt L a) → Ahd K (gt L c') (gt L a)) := fun c c' h1 h2 h3 h4 => by
    by_cases h : c' = c
    · rw [h]; exact h4
    · exact (HP.out.two c' c h1 (by omega) h3).trans h4
  go_wp2
  go_loopw [10, 11] (fun i j wr => ∃ (p q k : Nat), a + 1 ≤ p ∧ p ≤ q ∧ q ≤ b ∧ i = .int .i64 p ∧ j = .int .i64 q ∧ Hid (wr = w.drewN k) ∧ Hid (Fnd (fun c => Ahd K (gt L c) (gt L a)) (a + 1) b p q)) (fun i j _ => (intOf j).toNat - (intOf i).toNat)
  case atStart => exact ⟨a + 1, b, 0, Nat.le_refl _, by omega, Nat.le_refl _, by go_num, rfl, hid rfl, hid ⟨fun c h1 h2 => by omega, fun c h1 h2 => by omega⟩⟩
  case round =>
    obtain ⟨p, q, k, hp, hpq, hq, rfl, rfl, HW, HF⟩ := hrel
    have HOw : Hid (I.Own wr base (some ⟨g, 0, none⟩) c L) := by rw [HW.out]; exact HO.out.drewN k
    have HKw : Hid (Kpt (Blk (some ⟨g, 0, none⟩)) w wr) := by rw [HW.out]; exact Kpt.of (bdrewN (Below.refl _ _) k)
    by_cases hlt : p < q
    · have hltz : (p : Int) < (q : Int) := by omega
      obtain ⟨h, hh⟩ : ∃ h, h = (p + q) / 2 := ⟨_, rfl⟩
      have h1 : p ≤ h := by omega
      have h2 : h < q := by omega
      have eh : ((p : Int) + (q : Int)) / 2 = (h : Int) := by omega
      have hz : (h : Int) < (L.length : Int) := by omega
      have az : (a : Int) < (L.length : Int) := by omega
      clear hh
      go_upto_region 5 with fail
      have HE := hid eh
      clear eh
      have ch := HOw.out.cell (i := h) (by omega)
      have ca := HOw.out.cell (i := a) (by omega)
      have rh := HI.out h (by omega)
      have ra := HI.out a (by omega)
      have hc : ∀ m, Calls Try.prog 18 (#[.int .i64 (gt L h), .int .i64 (gt L a)] ++ cs) (wr.drewN m) fun e w2 => e = .returned (.int .i64 (cfv K (gt L h) (gt L a))) ∧ ∃ x, w2 = (wr.drewN m).drewN x := fun m =>
        HC.out _ (HKw.out.tr (Kpt.of (bdrewN (Below.refl _ _) m))) _ _ rh.1 rh.2 ra.1 ra.2
      have HCC := hid hc
      have hla : gt L a < gt L h := HP.out.less a h (Nat.le_refl _) (by omega) (by omega) (by omega)
      have HLA := hid hla
      clear hc rh ra hla
      by_cases hlv : K (gt L h) < K (gt L a)
      · obtain ⟨V, hV⟩ : ∃ V, V = cfv K (gt L h) (gt L a) := ⟨_, rfl⟩
        have hV0 : V < 0 := by rw [hV, cfv_lt hlv]; omega
        rw [← hV] at HCC
        have HF2 := hid (HF.out.right HMo.out (h := h) (by omega) (.inl hlv))
        have HV' := hid hV; clear hV hlv
        go_quiet (first | (go_at_call 18; exact Calls.quiet_of (HCC.out _)))
        go_wp2
        go_round
        case rel => exact ⟨h + 1, q, k + nq, by omega, by omega, hq, by go_num, rfl, hid (by rw [HW.out]; exact World.drewN_drewN ..), HF2⟩
        case measure => simp [intOf]; omega
      · obtain ⟨V, hV⟩ : ∃ V, V = cfv K (gt L h) (gt L a) := ⟨_, rfl⟩
        have hV0 : ¬ V < 0 := by rw [hV]; have := cfv_ge hlv; omega
        rw [← hV] at HCC
        have HF2 := hid (HF.out.left HMo.out (h := h) (by omega) (fun hx => hlv (by have := HLA.out; unfold Ahd at hx; omega)))
        have HV' := hid hV; clear hV hlv
        go_quiet (first | (go_at_call 18; exact Calls.quiet_of (HCC.out _)))
        go_wp2
        go_round
        case rel => exact ⟨p, h, k + nq, hp, h1, by omega, rfl, by go_num, hid (by rw [HW.out]; exact World.drewN_drewN ..), HF2⟩
        case measure => simp [intOf]; omega
    · obtain rfl : p = q := by omega
      go_wp2
      go_loopw [13] (fun i wr => ∃ (k : Nat) (M : List Int), a ≤ k ∧ k + 1 ≤ p ∧ i = .int .i64 k ∧ Hid (I.Own wr base (some ⟨g, 0, none⟩) c M) ∧ Hid (Kpt (Blk (some ⟨g, 0, none⟩)) w wr) ∧ Hid (Via (roI a (a + 1) (k + 1)) L M)) (fun i _ => p - (intOf i).toNat)
      case atStart => exact ⟨a, L, Nat.le_refl _, by omega, rfl, HOw, HKw, hid (Via.refl L fun p => roI_none ..)⟩
      case round =>
        obtain ⟨k2, M, hk1, hk2, rfl, HM, HK, HV⟩ := hrel
        have HL : Hid (M.length = L.length) := HV.out.1
        by_cases hlt2 : k2 + 1 < p
        · have hz : (k2 : Int) < (p : Int) - 1 := by omega
          have c1 := HM.out.cell (i := k2) (by have := HL.out; omega)
          have c2 := HM.out.cell (i := k2 + 1) (by have := HL.out; omega)
          have f1 := HM.out.frz k2
          have f2 := HM.out.frz (k2 + 1)
          have z1 : (k2 : Int) + 1 < (L.length : Int) := by omega
          have z2 : (k2 : Int) < (L.length : Int) := by omega
          go_wp2_with fail
          go_big_region
          obtain ⟨W2, hW2⟩ : ∃ W2, W2 = ((wr.setCell ⟨g, k2, none⟩ (.int .i64 (gt M (k2 + 1)))).setCell ⟨g, k2 + 1, none⟩ (.int .i64 (gt M k2))).drew := ⟨_, rfl⟩
          rw [← hW2]
          have HM2 : Hid (I.Own W2 base (some ⟨g, 0, none⟩) c (swL M k2 (k2 + 1))) := by
            rw [hW2]; exact (HM.out.swap (by have := HL.out; omega) (by have := HL.out; omega)).drewN 1
          have HK2 : Hid (Kpt (Blk (some ⟨g, 0, none⟩)) w W2) := by
            rw [hW2]; exact hid (((HK.out.setCell (p := ⟨g, k2, none⟩) ⟨⟨g, 0, none⟩, rfl, rfl⟩ _).setCell (p := ⟨g, k2 + 1, none⟩) ⟨⟨g, 0, none⟩, rfl, rfl⟩ _).drew)
          have HV2 : Hid (Via (roI a (a + 1) (k2 + 2)) L (swL M k2 (k2 + 1))) :=
            HV.out.comp (swL_via (by have := HL.out; omega) (by have := HL.out; omega)) (roI_up hk1)
          clear hW2 HM HK HV c1 c2 f1 f2
          go_wp2
          go_round
          case rel => exact ⟨k2 + 1, _, by omega, by omega, by go_num, HM2, HK2, HV2⟩
          case measure => simp [intOf]; omega
        · obtain rfl : p = k2 + 1 := by omega
          have hz : ¬ (k2 : Int) < (k2 : Int) + 1 - 1 := by omega
          go_wp2
          go_end0
          exact ⟨rfl, M, HM.out, HK.out, HL.out, inl_done hp hq HP.out.two HP.out.less HV.out HF.out.lo fun c h1 h2 => Ahd.or' (HF.out.hi c h1 h2) (HP.out.less a c (Nat.le_refl _) (by omega) (by omega) h2)⟩

set_option maxRecDepth 20000 in
set_option maxHeartbeats 4000000 in
theorem sym_two (w : World) (base g c a m : Nat) (n : Int) (L : List Int) (cs : Array Value) (K : Int → Int) (hO : I.Own w base (some ⟨g, 0, none⟩) c L) (hC : Cmp w (Blk (some ⟨g, 0, none⟩)) cs n K) (hI : Rgn n L) (ham : a + 1 < m) (hb : m + 1 ≤ L.length) (hP : Pre K a m (m + 1) L) :
    Calls Try.prog 27 #[.slice (some ⟨g, 0, none⟩) L.length c, .int .i64 a, .int .i64 m, .int .i64 ((m : Int) + 1), .func (.func 18) #[] cs] w (Moves w base (some ⟨g, 0, none⟩) c L (fun M => Seg a (m + 1) L M ∧ Srt K a (m + 1) M)) := by
  have hlen := hO.2.2
  have HO := hid hO
  have HC := hid hC
  have HI := hid hI
  have HP := hid hP
  go_enter Try.func27, Try.ntmps27
  clear hO hC hI hP
  have e0 : decide ((m : Int) - (a : Int) = 1) = false := decide_eq_false (by omega)
  have e1 : decide ((m : Int) + 1 - (m : Int) = 1) = true := by simp; omega
  have HMo : Hid (∀ c c', a ≤ c' → c' ≤ c → c < m → Ahd K (gt L c) (gt L m) → Ahd K (gt L c') (gt L m)) := fun c c' h1 h2 h3 h4 => by
    by_cases h : c' = c
    · rw [h]; exact h4
    · exact (HP.out.one c' c h1 (by omega) h3).trans h4
  go_wp2
  go_loopw [14, 15] (fun i j wr => ∃ (p q k : Nat), a ≤ p ∧ p ≤ q ∧ q ≤ m ∧ i = .int .i64 p ∧ j = .int .i64 q ∧ Hid (wr = w.drewN k) ∧ Hid (Fnd (fun c => Ahd K (gt L c) (gt L m)) a m p q)) (fun i j _ => (intOf j).toNat - (intOf i).toNat)
  case atStart => exact ⟨a, m, 0, Nat.le_refl _, by omega, Nat.le_refl _, rfl, rfl, hid rfl, hid ⟨fun c h1 h2 => by omega, fun c h1 h2 => by omega⟩⟩
  case round =>
    obtain ⟨p, q, k, hp, hpq, hq, rfl, rfl, HW, HF⟩ := hrel
    have HOw : Hid (I.Own wr base (some ⟨g, 0, none⟩) c L) := by rw [HW.out]; exact HO.out.drewN k
    have HKw : Hid (Kpt (Blk (some ⟨g, 0, none⟩)) w wr) := by rw [HW.out]; exact Kpt.of (bdrewN (Below.refl _ _) k)
    by_cases hlt : p < q
    · have hltz : (p : Int) < (q : Int) := by omega
      obtain ⟨h, hh⟩ : ∃ h, h = (p + q) / 2 := ⟨_, rfl⟩
      have h1 : p ≤ h := by omega
      have h2 : h < q := by omega
      have eh : ((p : Int) + (q : Int)) / 2 = (h : Int) := by omega
      have hz : (h : Int) < (L.length : Int) := by omega
      have az : (m : Int) < (L.length : Int) := by omega
      clear hh
      go_upto_region 17 with fail
      have HE := hid eh
      clear eh
      have ch := HOw.out.cell (i := h) (by omega)
      have ca := HOw.out.cell (i := m) (by omega)
      have rh := HI.out h (by omega)
      have ra := HI.out m (by omega)
      have hc : ∀ x, Calls Try.prog 18 (#[.int .i64 (gt L m), .int .i64 (gt L h)] ++ cs) (wr.drewN x) fun e w2 => e = .returned (.int .i64 (cfv K (gt L m) (gt L h))) ∧ ∃ y, w2 = (wr.drewN x).drewN y := fun x =>
        HC.out _ (HKw.out.tr (Kpt.of (bdrewN (Below.refl _ _) x))) _ _ ra.1 ra.2 rh.1 rh.2
      have HCC := hid hc
      have hla : gt L h < gt L m := HP.out.less h m (by omega) (by omega) (Nat.le_refl _) (by omega)
      have HLA := hid hla
      clear hc rh ra hla
      by_cases hlv : K (gt L m) < K (gt L h)
      · obtain ⟨V, hV⟩ : ∃ V, V = cfv K (gt L m) (gt L h) := ⟨_, rfl⟩
        have hV0 : V < 0 := by rw [hV, cfv_lt hlv]; omega
        rw [← hV] at HCC
        have HF2 := hid (HF.out.left HMo.out (h := h) (by omega) (fun hx => by have := HLA.out; unfold Ahd at hx; omega))
        have HV' := hid hV; clear hV hlv
        go_quiet (first | (go_at_call 18; exact Calls.quiet_of (HCC.out _)))
        go_wp2
        go_round
        case rel => exact ⟨p, h, k + nq, hp, h1, by omega, rfl, by go_num, hid (by rw [HW.out]; exact World.drewN_drewN ..), HF2⟩
        case measure => simp [intOf]; omega
      · obtain ⟨V, hV⟩ : ∃ V, V = cfv K (gt L m) (gt L h) := ⟨_, rfl⟩
        have hV0 : ¬ V < 0 := by rw [hV]; have := cfv_ge hlv; omega
        rw [← hV] at HCC
        have HF2 := hid (HF.out.right HMo.out (h := h) (by omega) ((ahd_le HLA.out).2 hlv))
        have HV' := hid hV; clear hV hlv
        go_quiet (first | (go_at_call 18; exact Calls.quiet_of (HCC.out _)))
        go_wp2
        go_round
        case rel => exact ⟨h + 1, q, k + nq, by omega, by omega, hq, by go_num, rfl, hid (by rw [HW.out]; exact World.drewN_drewN ..), HF2⟩
        case measure => simp [intOf]; omega
    · obtain rfl : p = q := by omega
      go_wp2
      go_loopw [17] (fun i wr => ∃ (k : Nat) (M : List Int), p ≤ k ∧ k ≤ m ∧ i = .int .i64 k ∧ Hid (I.Own wr base (some ⟨g, 0, none⟩) c M) ∧ Hid (Kpt (Blk (some ⟨g, 0, none⟩)) w wr) ∧ Hid (Via (roI k m (m + 1)) L M)) (fun i _ => (intOf i).toNat)
      case atStart => exact ⟨m, L, by omega, Nat.le_refl _, rfl, HOw, HKw, hid (Via.refl L fun p => roI_none' ..)⟩
      case round =>
        obtain ⟨k2, M, hk1, hk2, rfl, HM, HK, HV⟩ := hrel
        have HL : Hid (M.length = L.length) := HV.out.1
        by_cases hlt2 : p < k2
        · obtain ⟨k3, rfl⟩ : ∃ k3, k2 = k3 + 1 := ⟨k2 - 1, by omega⟩
          have hz : (p : Int) < (k3 : Int) + 1 := by omega
          have c1 := HM.out.cell (i := k3) (by have := HL.out; omega)
          have c2 := HM.out.cell (i := k3 + 1) (by have := HL.out; omega)
          have f1 := HM.out.frz k3
          have f2 := HM.out.frz (k3 + 1)
          have z1 : (k3 : Int) + 1 < (L.length : Int) := by omega
          have z2 : (k3 : Int) < (L.length : Int) := by omega
          go_wp2_with fail
          go_big_region
          obtain ⟨W2, hW2⟩ : ∃ W2, W2 = ((wr.setCell ⟨g, k3 + 1, none⟩ (.int .i64 (gt M k3))).setCell ⟨g, k3, none⟩ (.int .i64 (gt M (k3 + 1)))).drew := ⟨_, rfl⟩
          rw [← hW2]
          have HM2 : Hid (I.Own W2 base (some ⟨g, 0, none⟩) c (swL M (k3 + 1) k3)) := by
            rw [hW2]; exact (HM.out.swap (by have := HL.out; omega) (by have := HL.out; omega)).drewN 1
          have HK2 : Hid (Kpt (Blk (some ⟨g, 0, none⟩)) w W2) := by
            rw [hW2]; exact hid (((HK.out.setCell (p := ⟨g, k3 + 1, none⟩) ⟨⟨g, 0, none⟩, rfl, rfl⟩ _).setCell (p := ⟨g, k3, none⟩) ⟨⟨g, 0, none⟩, rfl, rfl⟩ _).drew)
          have HV2 : Hid (Via (roI k3 m (m + 1)) L (swL M (k3 + 1) k3)) :=
            HV.out.comp (swL_via (by have := HL.out; omega) (by have := HL.out; omega)) (roI_down (by omega))
          clear hW2 HM HK HV c1 c2 f1 f2
          go_wp2
          go_round
          case rel => exact ⟨k3, _, by omega, by omega, by go_num, HM2, HK2, HV2⟩
          case measure => simp [intOf]
        · obtain rfl : p = k2 := by omega
          have hz : ¬ (p : Int) < (p : Int) := by omega
          go_wp2
          go_end0
          exact ⟨rfl, M, HM.out, HK.out, HL.out, ins_done hp hk2 HP.out.one HP.out.less HV.out (fun c h1 h2 => Ahd.or (HF.out.hi c h1 h2) (HP.out.less c m (by omega) h2 (Nat.le_refl _) (by omega))) HF.out.lo⟩
end Go.Proofs.Ythkkpcfmifhllaa
