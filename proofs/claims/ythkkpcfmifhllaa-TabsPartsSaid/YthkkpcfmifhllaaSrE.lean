/- Package slices: stableCmpFunc, SortStableFunc at int, up to 80 numbers. -/
import Derived.Test.YthkkpcfmifhllaaSrD
import Derived.Deep.DeepCutAuto
namespace Go.Proofs.Ythkkpcfmifhllaa
open Go.RowKit Go.ChangeShapes

/-- the first phase: blocks of 20, in order below a -/
structure St1 (K : Int → Int) (n a : Nat) (M : List Int) : Prop where
  done : ∀ p q, p < q → q < a → p / 20 = q / 20 → Ahd K (gt M p) (gt M q)
  grp : ∀ p q, p < q → q < n → (a ≤ p ∨ p / 20 ≠ q / 20) → gt M p < gt M q
theorem St1.step {K : Int → Int} {n a b : Nat} {L M : List Int} (h : St1 K n a L) (ha : a % 20 = 0) (hab : a ≤ b) (hb : b ≤ n) (hb2 : b = a + 20 ∨ (b = n ∧ b ≤ a + 20)) (s : Seg a b L M) (t : Srt K a b M) : St1 K n b M := by
  refine ⟨fun p q h1 h2 h3 => ?_, fun p q h1 h2 h3 => ?_⟩
  · by_cases hp : a ≤ p
    · exact t p q hp h1 h2
    · rw [s.out p (by omega), s.out q (by omega)]; exact h.done p q h1 (by omega) h3
  · have hp : ∃ p0, gt M p = gt L p0 ∧ (p0 = p ∧ (p < a ∨ b ≤ p) ∨ a ≤ p ∧ p < b ∧ a ≤ p0 ∧ p0 < b) := by
      by_cases c : a ≤ p ∧ p < b
      · obtain ⟨r, r1, r2, r3⟩ := s.fwd p c.1 c.2; exact ⟨r, r3, .inr ⟨c.1, c.2, r1, r2⟩⟩
      · exact ⟨p, s.out p (by omega), .inl ⟨rfl, by omega⟩⟩
    have hq : ∃ q0, gt M q = gt L q0 ∧ (q0 = q ∧ (q < a ∨ b ≤ q) ∨ a ≤ q ∧ q < b ∧ a ≤ q0 ∧ q0 < b) := by
      by_cases c : a ≤ q ∧ q < b
      · obtain ⟨r, r1, r2, r3⟩ := s.fwd q c.1 c.2; exact ⟨r, r3, .inr ⟨c.1, c.2, r1, r2⟩⟩
      · exact ⟨q, s.out q (by omega), .inl ⟨rfl, by omega⟩⟩
    obtain ⟨p0, p1, p2⟩ := hp
    obtain ⟨q0, q1, q2⟩ := hq
    rw [p1, q1]
    exact h.grp p0 q0 (by omega) (by omega) (by omega)
/-- the second phase: blocks of bs are merged to blocks of b2 -/
structure St2 (K : Int → Int) (n bs b2 a : Nat) (M : List Int) : Prop where
  done : ∀ p q, p < q → q < a → p / b2 = q / b2 → Ahd K (gt M p) (gt M q)
  todo : ∀ p q, a ≤ p → p < q → q < n → p / bs = q / bs → Ahd K (gt M p) (gt M q)
  grp : ∀ p q, p < q → q < n → p / bs ≠ q / bs → (a ≤ p ∨ p / b2 ≠ q / b2) → gt M p < gt M q
theorem St1.two {K : Int → Int} {n : Nat} {M : List Int} (h : St1 K n n M) : St2 K n 20 40 0 M :=
  ⟨fun p q _ h2 => by omega, fun p q _ h1 h2 h3 => h.done p q h1 h2 h3, fun p q h1 h2 h3 _ => h.grp p q h1 h2 (.inr h3)⟩
theorem St2.pre {K : Int → Int} {n bs b2 a m b : Nat} {M : List Int} (h : St2 K n bs b2 a M) (hs : (bs = 20 ∧ b2 = 40) ∨ (bs = 40 ∧ b2 = 80)) (ha : a % b2 = 0) (hm : m = a + bs) (hmb : m ≤ b) (hb : b ≤ n) (hb2 : b ≤ a + b2) : Pre K a m b M := by
  refine ⟨fun p q h1 h2 h3 => h.todo p q h1 h2 (by omega) ?_, fun p q h1 h2 h3 => h.todo p q (by omega) h2 (by omega) ?_, fun p q h1 h2 h3 h4 => h.grp p q (by omega) (by omega) ?_ (.inl h1)⟩
  all_goals (rcases hs with ⟨rfl, rfl⟩ | ⟨rfl, rfl⟩ <;> omega)
theorem St2.step {K : Int → Int} {n bs b2 a b : Nat} {L M : List Int} (h : St2 K n bs b2 a L) (hs : (bs = 20 ∧ b2 = 40) ∨ (bs = 40 ∧ b2 = 80)) (ha : a % b2 = 0) (hab : a ≤ b) (hb : b ≤ n) (hb2 : b = a + b2 ∨ (b = n ∧ b ≤ a + b2)) (s : Seg a b L M) (t : Srt K a b M) : St2 K n bs b2 b M := by
  refine ⟨fun p q h1 h2 h3 => ?_, fun p q h0 h1 h2 h3 => ?_, fun p q h1 h2 h3 h4 => ?_⟩
  · by_cases hp : a ≤ p
    · exact t p q hp h1 h2
    · have hq : q < a := by rcases hs with ⟨rfl, rfl⟩ | ⟨rfl, rfl⟩ <;> omega
      rw [s.out p (by omega), s.out q (by omega)]; exact h.done p q h1 hq h3
  · rw [s.out p (by omega), s.out q (by omega)]; exact h.todo p q (by omega) h1 h2 h3
  · have hp : ∃ p0, gt M p = gt L p0 ∧ (p0 = p ∧ (p < a ∨ b ≤ p) ∨ a ≤ p ∧ p < b ∧ a ≤ p0 ∧ p0 < b) := by
      by_cases c : a ≤ p ∧ p < b
      · obtain ⟨r, r1, r2, r3⟩ := s.fwd p c.1 c.2; exact ⟨r, r3, .inr ⟨c.1, c.2, r1, r2⟩⟩
      · exact ⟨p, s.out p (by omega), .inl ⟨rfl, by omega⟩⟩
    have hq : ∃ q0, gt M q = gt L q0 ∧ (q0 = q ∧ (q < a ∨ b ≤ q) ∨ a ≤ q ∧ q < b ∧ a ≤ q0 ∧ q0 < b) := by
      by_cases c : a ≤ q ∧ q < b
      · obtain ⟨r, r1, r2, r3⟩ := s.fwd q c.1 c.2; exact ⟨r, r3, .inr ⟨c.1, c.2, r1, r2⟩⟩
      · exact ⟨q, s.out q (by omega), .inl ⟨rfl, by omega⟩⟩
    obtain ⟨p0, p1, p2⟩ := hp
    obtain ⟨q0, q1, q2⟩ := hq
    rw [p1, q1]
    rcases hs with ⟨rfl, rfl⟩ | ⟨rfl, rfl⟩
    · exact h.grp p0 q0 (by omega) (by omega) (by omega) (by omega)
    · exact h.grp p0 q0 (by omega) (by omega) (by omega) (by omega)
theorem St2.skip {K : Int → Int} {n bs b2 a : Nat} {M : List Int} (h : St2 K n bs b2 a M) (hs : (bs = 20 ∧ b2 = 40) ∨ (bs = 40 ∧ b2 = 80)) (ha : a % b2 = 0) (hn : n ≤ a + bs) : St2 K n bs b2 n M := by
  refine ⟨fun p q h1 h2 h3 => ?_, fun p q h0 h1 h2 h3 => by omega, fun p q h1 h2 h3 h4 => h.grp p q h1 h2 h3 ?_⟩
  · by_cases hp : a ≤ p
    · exact h.todo p q hp h1 h2 (by rcases hs with ⟨rfl, rfl⟩ | ⟨rfl, rfl⟩ <;> omega)
    · exact h.done p q h1 (by rcases hs with ⟨rfl, rfl⟩ | ⟨rfl, rfl⟩ <;> omega) h3
  · rcases h4 with h4 | h4
    · omega
    · exact .inr h4
theorem St2.next {K : Int → Int} {n : Nat} {M : List Int} (h : St2 K n 20 40 n M) : St2 K n 40 80 0 M :=
  ⟨fun p q _ h2 => by omega, fun p q _ h1 h2 h3 => h.done p q h1 h2 h3, fun p q h1 h2 h3 _ => h.grp p q h1 h2 (by omega) (.inr h3)⟩

set_option maxRecDepth 20000 in
set_option maxHeartbeats 4000000 in
/-- nothing to do -/
theorem insort0_c (w : World) (v f : Value) (a b : Nat) (ha : a ≤ 1099511627776) (hb : b ≤ a + 1) :
    Calls Try.prog 26 #[v, .int .i64 a, .int .i64 b, f] w fun e w' => e = .returned (.tuple #[]) ∧ w' = w := by
  go_enter Try.func26, Try.ntmps26
  have hz : ¬ (a : Int) + 1 < (b : Int) := by omega
  go_wp2
  go_loopw [8] (fun i wr => i = .int .i64 ((a : Int) + 1) ∧ wr = w) (fun _ _ => 0)
  case atStart => exact ⟨by go_num, rfl⟩
  case round =>
    obtain ⟨rfl, rfl⟩ := hrel
    go_wp2
    go_end0
    exact ⟨rfl, rfl⟩

set_option maxRecDepth 20000 in
set_option maxHeartbeats 8000000 in
theorem stable_c (w : World) (base g c : Nat) (n : Int) (L : List Int) (cs : Array Value) (K : Int → Int) (hO : I.Own w base (some ⟨g, 0, none⟩) c L) (hC : Cmp w (Blk (some ⟨g, 0, none⟩)) cs n K) (hI : Rgn n L) (hl : L.length ≤ 80) (hA : ∀ p q, p < q → q < L.length → gt L p < gt L q) :
    Calls Try.prog 23 #[.slice (some ⟨g, 0, none⟩) L.length c, .int .i64 L.length, .func (.func 18) #[] cs] w (Moves w base (some ⟨g, 0, none⟩) c L (fun M => Seg 0 L.length L M ∧ Srt K 0 L.length M)) := by
  have HO := hid hO
  have HC := hid hC
  have HI := hid hI
  have HA := hid hA
  go_enter Try.func23, Try.ntmps23
  clear hO hC hI hA
  go_wp2
  go_loopw [7, 8] (fun i j wr => ∃ (a : Nat) (M : List Int), a ≤ L.length ∧ i = .int .i64 a ∧ j = .int .i64 ((a : Int) + 20) ∧ Hid (a % 20 = 0) ∧ Hid (I.Own wr base (some ⟨g, 0, none⟩) c M) ∧ Hid (Kpt (Blk (some ⟨g, 0, none⟩)) w wr) ∧ Hid (M.length = L.length) ∧ Hid (Seg 0 L.length L M) ∧ Hid (St1 K L.length a M)) (fun i _ _ => 100 - (intOf i).toNat)
  case atStart => exact ⟨0, L, Nat.zero_le _, rfl, rfl, hid rfl, HO, hid (Kpt.refl _ _), hid rfl, hid (Seg.refl _ _ _), hid ⟨fun p q h1 h2 => by omega, fun p q h1 h2 _ => HA.out p q h1 h2⟩⟩
  case round =>
    obtain ⟨a, M, ha, rfl, rfl, HZ, HM, HK, HL, HS, HT⟩ := hrel
    have HR : Hid (Rgn n M) := HI.out.seg HS.out (Nat.le_refl _)
    by_cases hlt : a + 20 ≤ L.length
    · have hz : (a : Int) + 20 ≤ (L.length : Int) := by omega
      have hs := insort_c wr base g c a (a + 20) n M cs K HM.out (HC.out.kpt HK.out) HR.out (by omega) (by have := HL.out; omega) fun p q h1 h2 h3 => HT.out.grp p q h2 (by omega) (.inl h1)
      rw [HL.out] at hs
      go_wp2_with fail
      refine hs.mono ?_
      rintro _ w2 ⟨rfl, M2, o2, k2, l2, s2, t2⟩
      have HO2 := hid o2
      have HL2 : Hid (M2.length = L.length) := l2.trans HL.out
      have HS2 : Hid (Seg 0 L.length L M2) := HS.out.trans (s2.widen (Nat.zero_le _) (by omega))
      have HT2 : Hid (St1 K L.length (a + 20) M2) := HT.out.step HZ.out (by omega) hlt (.inl rfl) s2 t2
      have HK2 : Hid (Kpt (Blk (some ⟨g, 0, none⟩)) w w2) := HK.out.tr k2
      have HZ2 : Hid ((a + 20) % 20 = 0) := by have := HZ.out; show _ = _; omega
      clear hs o2 k2 l2 s2 t2 HM HK HL HS HT HR
      go_wp2
      go_round
      case rel => exact ⟨a + 20, M2, hlt, by go_num, by go_num, HZ2, HO2, HK2, HL2, HS2, HT2⟩
      case measure => simp [intOf]; omega
    · have hz : ¬ (a : Int) + 20 ≤ (L.length : Int) := by omega
      go_upto_region 6 with fail
      go_cut [] (fun wx => ∃ M2, Hid (I.Own wx base (some ⟨g, 0, none⟩) c M2) ∧ Hid (Kpt (Blk (some ⟨g, 0, none⟩)) w wx) ∧ Hid (M2.length = L.length) ∧ Hid (Seg 0 L.length L M2) ∧ Hid (St2 K L.length 20 40 0 M2))
      case first =>
        by_cases ha2 : a < L.length
        · have hs := insort_c wr base g c a L.length n M cs K HM.out (HC.out.kpt HK.out) HR.out ha2 (by have := HL.out; omega) fun p q h1 h2 h3 => HT.out.grp p q h2 (by omega) (.inl h1)
          rw [HL.out] at hs
          go_wp2_with fail
          refine hs.mono ?_
          rintro _ w2 ⟨rfl, M2, o2, k2, l2, s2, t2⟩
          have HT2 : Hid (St1 K L.length L.length M2) := HT.out.step HZ.out (by omega) (Nat.le_refl _) (.inr ⟨rfl, by omega⟩) s2 t2
          have HS2 : Hid (Seg 0 L.length L M2) := HS.out.trans (s2.widen (Nat.zero_le _) (Nat.le_refl _))
          have HO2 := hid o2
          have HK2 : Hid (Kpt (Blk (some ⟨g, 0, none⟩)) w w2) := HK.out.tr k2
          have HL2 : Hid (M2.length = L.length) := l2.trans HL.out
          clear hs o2 k2 l2 s2 t2 HM HK HL HS HT HR
          go_wp2
          go_meet
          exact ⟨M2, HO2, HK2, HL2, HS2, HT2.out.two⟩
        · have hs := insort0_c wr (.slice (some ⟨g, 0, none⟩) L.length c) (.func (.func 18) #[] cs) a L.length (by omega) (by omega)
          go_wp2_with fail
          refine hs.mono ?_
          rintro _ w2 ⟨rfl, rfl⟩
          have HT2 : Hid (St1 K L.length L.length M) := by rw [show L.length = a by omega] at HT ⊢; exact HT
          clear hs
          go_wp2
          go_meet
          exact ⟨M, HM, HK, HL, HS, HT2.out.two⟩
      case rest =>
        obtain ⟨M2, HO2, HK2, HL2, HS2, HT2⟩ := hcut
        clear HM HK HL HS HT HR
        go_wp2
        go_loopw [6] (fun i wr => ∃ M, Hid (I.Own wr base (some ⟨g, 0, none⟩) c M) ∧ Hid (Kpt (Blk (some ⟨g, 0, none⟩)) w wr) ∧ Hid (M.length = L.length) ∧ Hid (Seg 0 L.length L M) ∧
          ((∃ bs b2 : Nat, i = .int .i64 bs ∧ Hid ((bs = 20 ∧ b2 = 40) ∨ (bs = 40 ∧ b2 = 80)) ∧ Hid (St2 K L.length bs b2 0 M)) ∨ (i = .int .i64 80 ∧ Hid (Srt K 0 L.length M)))) (fun i _ => 100 - (intOf i).toNat)
        case atStart => exact ⟨M2, HO2, HK2, HL2, HS2, .inl ⟨20, 40, rfl, hid (.inl ⟨rfl, rfl⟩), HT2⟩⟩
        case round =>
          obtain ⟨M, HM, HK, HL, HS, hst⟩ := hrel
          clear HO2 HK2 HL2 HS2 HT2
          rcases hst with ⟨bs, b2, rfl, HB, HT⟩ | ⟨rfl, HT⟩
          · have hb1 : bs ≤ 40 := by have := HB.out; omega
            have hb2 : b2 ≤ 80 := by have := HB.out; omega
            have hb3 : 20 ≤ bs := by have := HB.out; omega
            by_cases hn : bs < L.length
            · have hz : (bs : Int) < (L.length : Int) := by omega
              have e1 : 2 * (bs : Int) = (b2 : Int) := by have := HB.out; omega
              have e2 : (bs : Int) * 2 = (b2 : Int) := by have := HB.out; omega
              go_wp2
              go_loopw [7, 8] (fun i j wr => ∃ (a : Nat) (M : List Int), a ≤ L.length ∧ i = .int .i64 a ∧ j = .int .i64 ((a : Int) + b2) ∧ Hid (a % b2 = 0) ∧ Hid (I.Own wr base (some ⟨g, 0, none⟩) c M) ∧ Hid (Kpt (Blk (some ⟨g, 0, none⟩)) w wr) ∧ Hid (M.length = L.length) ∧ Hid (Seg 0 L.length L M) ∧ Hid (St2 K L.length bs b2 a M)) (fun i _ _ => 100 - (intOf i).toNat)
              case atStart => exact ⟨0, M, Nat.zero_le _, rfl, by go_num, hid (Nat.zero_mod _), HM, HK, HL, HS, HT⟩
              case round =>
                obtain ⟨a, N, han, rfl, rfl, HZ, HM2, HK2, HL2, HS2, HT2⟩ := hrel
                clear HM HK HL HS HT
                have HR : Hid (Rgn n N) := HI.out.seg HS2.out (Nat.le_refl _)
                by_cases hlt : a + b2 ≤ L.length
                · have hz2 : (a : Int) + (b2 : Int) ≤ (L.length : Int) := by omega
                  have hs := sym_all base g c n cs K (b2) wr a (a + bs) (a + b2) N (by omega) HM2.out (HC.out.kpt HK2.out) HR.out (by omega) (by have := HB.out; omega) (by have := HL2.out; omega) (HT2.out.pre HB.out HZ.out rfl (by have := HB.out; omega) hlt (Nat.le_refl _))
                  rw [HL2.out] at hs
                  go_wp2_with fail
                  refine hs.mono ?_
                  rintro _ w2 ⟨rfl, M3, o2, k2, l2, s2, t2⟩
                  have HO3 := hid o2
                  have HL3 : Hid (M3.length = L.length) := l2.trans HL2.out
                  have HS3 : Hid (Seg 0 L.length L M3) := HS2.out.trans (s2.widen (Nat.zero_le _) hlt)
                  have HT3 : Hid (St2 K L.length bs b2 (a + b2) M3) := HT2.out.step HB.out HZ.out (by omega) hlt (.inl rfl) s2 t2
                  have HK3 : Hid (Kpt (Blk (some ⟨g, 0, none⟩)) w w2) := HK2.out.tr k2
                  have HZ3 : Hid ((a + b2) % b2 = 0) := by rw [Hid, Nat.add_mod_right]; exact HZ.out
                  clear hs o2 k2 l2 s2 t2 HM2 HK2 HL2 HS2 HT2 HR
                  go_wp2
                  go_round
                  case rel => exact ⟨a + b2, M3, hlt, by go_num, by go_num, HZ3, HO3, HK3, HL3, HS3, HT3⟩
                  case measure => simp [intOf]; omega
                · have hz2 : ¬ (a : Int) + (b2 : Int) ≤ (L.length : Int) := by omega
                  by_cases hm : a + bs < L.length
                  · have hz3 : (a : Int) + (bs : Int) < (L.length : Int) := by omega
                    have hs := sym_all base g c n cs K (b2) wr a (a + bs) L.length N (by omega) HM2.out (HC.out.kpt HK2.out) HR.out (by omega) hm (by have := HL2.out; omega) (HT2.out.pre HB.out HZ.out rfl (by omega) (Nat.le_refl _) (by omega))
                    rw [HL2.out] at hs
                    go_wp2_with fail
                    refine hs.mono ?_
                    rintro _ w2 ⟨rfl, M3, o2, k2, l2, s2, t2⟩
                    have HO3 := hid o2
                    have HL3 : Hid (M3.length = L.length) := l2.trans HL2.out
                    have HS3 : Hid (Seg 0 L.length L M3) := HS2.out.trans (s2.widen (Nat.zero_le _) (Nat.le_refl _))
                    have HT3 : Hid (St2 K L.length bs b2 L.length M3) := HT2.out.step HB.out HZ.out (by omega) (Nat.le_refl _) (.inr ⟨rfl, by omega⟩) s2 t2
                    have HK3 : Hid (Kpt (Blk (some ⟨g, 0, none⟩)) w w2) := HK2.out.tr k2
                    clear hs o2 k2 l2 s2 t2 HM2 HK2 HL2 HS2 HT2 HR
                    go_wp2
                    go_round
                    case rel =>
                      refine ⟨M3, HO3, HK3, HL3, HS3, ?_⟩
                      have hB := HB.out
                      rcases hB with ⟨rfl, rfl⟩ | ⟨rfl, rfl⟩
                      · exact .inl ⟨40, 80, by go_num, hid (.inr ⟨rfl, rfl⟩), HT3.out.next⟩
                      · exact .inr ⟨by go_num, fun p q h1 h2 h3 => HT3.out.done p q h2 h3 (by omega)⟩
                    case measure => have := HB.out; simp [intOf]; omega
                  · have hz3 : ¬ (a : Int) + (bs : Int) < (L.length : Int) := by omega
                    have HT3 : Hid (St2 K L.length bs b2 L.length N) := HT2.out.skip HB.out HZ.out (by omega)
                    go_wp2
                    go_round
                    case rel =>
                      refine ⟨N, HM2, HK2, HL2, HS2, ?_⟩
                      have hB := HB.out
                      rcases hB with ⟨rfl, rfl⟩ | ⟨rfl, rfl⟩
                      · exact .inl ⟨40, 80, by go_num, hid (.inr ⟨rfl, rfl⟩), HT3.out.next⟩
                      · exact .inr ⟨by go_num, fun p q h1 h2 h3 => HT3.out.done p q h2 h3 (by omega)⟩
                    case measure => have := HB.out; simp [intOf]; omega
            · have hz : ¬ (bs : Int) < (L.length : Int) := by omega
              go_wp2
              go_end0
              exact ⟨rfl, M, HM.out, HK.out, HL.out, HS.out, fun p q h1 h2 h3 => HT.out.todo p q h1 h2 h3 (by rw [Nat.div_eq_of_lt (by omega), Nat.div_eq_of_lt (by omega)])⟩
          · have hz : ¬ (80 : Int) < (L.length : Int) := by omega
            go_wp2
            go_end0
            exact ⟨rfl, M, HM.out, HK.out, HL.out, HS.out, HT.out⟩

set_option maxRecDepth 20000 in
set_option maxHeartbeats 4000000 in
theorem stable0_c (w : World) (v f : Value) : Calls Try.prog 23 #[v, .int .i64 0, f] w fun e w' => e = .returned (.tuple #[]) ∧ w' = w := by
  go_enter Try.func23, Try.ntmps23
  go_wp2
  go_loopw [7, 8] (fun i j wr => i = .int .i64 0 ∧ j = .int .i64 20 ∧ wr = w) (fun _ _ _ => 0)
  case atStart => exact ⟨rfl, rfl, rfl⟩
  case round =>
    obtain ⟨rfl, rfl, rfl⟩ := hrel
    go_wp2_with fail
    refine (insort0_c wr v f 0 0 (by omega) (by omega)).mono ?_
    rintro _ w2 ⟨rfl, rfl⟩
    go_wp2
    go_loopw [6] (fun i wr => i = .int .i64 20 ∧ wr = w2) (fun _ _ => 0)
    case atStart => exact ⟨rfl, rfl⟩
    case round =>
      obtain ⟨rfl, rfl⟩ := hrel
      go_wp2
      go_end0
      exact ⟨rfl, rfl⟩
set_option maxRecDepth 20000 in
set_option maxHeartbeats 4000000 in
theorem sortstable_c (w : World) (base c : Nat) (a : Option Addr) (n : Int) (L : List Int) (cs : Array Value) (K : Int → Int) (hO : I.Own w base a c L) (hC : Cmp w (Blk a) cs n K) (hI : Rgn n L) (hl : L.length ≤ 80) (hA : ∀ p q, p < q → q < L.length → gt L p < gt L q) :
    Calls Try.prog 17 #[.slice a L.length c, .func (.func 18) #[] cs] w (Moves w base a c L (fun M => Seg 0 L.length L M ∧ Srt K 0 L.length M)) := by
  rcases hO.shape with ⟨rfl, rfl, rfl⟩ | ⟨g, rfl, _, _, _⟩
  · have HO := hid hO
    go_enter Try.func17, Try.ntmps17
    clear hO hC hI hA
    go_wp2_with fail
    refine (stable0_c w _ _).mono ?_
    rintro _ w2 ⟨rfl, rfl⟩
    go_wp2
    go_end0
    exact ⟨rfl, [], HO.out, Kpt.refl _ _, rfl, Seg.refl _ _ _, fun p q _ _ h => by cases h⟩
  · have hs := stable_c w base g c n L cs K hO hC hI hl hA
    have hl2 := hO.2.2
    go_enter Try.func17, Try.ntmps17
    clear hO hC hI hA
    go_wp2_with fail
    refine hs.mono ?_
    rintro _ w2 ⟨rfl, h⟩
    have H := hid h
    clear h hs
    go_wp2
    go_end0
    exact ⟨rfl, H.out⟩
end Go.Proofs.Ythkkpcfmifhllaa
