/- Package standishref1: Least. -/
import Derived.Test.YtnaipahapdjakaaChp
import Derived.Deep.CutBlock
import Derived.Deep.DeepCutAuto
namespace Go.Proofs.Ytnaipahapdjakaa
open Go.RowKit

theorem gt_drop (l : List Int) (a j : Nat) : gt (l.drop a) j = gt l (a + j) := by simp [gt, List.getD, List.getElem?_drop]
set_option maxHeartbeats 4000000 in
theorem rleast_c (a1 a2 : Option Addr) (c1 c2 : Nat) (s t : List Int) (w : World) (h1 : Sl w a1 s) (h2 : Sl w a2 t) (hc1 : s.length ≤ c1) (hc2 : t.length ≤ c2) :
    Calls Try.prog 29 #[.slice a1 s.length c1, .slice a2 t.length c2] w (Copies w (cpl s t : Nat) (leastC s t).cut (leastC s t).put) := by
  have hl1 := h1.len
  have hl2 := h2.len
  have hcs := csl_le s t
  have S1 := hid (h1.alloc (.cells #[.int .i64 0, .slice none 0 0, .slice none 0 0] 24))
  have S2 := hid (h2.alloc (.cells #[.int .i64 0, .slice none 0 0, .slice none 0 0] 24))
  -- what the two loops find
  have N1 : Hid (∀ k, k ≤ s.length → k ≤ t.length → s.take k = t.take k → (k = s.length ∨ k = t.length ∨ gt s k ≠ gt t k) → k = cpl s t) := fun k x y e h => (cpl_eq x y e h).symm
  have N2 : Hid (∀ k, k ≤ s.length - cpl s t → k ≤ t.length - cpl s t → (s.drop (cpl s t)).reverse.take k = (t.drop (cpl s t)).reverse.take k → (k = s.length - cpl s t ∨ k = t.length - cpl s t ∨ gt s (s.length - 1 - k) ≠ gt t (t.length - 1 - k)) → k = csl s t) := by
    intro k x y e h
    refine (cpl_eq (by simpa using x) (by simpa using y) e ?_).symm
    rcases h with h | h | h
    · left; simpa using h
    · right; left; simpa using h
    · by_cases h3 : k = s.length - cpl s t
      · left; simpa using h3
      · by_cases h4 : k = t.length - cpl s t
        · right; left; simpa using h4
        · right; right
          rw [gt_rev (by simp; omega), gt_rev (by simp; omega), gt_drop, gt_drop, List.length_drop, List.length_drop, show cpl s t + (s.length - cpl s t - 1 - k) = s.length - 1 - k by omega, show cpl s t + (t.length - cpl s t - 1 - k) = t.length - 1 - k by omega]
          exact h
  have N3 : Hid (∀ k, k < s.length - cpl s t → k < t.length - cpl s t → (s.drop (cpl s t)).reverse.take k = (t.drop (cpl s t)).reverse.take k → gt s (s.length - 1 - k) = gt t (t.length - 1 - k) → (s.drop (cpl s t)).reverse.take (k + 1) = (t.drop (cpl s t)).reverse.take (k + 1)) := by
    intro k x y e h
    rw [take_succ (by simpa using x), take_succ (by simpa using y), e, gt_rev (by simp; omega), gt_rev (by simp; omega), gt_drop, gt_drop, List.length_drop, List.length_drop, show cpl s t + (s.length - cpl s t - 1 - k) = s.length - 1 - k by omega, show cpl s t + (t.length - cpl s t - 1 - k) = t.length - 1 - k by omega, h]
  have Hcut : Hid ((leastC s t).cut = (s.take (s.length - csl s t)).drop (cpl s t)) := rfl
  have Hput : Hid ((leastC s t).put = (t.take (t.length - csl s t)).drop (cpl s t)) := rfl
  generalize (leastC s t).cut = C at Hcut ⊢
  generalize (leastC s t).put = P at Hput ⊢
  generalize cpl s t = n at hcs N1 N2 N3 Hcut Hput ⊢
  generalize csl s t = m at hcs N2 Hcut Hput
  obtain ⟨a5, c5, E1, HE1, sE1, hE1, r3⟩ := slice_mid h1 n (s.length - m) c1 (by omega) (by omega) hc1
  obtain ⟨a6, c6, E2, HE2, sE2, hE2, r4⟩ := slice_mid h2 n (t.length - m) c2 (by omega) (by omega) hc2
  obtain rfl : C = E1 := by rw [Hcut.out, HE1.out]
  obtain rfl : P = E2 := by rw [Hput.out, HE2.out]
  have hw3 : IntKind.i64.wrap ((s.length : Int) - (m : Int)) = ((s.length - m : Nat) : Int) := by rw [IntKind.wrap_i64]; omega
  have hw4 : IntKind.i64.wrap ((t.length : Int) - (m : Int)) = ((t.length - m : Nat) : Int) := by rw [IntKind.wrap_i64]; omega
  obtain ⟨p, hpq⟩ : ∃ p, s.length - m = p := ⟨_, rfl⟩
  obtain ⟨q, hqq⟩ : ∃ q, t.length - m = q := ⟨_, rfl⟩
  rw [hpq] at r3 hw3
  rw [hqq] at r4 hw4
  have hpl : n ≤ p ∧ p ≤ s.length := by omega
  have hql : n ≤ q ∧ q ≤ t.length := by omega
  clear Hcut Hput hpq hqq HE1 HE2
  have SE1 : Hid (∀ w', Below w.heap.size w w' → Sl w' a5 C) := fun w' hb => sE1.bel hb
  have SE2 : Hid (∀ w', Below w.heap.size w w' → Sl w' a6 P) := fun w' hb => sE2.bel hb
  have hCl := sE1.len
  have hPl := sE2.len
  clear sE1 sE2 h1 h2
  have K : Hid (∀ w', Below (w.alloc (.cells #[.int .i64 0, .slice none 0 0, .slice none 0 0] 24)).heap.size (w.alloc (.cells #[.int .i64 0, .slice none 0 0, .slice none 0 0] 24)) w' →
      (w'.cell? ⟨w.heap.size, 0, none⟩ = some (.int .i64 0) ∧ w'.cell? ⟨w.heap.size, 1, none⟩ = some (.slice none 0 0) ∧ w'.cell? ⟨w.heap.size, 2, none⟩ = some (.slice none 0 0)) ∧
      (w'.frozen? ⟨w.heap.size, 0, none⟩ = false ∧ w'.frozen? ⟨w.heap.size, 1, none⟩ = false ∧ w'.frozen? ⟨w.heap.size, 2, none⟩ = false)) := by
    intro w' hk
    refine ⟨⟨?_, ?_, ?_⟩, ?_, ?_, ?_⟩
    all_goals first | (rw [hk.cell (by simp)]; simp; done) | (rw [hk.frozen (by simp)]; simp; done)
  have hbV : Below w.heap.size w (w.alloc (.cells #[.int .i64 0, .slice none 0 0, .slice none 0 0] 24)) := (Below.refl _ _).alloc (Nat.le_refl _) _
  have hzV : w.heap.size < (w.alloc (.cells #[.int .i64 0, .slice none 0 0, .slice none 0 0] 24)).heap.size := by simp
  go_enter Try.func29, Try.ntmps29
  go_upto_block 0 with fail
  generalize w.alloc (.cells #[.int .i64 0, .slice none 0 0, .slice none 0 0] 24) = V at K hbV hzV S1 S2 ⊢
  go_cut [5] (fun i wx => i = .int .i64 n ∧ ∃ z, wx = V.drewN z)
  case first =>
    go_wp2_with fail
    go_loopw [5] (fun i wr => ∃ k : Nat, k ≤ s.length ∧ k ≤ t.length ∧ i = .int .i64 k ∧ Hid (s.take k = t.take k) ∧ ∃ z, wr = V.drewN z) (fun i _ => s.length - (intOf i).toNat)
    case atStart => exact ⟨0, Nat.zero_le _, Nat.zero_le _, rfl, hid (by simp), 0, rfl⟩
    case round =>
      obtain ⟨k, hk1, hk2, rfl, hm, z, rfl⟩ := hrel
      by_cases hlt : k < s.length
      · have hd1 : decide (k < s.length) = true := by simpa using hlt
        by_cases hlt2 : k < t.length
        · have hd2 : decide (k < t.length) = true := by simpa using hlt2
          obtain ⟨b1, o1, rfl, hc1⟩ := S1.out.at hlt
          obtain ⟨b2, o2, rfl, hc2⟩ := S2.out.at hlt2
          have c1k := hc1 k (by omega)
          have c2k := hc2 k (by omega)
          have Hts : Hid (s.take (k + 1) = s.take k ++ [gt s k] ∧ t.take (k + 1) = t.take k ++ [gt t k]) := ⟨take_succ hlt, take_succ hlt2⟩
          clear hc1 hc2
          cases hne : (gt s k == gt t k)
          · have Hne : Hid (gt s k ≠ gt t k) := hid (by simpa using hne)
            go_wp2
            go_quiet (fail)
            go_wp2
            go_meet
            exact ⟨by rw [N1.out k hk1 hk2 hm.out (.inr (.inr Hne.out))], by first | exact ⟨_, rfl⟩ | exact drewN_ex _ _ _ | exact drewN_ex2 _ _ _ _⟩
          · have Hne : Hid (gt s k = gt t k) := hid (by simpa using hne)
            go_wp2
            go_quiet (fail)
            go_wp2
            go_roundw
            case rel => exact ⟨k + 1, by omega, by omega, by go_num, hid (by rw [Hts.out.1, Hts.out.2, hm.out, Hne.out]), by first | exact ⟨_, rfl⟩ | exact drewN_ex _ _ _ | exact drewN_ex2 _ _ _ _⟩
            case measure => simp [intOf]; omega
        · have hd2 : decide (k < t.length) = false := by simpa using hlt2
          go_wp2
          go_quiet (fail)
          go_wp2
          go_meet
          exact ⟨by rw [N1.out k hk1 hk2 hm.out (.inr (.inl (by omega)))], by first | exact ⟨_, rfl⟩ | exact drewN_ex _ _ _ | exact drewN_ex2 _ _ _ _⟩
      · have hd1 : decide (k < s.length) = false := by simpa using hlt
        go_wp2
        go_quiet (fail)
        go_wp2
        go_meet
        exact ⟨by rw [N1.out k hk1 hk2 hm.out (.inl (by omega))], by first | exact ⟨_, rfl⟩ | exact drewN_ex _ _ _ | exact drewN_ex2 _ _ _ _⟩
  case rest =>
    obtain ⟨rfl, z, rfl⟩ := hcut
    clear N1
    have hwa : IntKind.i64.wrap ((s.length : Int) - (n : Int)) = ((s.length - n : Nat) : Int) := by rw [IntKind.wrap_i64]; omega
    have hwb : IntKind.i64.wrap ((t.length : Int) - (n : Int)) = ((t.length - n : Nat) : Int) := by rw [IntKind.wrap_i64]; omega
    have hls : s.length - n ≤ s.length := by omega
    have hlt' : t.length - n ≤ t.length := by omega
    go_upto_block 2 with fail
    go_cut [6] (fun j wx => j = .int .i64 m ∧ ∃ z, wx = V.drewN z)
    case first =>
      generalize s.length - n = ls at N2 N3 hwa hls
      generalize t.length - n = lt at N2 N3 hwb hlt'
      go_wp2_with fail
      go_loopw [6] (fun j wr => ∃ k : Nat, k ≤ ls ∧ k ≤ lt ∧ j = .int .i64 k ∧ Hid ((s.drop n).reverse.take k = (t.drop n).reverse.take k) ∧ ∃ z, wr = V.drewN z) (fun j _ => ls - (intOf j).toNat)
      case atStart => exact ⟨0, Nat.zero_le _, Nat.zero_le _, rfl, hid (by simp), by first | exact ⟨_, rfl⟩ | exact drewN_ex _ _ _ | exact drewN_ex2 _ _ _ _⟩
      case round =>
        obtain ⟨k, hk1, hk2, rfl, hm, z2, rfl⟩ := hrel
        by_cases hlt : k < ls
        · have hd1 : decide (k < ls) = true := by simpa using hlt
          by_cases hlt2 : k < lt
          · have hd2 : decide (k < lt) = true := by simpa using hlt2
            obtain ⟨b1, o1, rfl, hc1⟩ := S1.out.at (show k < s.length by omega)
            obtain ⟨b2, o2, rfl, hc2⟩ := S2.out.at (show k < t.length by omega)
            have c1k := hc1 (s.length - 1 - k) (by omega)
            have c2k := hc2 (t.length - 1 - k) (by omega)
            have N3k := hid (N3.out k hlt hlt2 hm.out)
            have N2k := hid (N2.out k hk1 hk2 hm.out)
            have hw1 : IntKind.i64.wrap (IntKind.i64.wrap ((s.length : Int) - 1) - (k : Int)) = ((s.length - 1 - k : Nat) : Int) := by
              rw [show IntKind.i64.wrap ((s.length : Int) - 1) = (s.length : Int) - 1 by rw [IntKind.wrap_i64]; omega, IntKind.wrap_i64]; omega
            have hw2 : IntKind.i64.wrap (IntKind.i64.wrap ((t.length : Int) - 1) - (k : Int)) = ((t.length - 1 - k : Nat) : Int) := by
              rw [show IntKind.i64.wrap ((t.length : Int) - 1) = (t.length : Int) - 1 by rw [IntKind.wrap_i64]; omega, IntKind.wrap_i64]; omega
            have hpl2 : s.length - 1 - k < s.length := by omega
            have hql2 : t.length - 1 - k < t.length := by omega
            generalize s.length - 1 - k = p2 at c1k hw1 hpl2 N3k N2k
            generalize t.length - 1 - k = q2 at c2k hw2 hql2 N3k N2k
            clear hc1 hc2
            cases hne : (gt s p2 == gt t q2)
            · have Hne : Hid (gt s p2 ≠ gt t q2) := hid (by simpa using hne)
              go_wp2
              go_quiet (fail)
              go_wp2
              go_meet
              exact ⟨by rw [N2k.out (.inr (.inr Hne.out))], by first | exact ⟨_, rfl⟩ | exact drewN_ex _ _ _ | exact drewN_ex2 _ _ _ _⟩
            · have Hne : Hid (gt s p2 = gt t q2) := hid (by simpa using hne)
              go_wp2
              go_quiet (fail)
              go_wp2
              go_roundw
              case rel => exact ⟨k + 1, by omega, by omega, by go_num, hid (N3k.out Hne.out), by first | exact ⟨_, rfl⟩ | exact drewN_ex _ _ _ | exact drewN_ex2 _ _ _ _⟩
              case measure => simp [intOf]; omega
          · have hd2 : decide (k < lt) = false := by simpa using hlt2
            go_wp2
            go_quiet (fail)
            go_wp2
            go_meet
            exact ⟨by rw [N2.out k hk1 hk2 hm.out (.inr (.inl (by omega)))], by first | exact ⟨_, rfl⟩ | exact drewN_ex _ _ _ | exact drewN_ex2 _ _ _ _⟩
        · have hd1 : decide (k < ls) = false := by simpa using hlt
          go_wp2
          go_quiet (fail)
          go_wp2
          go_meet
          exact ⟨by rw [N2.out k hk1 hk2 hm.out (.inl (by omega))], by first | exact ⟨_, rfl⟩ | exact drewN_ex _ _ _ | exact drewN_ex2 _ _ _ _⟩
    case rest =>
      obtain ⟨rfl, z2, rfl⟩ := hcut
      clear N2 N3 hwa hwb hls hlt'
      have hv0 : Below V.heap.size V (V.drewN z2) := bdrewN (Below.refl _ _) _
      generalize V.drewN z2 = V1 at hv0 ⊢
      have hv1 : Below V.heap.size V V1.drew := hv0.drew
      have hx1 : Below w.heap.size w V1.drew := hbV.trans (hv1.mono (by omega))
      go_wp2
      go_region_held3 (fun w' => Below w.heap.size w w') (first | assumption | exact ((hx4.setCell (by simp) _).setCell (by simp) _).setCell (by simp) _ | go_keep)
        (first | (go_at_call 12; (refine (copied_c n a5 a6 c5 c6 C P _ (SE1.out _ hx1) (SE2.out _ hx1) hCl hPl).mono ?_); rintro e w4 ⟨a7, c7, a8, c8, rfl, ho7, ho8, hb4⟩; have Ho7 := hid ho7; have Ho8 := hid ho8; have hx4 : Below w.heap.size w w4 := bthen hx1 hb4; have hv4 : Below V.heap.size V w4 := bthen hv1 hb4; obtain ⟨⟨s0, s1, s2⟩, g0, g1, g2⟩ := K.out _ hv4; clear ho7 ho8))
      have hz4 : w.heap.size < w4.heap.size := by have := hv4.size; omega
      have hq7 : V.heap.size ≤ V1.drew.heap.size := hv1.size
      have q7 : Hid (∀ ad, a7 = some ad → ad.block ≠ w.heap.size) := by
        intro ad ha
        have := (Ho7.out.lt ⟨ad, ha, rfl⟩).1; omega
      have q8 : Hid (∀ ad, a8 = some ad → ad.block ≠ w.heap.size) := by
        intro ad ha
        have := (Ho8.out.lt ⟨ad, ha, rfl⟩).1; omega
      have HX4 := hid hx4; have HX1 := hid hx1.size
      clear hx4 hb4 hx1 hv0 hv1 hv4
      go_wp2
      refine bodyPost_ret (v := .agg #[.int .i64 n, .slice a7 C.length c7, .slice a8 P.length c8]) (by simp [results, Try.results29, go_sem, s0, s1, s2]) rfl ?_
      refine ⟨a7, c7, a8, c8, rfl, (((Ho7.out.base_le HX1.out).setOther _ _ ?_).setOther _ _ ?_).setOther _ _ ?_, (((Ho8.out.base_le HX1.out).setOther _ _ ?_).setOther _ _ ?_).setOther _ _ ?_, ((HX4.out.setCell (by simp) _).setCell (by simp) _).setCell (by simp) _⟩
      all_goals (intro ad ha; first | exact q7.out ad ha | exact q8.out ad ha)
end Go.Proofs.Ytnaipahapdjakaa
