/- Package slices: swapRangeCmpFunc, rotateCmpFunc at int. -/
import Derived.Test.YthkkpcfmifhllaaSrt
import Derived.BigRegion
namespace Go.Proofs.Ythkkpcfmifhllaa
open Go.RowKit Go.ChangeShapes

theorem I.Own.frz {w : World} {base g c : Nat} {l : List Int} (h : I.Own w base (some ⟨g, 0, none⟩) c l) (i : Nat) : w.frozen? ⟨g, i, none⟩ = false := h.free i
theorem I.Own.cell {w : World} {base g c : Nat} {l : List Int} (h : I.Own w base (some ⟨g, 0, none⟩) c l) {i : Nat} (hi : i < l.length) : w.cell? ⟨g, i, none⟩ = some (.int .i64 (gt l i)) := by
  obtain ⟨b, o, he, hc⟩ := h.sl.at hi
  simp only [Option.some.injEq, Addr.mk.injEq, and_true] at he
  obtain ⟨rfl, rfl⟩ := he
  have := hc i hi
  rwa [Nat.zero_add] at this
theorem I.Own.swap {w : World} {base g c : Nat} {l : List Int} (h : I.Own w base (some ⟨g, 0, none⟩) c l) {i j : Nat} (hi : i < l.length) (hj : j < l.length) :
    I.Own ((w.setCell ⟨g, i, none⟩ (.int .i64 (gt l j))).setCell ⟨g, j, none⟩ (.int .i64 (gt l i))) base (some ⟨g, 0, none⟩) c (swL l i j) :=
  (h.stored i _ (I.rng_gt h.2.1 hj)).stored j _ (I.rng_gt h.2.1 hi)
/-- what the call leaves of a slice: it lies where it lay, as f reads it -/
def Moves (w : World) (base : Nat) (a : Option Addr) (c : Nat) (L : List Int) (R : List Int → Prop) (e : Ending) (w' : World) : Prop :=
  e = .returned (.tuple #[]) ∧ ∃ M, I.Own w' base a c M ∧ Kpt (Blk a) w w' ∧ M.length = L.length ∧ R M

set_option maxRecDepth 20000 in
set_option maxHeartbeats 4000000 in
theorem swaprange_c (w : World) (base g c a b n : Nat) (L : List Int) (f : Value) (hO : I.Own w base (some ⟨g, 0, none⟩) c L) (hab : a + n ≤ b) (hb : b + n ≤ L.length) :
    Calls Try.prog 29 #[.slice (some ⟨g, 0, none⟩) L.length c, .int .i64 a, .int .i64 b, .int .i64 n, f] w (Moves w base (some ⟨g, 0, none⟩) c L (Via (srI a b n) L)) := by
  have hlen := hO.2.2
  have HO := hid hO
  go_enter Try.func29, Try.ntmps29
  clear hO
  go_wp2
  go_loopw [10] (fun i wr => ∃ (k : Nat) (M : List Int), k ≤ n ∧ i = .int .i64 k ∧ Hid (I.Own wr base (some ⟨g, 0, none⟩) c M) ∧ Hid (Kpt (Blk (some ⟨g, 0, none⟩)) w wr) ∧ Hid (Via (srI a b k) L M)) (fun i _ => n - (intOf i).toNat)
  case atStart =>
    refine ⟨0, L, Nat.zero_le _, rfl, HO, hid (Kpt.refl _ _), hid (Via.refl L fun p => ?_)⟩
    unfold srI; rw [if_neg (by omega), if_neg (by omega)]
  case round =>
    obtain ⟨k, M, hk, rfl, HM, HK, HV⟩ := hrel
    by_cases hlt : k < n
    · have HL : Hid (M.length = L.length) := HV.out.1
      have c1 := HM.out.cell (i := a + k) (by have := HL.out; omega)
      have c2 := HM.out.cell (i := b + k) (by have := HL.out; omega)
      have f1 := HM.out.frz (a + k)
      have f2 := HM.out.frz (b + k)
      go_wp2
      go_big_region
      obtain ⟨W2, hW2⟩ : ∃ W2, W2 = ((wr.setCell ⟨g, a + k, none⟩ (.int .i64 (gt M (b + k)))).setCell ⟨g, b + k, none⟩ (.int .i64 (gt M (a + k)))).drew := ⟨_, rfl⟩
      rw [← hW2]
      have HM2 : Hid (I.Own W2 base (some ⟨g, 0, none⟩) c (swL M (a + k) (b + k))) := by
        rw [hW2]; exact (HM.out.swap (by have := HL.out; omega) (by have := HL.out; omega)).drewN 1
      have HK2 : Hid (Kpt (Blk (some ⟨g, 0, none⟩)) w W2) := by
        rw [hW2]; exact hid (((HK.out.setCell (p := ⟨g, a + k, none⟩) ⟨⟨g, 0, none⟩, rfl, rfl⟩ _).setCell (p := ⟨g, b + k, none⟩) ⟨⟨g, 0, none⟩, rfl, rfl⟩ _).drew)
      have HV2 : Hid (Via (srI a b (k + 1)) L (swL M (a + k) (b + k))) :=
        HV.out.comp (swL_via (by have := HL.out; omega) (by have := HL.out; omega)) (srI_step (by omega))
      clear hW2 HM HK HV c1 c2 f1 f2
      go_wp2
      go_round
      case rel => exact ⟨k + 1, _, by omega, by go_num, HM2, HK2, HV2⟩
      case measure => simp [intOf]; omega
    · obtain rfl : k = n := by omega
      go_wp2
      go_end0
      exact ⟨rfl, M, HM.out, HK.out, HV.out.1, HV.out⟩

/-- the same, its operands as the walk leaves them -/
theorem swaprange_i {w : World} {base g c : Nat} {L : List Int} {f : Value} (a b n : Nat) (nl : Nat) (A B C : Int) (hO : I.Own w base (some ⟨g, 0, none⟩) c L) (hn : nl = L.length) (hA : A = a) (hB : B = b) (hC : C = n) (hab : a + n ≤ b) (hb : b + n ≤ L.length) :
    Calls Try.prog 29 #[.slice (some ⟨g, 0, none⟩) nl c, .int .i64 A, .int .i64 B, .int .i64 C, f] w (Moves w base (some ⟨g, 0, none⟩) c L (Via (srI a b n) L)) := by
  subst hn hA hB hC; exact swaprange_c w base g c a b n L f hO hab hb

set_option maxRecDepth 20000 in
set_option maxHeartbeats 4000000 in
theorem rotate_c (w : World) (base g c a m b : Nat) (L : List Int) (f : Value) (hO : I.Own w base (some ⟨g, 0, none⟩) c L) (ham : a < m) (hmb : m < b) (hb : b ≤ L.length) :
    Calls Try.prog 28 #[.slice (some ⟨g, 0, none⟩) L.length c, .int .i64 a, .int .i64 m, .int .i64 b, f] w (Moves w base (some ⟨g, 0, none⟩) c L (Via (roI a m b) L)) := by
  have hlen := hO.2.2
  have HO := hid hO
  go_enter Try.func28, Try.ntmps28
  clear hO
  go_wp2
  go_loopw [10, 11] (fun i j wr => ∃ (k l : Nat) (M : List Int), 0 < k ∧ 0 < l ∧ k ≤ m - a ∧ l ≤ b - m ∧ i = .int .i64 k ∧ j = .int .i64 l ∧ Hid (I.Own wr base (some ⟨g, 0, none⟩) c M) ∧ Hid (Kpt (Blk (some ⟨g, 0, none⟩)) w wr) ∧ Hid (M.length = L.length) ∧ Hid (∀ N, Via (roI (m - k) m (m + l)) M N → Via (roI a m b) L N)) (fun i j _ => (intOf i).toNat + (intOf j).toNat)
  case atStart => exact ⟨m - a, b - m, L, by omega, by omega, Nat.le_refl _, Nat.le_refl _, by go_num, by go_num, HO, hid (Kpt.refl _ _), hid rfl, hid fun N hN => by rwa [show m - (m - a) = a by omega, show m + (b - m) = b by omega] at hN⟩
  case round =>
    obtain ⟨k, l, M, hk0, hl0, hk, hl, rfl, rfl, HM, HK, HL, HV⟩ := hrel
    have hll := HL.out
    have hmm := HM.out
    have HLL := hid hll
    rcases Nat.lt_trichotomy k l with hkl | rfl | hkl
    · have hne : ((k : Int) != (l : Int)) = true := by simp; omega
      have hgt2 : ¬ (l : Int) < (k : Int) := by omega
      have hc := swaprange_i (f := f) (m - k) (m + l - k) k L.length ((m : Int) - k) ((m : Int) + l - k) k hmm hll.symm (by omega) (by omega) rfl (by omega) (by omega)
      clear hll hmm
      go_wp2_with fail
      refine hc.mono ?_
      rintro _ w1 ⟨rfl, M1, o1, k1, l1, v1⟩
      have HM1 := hid o1
      have HK1 : Hid (Kpt (Blk (some ⟨g, 0, none⟩)) w w1) := HK.out.tr k1
      have HL1 : Hid (M1.length = L.length) := l1.trans HL.out
      have HV1 : Hid (∀ N, Via (roI (m - k) m (m + (l - k))) M1 N → Via (roI a m b) L N) := fun N hN => HV.out N (v1.comp hN fun p => roI_less hkl (by omega) p)
      clear hc o1 k1 l1 v1
      go_wp2
      go_round
      case rel => exact ⟨k, l - k, M1, hk0, by omega, hk, by omega, rfl, by go_num, HM1, HK1, HL1, HV1⟩
      case measure => simp [intOf]; omega
    · have hne : ((k : Int) != (k : Int)) = false := by simp
      have hc := swaprange_i (f := f) (m - k) m k L.length ((m : Int) - k) m k hmm hll.symm (by omega) rfl rfl (by omega) (by omega)
      clear hll hmm
      go_wp2_with fail
      refine hc.mono ?_
      rintro _ w1 ⟨rfl, M1, o1, k1, l1, v1⟩
      go_wp2
      go_end0
      exact ⟨rfl, M1, o1, HK.out.tr k1, l1.trans HL.out, HV.out M1 ⟨v1.1, fun p => by rw [v1.2, roI_same (by omega)]⟩⟩
    · have hne : ((k : Int) != (l : Int)) = true := by simp; omega
      have hgt2 : (l : Int) < (k : Int) := by omega
      have hc := swaprange_i (f := f) (m - k) m l L.length ((m : Int) - k) m l hmm hll.symm (by omega) rfl rfl (by omega) (by omega)
      clear hll hmm
      go_wp2_with fail
      refine hc.mono ?_
      rintro _ w1 ⟨rfl, M1, o1, k1, l1, v1⟩
      have HM1 := hid o1
      have HK1 : Hid (Kpt (Blk (some ⟨g, 0, none⟩)) w w1) := HK.out.tr k1
      have HL1 : Hid (M1.length = L.length) := l1.trans HL.out
      have HV1 : Hid (∀ N, Via (roI (m - (k - l)) m (m + l)) M1 N → Via (roI a m b) L N) := fun N hN => HV.out N (v1.comp hN fun p => roI_more hkl (by omega) p)
      clear hc o1 k1 l1 v1
      go_wp2
      go_round
      case rel => exact ⟨k - l, l, M1, by omega, hl0, by omega, hl, by go_num, rfl, HM1, HK1, HL1, HV1⟩
      case measure => simp [intOf]; omega
end Go.Proofs.Ythkkpcfmifhllaa
