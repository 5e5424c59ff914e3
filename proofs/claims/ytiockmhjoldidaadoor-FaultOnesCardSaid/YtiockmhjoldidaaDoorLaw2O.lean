/- Walks of the laws of layer 2: FaultOnes. -/
import Derived.Test.YtiockmhjoldidaaDoorLaw2
namespace Go.Proofs.YtiockmhjoldidaaDoor
open Go.RowKit

theorem asks_any (c d : Int) (a : Option Addr) (k : Nat) (l : List Int) (w : World) (hs : I.Sl w a l) :
    Calls Tryd.prog 8 #[.int .i64 c, .int .i64 d, .slice a l.length k] w (Tells w (c == d && c != 0)) := by
  by_cases hc : c = 0
  · subst hc
    rw [show ((0 : Int) == d && (0 : Int) != 0) = false from by simp]
    exact asks_nil d _ w
  · have h1 : (c == 0) = false := by simpa using hc
    rw [show (c == d && c != 0) = (c == d) from by simp [hc]]
    exact asks_c c d a k l w h1 hs

set_option maxHeartbeats 4000000 in
theorem ones_w (w : World) (hg : Hid (Handle w)) : Calls Tryd.prog 5 #[] w (Tells w true) := by
  go_enter Tryd.func5, Tryd.ntmps5
  go_wp2
  go_loopw [1, 2] (fun s n wr => ∃ (k : Nat) (R : List Int) (a1 : Option Addr) (c1 : Nat), k ≤ 7 ∧ n = .int .i64 k ∧ Hid (R.length = k) ∧ s = .slice a1 R.length c1 ∧ Hid (I.Own wr w.heap.size a1 c1 R) ∧ Below w.heap.size w wr) (fun _ n _ => (7 - intOf n).toNat)
  case atStart => exact ⟨0, [], none, 0, by omega, rfl, rfl, rfl, I.Own.nil _ _, Below.refl _ _⟩
  case round =>
    obtain ⟨k, R, a1, c1, hk, rfl, HR, rfl, HO, hb⟩ := hrel
    rename World => V
    by_cases h6 : k ≤ 6
    · have d6 : decide ((k : Int) ≤ 6) = true := by simp; omega
      go_wp2
      go_loopw [3] (fun a wa => ∃ i : Nat, i ≤ 9 ∧ a = .int .i64 i ∧ Below V.heap.size V wa) (fun a _ => (9 - intOf a).toNat)
      case atStart => exact ⟨0, by omega, rfl, Below.refl _ _⟩
      case round =>
        obtain ⟨i, hi, rfl, hba⟩ := hrel
        by_cases h8 : i ≤ 8
        · have d8 : decide ((i : Int) ≤ 8) = true := by simp; omega
          go_wp2
          go_loopw [4] (fun b wb => ∃ j : Nat, j ≤ 9 ∧ b = .int .i64 j ∧ Below V.heap.size V wb) (fun b _ => (9 - intOf b).toNat)
          case atStart => exact ⟨0, by omega, rfl, hba⟩
          case round =>
            obtain ⟨j, hj, rfl, hbb⟩ := hrel
            by_cases h9 : j ≤ 8
            · go_wp2_with fail
              refine (asks_any i j a1 c1 R _ (HO.out.sl.bel hbb)).mono ?_
              rintro e w5 ⟨rfl, hb5⟩
              have B5 := bthen hbb hb5
              clear hb5 hbb
              cases e1 : ((i : Int) == (j : Int)) with
              | false =>
                rw [Bool.false_and]
                go_wp2
                go_roundw
                case rel => exact ⟨j + 1, by omega, by go_num, B5⟩
                case measure => simp [intOf]; omega
              | true =>
                rw [Bool.true_and]
                cases e2 : ((i : Int) != 0) with
                | false =>
                  go_wp2
                  go_roundw
                  case rel => exact ⟨j + 1, by omega, by go_num, B5⟩
                  case measure => simp [intOf]; omega
                | true =>
                  go_wp2
                  go_roundw
                  case rel => exact ⟨j + 1, by omega, by go_num, B5⟩
                  case measure => simp [intOf]; omega
            · go_wp2
              go_roundw
              case rel => exact ⟨i + 1, by omega, by go_num, hbb⟩
              case measure => simp [intOf]; omega
        · have hkk : -9223372036854775808 ≤ (k : Int) * k ∧ (k : Int) * k ≤ 9223372036854775807 := by
            have h1 : k * k ≤ 6 * 6 := Nat.mul_le_mul h6 h6
            have h2 : ((k : Int) * k) = ((k * k : Nat) : Int) := by push_cast; rfl
            rw [h2]; omega
          have Hkk := hid hkk
          clear hkk
          have hRl : R.length ≤ 7 := by have := HR.out; omega
          have hw : wrap64 ((k : Int) * k) = (k : Int) * k := IntWalk.wrap64_in _ Hkk.out
          have O2 := hid (HO.out.grow hba)
          rename World => V2
          go_wp2_with ((at_builtin; (refine I.wpL_appn rfl (.tmp 29) (.tmp 33) rfl w.heap.size a1 (some ⟨V2.heap.size, 0, none⟩) R.length 1 c1 1 R [(k : Int) * k] rfl (by first | rfl | simp) (O2.out.grow ((Below.refl _ _).alloc (Nat.le_refl _) _)) rfl (by first | rfl | simp) (I.Sl.lit' V2 [(k : Int) * k] _ _ rfl (by simp) (I.rng_one Hkk.out) _ rfl) (by simp; omega) (by have := hb.size; have := hba.size; simp; omega) ?_); intro a5 c5 w5 L5 Hl5 ho5 hb5; have Ho5 := hid ho5; clear ho5; have hz5 := hb5.size))
          have e5 : L5.length = k + 1 := by rw [Hl5.out]; simp [HR.out]
          have E5 := hid e5
          clear e5 hw
          go_roundw
          case rel => exact ⟨k + 1, L5, a5, c5, by omega, by go_num, E5, rfl, Ho5, ((bthen hb hba).alloc (bthen hb hba).size _).trans hb5⟩
          case measure => simp [intOf]; omega
    · go_wp2_with fail
      refine (known_c _ (hg.out.bel hb)).mono ?_
      rintro e w4 ⟨rfl, hb4⟩
      have B4 := bthen hb hb4
      clear hb4 hb
      go_wp2
      go_ret
      exact ⟨rfl, B4⟩
end Go.Proofs.YtiockmhjoldidaaDoor
