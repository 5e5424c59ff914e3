/- slices.Grow, slices.Concat of three texts. -/
import Derived.Test.YtnaipahapdjakaaChc
import Derived.Lib.AppendZeros
namespace Go.Proofs.Ytnaipahapdjakaa
open Go.RowKit

set_option maxHeartbeats 1000000 in
theorem grow_c (n : Nat) (w : World) (hn : n ≤ 100000) :
    Calls Try.prog 46 #[.slice none 0 0, .int .i64 n] w (Makes w []) := by
  obtain ⟨i0, hi, hz0, hz1, hz2⟩ := info_parts Try.infoI32
  rcases Nat.eq_zero_or_pos n with rfl | hpos
  · go_enter Try.func46, Try.ntmps46
    go_wp2
    go_ret
    exact ⟨none, 0, rfl, Own.nil _ _, Below.refl _ _⟩
  · have happ := Lib.run_append_nil_zeros (P := Try.prog) w 22 3 22 21 i0 (.int .i32 0) .i64 .i64 Try.underlying22 Try.underlying3 hi hz0 n hpos (by rw [hz1]; decide) (by omega) (by rw [hz2]; omega)
    have hcap1 : n ≤ grownCap w n 0 21 := grownCap_ge w _ 0 21
    have hcap2 : grownCap w n 0 21 ≤ maxLen := grownCap_le_maxLen w _ 0 21 (by unfold maxLen; omega)
    generalize grownCap w n 0 21 = cap at happ hcap1 hcap2
    have hZs : (Builtin.zeroCells (Value.int .i32 0).cells n ++ Builtin.zeroCells (Value.int .i32 0).cells (cap - n)).size = cap := by simp [size_zeroCells, Value.cells]; omega
    generalize Builtin.zeroCells (Value.int .i32 0).cells n ++ Builtin.zeroCells (Value.int .i32 0).cells (cap - n) = Z at happ hZs
    have hr0 : ∀ w', (Instr.slice 22 (.slice none 0 0) none (some (.int .i64 0)) none).run Try.prog w' = .ok (.slice none 0 0) w' := by
      intro w'
      have := run_slice_h (P := Try.prog) w' 22 none 0 0 Try.elemIs32 .i64 0 (by omega) (by omega)
      rw [this]
      simp [Try.sizeIs32, Result.andThen, sliced]
    have hr1 : ∀ w', (Instr.slice 22 (.slice (some ⟨w.heap.size, 0, none⟩) n cap) none (some (.int .i64 0)) none).run Try.prog w' = .ok (.slice (some ⟨w.heap.size, 0, none⟩) 0 cap) w' := by
      intro w'
      have := run_slice_h (P := Try.prog) w' 22 (some ⟨w.heap.size, 0, none⟩) n cap Try.elemIs32 .i64 0 (by omega) (by omega)
      rw [this]
      simp [Try.sizeIs32, Result.andThen, sliced, Addr.add]
    have Hown : Hid (Own (w.drew.alloc (.cells Z 21)) w.heap.size (some ⟨w.heap.size, 0, none⟩) cap []) := by
      refine ⟨⟨rfl, .inr ⟨w.heap.size, cap, Z, rfl, Nat.le_refl _, ?_, Nat.zero_le _, hcap2, by omega, by simp⟩⟩, rng_nil, by simp⟩
      exact heap_alloc_new w.drew _
    have Hb : Hid (Below w.heap.size w (w.drew.alloc (.cells Z 21))) := ((Below.refl _ _).drew).alloc (Nat.le_refl _) _
    clear hZs hcap2 hi hz0 hz1 hz2
    go_enter Try.func46, Try.ntmps46
    go_wp2_with (at_builtin; refine Lib.wpList_append_run _ rfl _ _ _ _ rfl _ _ rfl rfl _ _ happ ?_)
    go_ret
    exact ⟨_, _, rfl, Hown.out, Hb.out⟩

/-- the first k of three lengths -/
def sm3 (n0 n1 n2 : Nat) : Nat → Nat
  | 0 => 0
  | 1 => n0
  | 2 => n0 + n1
  | _ => n0 + n1 + n2
def cc3 (l0 l1 l2 : List Int) : Nat → List Int
  | 0 => []
  | 1 => l0
  | 2 => l0 ++ l1
  | _ => l0 ++ l1 ++ l2
set_option maxHeartbeats 4000000 in
theorem concat3_c (b : Nat) (a0 a1 a2 : Option Addr) (c0 c1 c2 : Nat) (l0 l1 l2 : List Int) (w : World)
    (h0 : w.cell? ⟨b, 0, none⟩ = some (.slice a0 l0.length c0)) (h1 : w.cell? ⟨b, 1, none⟩ = some (.slice a1 l1.length c1)) (h2 : w.cell? ⟨b, 2, none⟩ = some (.slice a2 l2.length c2))
    (s0 : Sl w a0 l0) (s1 : Sl w a1 l1) (s2 : Sl w a2 l2) (n0 : l0.length ≤ 2000) (n1 : l1.length ≤ 2000) (n2 : l2.length ≤ 2000) :
    Calls Try.prog 39 #[.slice (some ⟨b, 0, none⟩) 3 3] w (Makes w (l0 ++ l1 ++ l2)) := by
  have hbl := World.block_lt_of_cell? w _ h0
  have S0 := hid s0; have S1 := hid s1; have S2 := hid s2
  clear s0 s1 s2
  go_enter Try.func39, Try.ntmps39
  go_wp2
  go_loop [3, 11] (fun s i => ∃ k : Nat, k ≤ 3 ∧ i = .int .i64 k ∧ s = .int .i64 (sm3 l0.length l1.length l2.length k)) (fun _ i => 3 - (intOf i).toNat)
  case atStart => exact ⟨0, by omega, rfl, rfl⟩
  case round =>
    obtain ⟨k, hk, rfl, rfl⟩ := hrel
    rcases (show k = 0 ∨ k = 1 ∨ k = 2 ∨ k = 3 by omega) with rfl | rfl | rfl | rfl
    · simp only [sm3]
      go_wp2
      go_round
      case rel => exact ⟨1, by omega, by go_num, by first | rfl | go_num⟩
      case measure => simp [intOf]
    · simp only [sm3]
      go_wp2
      go_round
      case rel => exact ⟨2, by omega, by go_num, by first | rfl | go_num⟩
      case measure => simp [intOf]
    · simp only [sm3]
      go_wp2
      go_round
      case rel => exact ⟨3, by omega, by go_num, by first | rfl | go_num⟩
      case measure => simp [intOf]
    · simp only [sm3]
      obtain ⟨m, hm⟩ : ∃ m, l0.length + l1.length + l2.length = m := ⟨_, rfl⟩
      have hmle : m ≤ 100000 := by omega
      rw [hm]
      clear hm
      go_wp2_with fail
      refine (grow_c m w hmle).mono ?_
      rintro e w1 ⟨a3, c3, rfl, ho3, hb3⟩
      have K : Hid (∀ w', Below w.heap.size w w' → w'.cell? ⟨b, 0, none⟩ = some (.slice a0 l0.length c0) ∧ w'.cell? ⟨b, 1, none⟩ = some (.slice a1 l1.length c1) ∧ w'.cell? ⟨b, 2, none⟩ = some (.slice a2 l2.length c2)) := by
        intro w' this
        refine ⟨?_, ?_, ?_⟩
        · rw [this.cell (by exact hbl)]; exact h0
        · rw [this.cell (by exact hbl)]; exact h1
        · rw [this.cell (by exact hbl)]; exact h2
      go_wp2
      go_loopw [6, 27] (fun o i wr => ∃ (k : Nat) (D : List Int) (a4 : Option Addr) (c4 : Nat), k ≤ 3 ∧ i = .int .i64 k ∧ o = .slice a4 D.length c4 ∧ Hid (D = cc3 l0 l1 l2 k) ∧ D.length ≤ 6000 ∧ Hid (Own wr w.heap.size a4 c4 D) ∧ Below w.heap.size w wr) (fun _ i _ => 3 - (intOf i).toNat)
      case atStart => exact ⟨0, [], a3, c3, by omega, rfl, rfl, rfl, by simp, hid ho3, hb3⟩
      case round =>
        obtain ⟨k, D, a4, c4, hk, rfl, rfl, HD, hDl, HO, hb⟩ := hrel
        obtain ⟨q0, q1, q2⟩ := K.out _ hb
        have hz : w.heap.size ≤ wr.heap.size := hb.size
        rcases (show k = 0 ∨ k = 1 ∨ k = 2 ∨ k = 3 by omega) with rfl | rfl | rfl | rfl
        · have hd : D.length ≤ 0 := by rw [HD.out]; simp [cc3]
          go_wp2_with (at_builtin; (refine wpL_appn rfl (.tmp 31) (.tmp 32) rfl w.heap.size a4 a0 D.length l0.length c4 c0 D l0 rfl (by first | rfl | simp | omega) HO.out rfl (by first | rfl | simp | omega) (S0.out.bel hb) (by omega) hz ?_); intro a5 c5 w5 L5 Hl5 ho5 hb5 hk5 hA5; have HA5 := hid hA5; clear hA5; have Ho5 := hid ho5; clear ho5; have Hk5 := hid hk5; clear hk5; have hz5 := hb5.size)
          go_roundw
          case rel => exact ⟨1, L5, a5, c5, by omega, by go_num, rfl, (by rw [Hid, Hl5.out, HD.out]; simp [cc3]), (by rw [Hl5.out, List.length_append]; omega), Ho5, hb.trans hb5⟩
          case measure => simp [intOf]
        · have hd : D.length ≤ 2000 := by rw [HD.out]; simpa [cc3] using n0
          go_wp2_with (at_builtin; (refine wpL_appn rfl (.tmp 31) (.tmp 32) rfl w.heap.size a4 a1 D.length l1.length c4 c1 D l1 rfl (by first | rfl | simp | omega) HO.out rfl (by first | rfl | simp | omega) (S1.out.bel hb) (by omega) hz ?_); intro a5 c5 w5 L5 Hl5 ho5 hb5 hk5 hA5; have HA5 := hid hA5; clear hA5; have Ho5 := hid ho5; clear ho5; have Hk5 := hid hk5; clear hk5; have hz5 := hb5.size)
          go_roundw
          case rel => exact ⟨2, L5, a5, c5, by omega, by go_num, rfl, (by rw [Hid, Hl5.out, HD.out]; simp [cc3]), (by rw [Hl5.out, List.length_append]; omega), Ho5, hb.trans hb5⟩
          case measure => simp [intOf]
        · have hd : D.length ≤ 4000 := by rw [HD.out]; simp [cc3]; omega
          go_wp2_with (at_builtin; (refine wpL_appn rfl (.tmp 31) (.tmp 32) rfl w.heap.size a4 a2 D.length l2.length c4 c2 D l2 rfl (by first | rfl | simp | omega) HO.out rfl (by first | rfl | simp | omega) (S2.out.bel hb) (by omega) hz ?_); intro a5 c5 w5 L5 Hl5 ho5 hb5 hk5 hA5; have HA5 := hid hA5; clear hA5; have Ho5 := hid ho5; clear ho5; have Hk5 := hid hk5; clear hk5; have hz5 := hb5.size)
          go_roundw
          case rel => exact ⟨3, L5, a5, c5, by omega, by go_num, rfl, (by rw [Hid, Hl5.out, HD.out]; simp [cc3]), (by rw [Hl5.out, List.length_append]; omega), Ho5, hb.trans hb5⟩
          case measure => simp [intOf]
        · go_wp2
          go_ret
          have e : D = l0 ++ l1 ++ l2 := by rw [HD.out]; rfl
          subst e
          exact ⟨a4, c4, rfl, HO.out, hb⟩
end Go.Proofs.Ytnaipahapdjakaa
