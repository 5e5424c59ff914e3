/- strings.ContainsRune of a string of single bytes (0 to 127), at any rune that is one. -/
import Derived.Test.YtefgjicegbhcaaaSignsL
import Derived.Lib.Bytealg
import Derived.Lib.Strings
import Derived.Lib.Slices
import Derived.Lib.Walk
import Derived.Laws.RangeString
import Derived.Laws.Strings3
import Derived.Laws.Runes
namespace Go.Proofs.Ytefgjicegbhcaaa
open Go.RowKit

/-- does a byte of a string equal a number? -/
def hasB (s : ByteArray) (r : Int) : Bool := s.data.toList.any (fun b => decide ((b.toNat : Int) = r))

set_option maxHeartbeats 1000000 in
set_option maxRecDepth 100000 in
theorem slib_c (s : ByteArray) (c : Int) (w : World) :
    Calls Try.prog 47 #[.string s, .int .u8 c] w fun e w' => e = .returned (.int .i64 (Lib.indexByte s.data.toList c.toNat.toUInt8)) ∧ w = w' := by
  go_enter Try.func47, Try.ntmps47
  go_wp2
  rw [run_callFunc_extern Try.func48 (by kernel_rfl) (by kernel_rfl) (by kernel_rfl) (e := Extern.BytealgIndexByte.indexByte) (by kernel_rfl), Lib.run_indexByteString]
  simp only [Result.andThen]
  rw [Oper.upon_value]
  go_wp2
  go_ret
  exact ⟨rfl, rfl⟩
theorem sib_c (s : ByteArray) (c : Int) (w : World) :
    Calls Try.prog 43 #[.string s, .int .u8 c] w fun e w' => e = .returned (.int .i64 (Lib.indexByte s.data.toList c.toNat.toUInt8)) ∧ w = w' := by
  go_enter Try.func43, Try.ntmps43
  go_wp2_with (go_at_call 47; (with_reducible refine (slib_c _ _ _).mono ?_); rintro e w' ⟨rfl, rfl⟩)
  go_ret
  exact ⟨rfl, rfl⟩
set_option maxHeartbeats 1000000 in
theorem vrune_c (r : Int) (w : World) (h : sgn r = true) :
    Calls Try.prog 44 #[.int .i32 r] w fun e w' => e = .returned (.bool true) ∧ w = w' := by
  simp only [sgn, decide_eq_true_eq] at h
  go_enter Try.func44, Try.ntmps44
  go_wp2
  all_goals go_ret
  all_goals (first | exact ⟨rfl, rfl⟩ | exact ⟨ret_bool (by first | rfl | assumption | (go_light; simp at *; omega)), rfl⟩)
/-- what IndexRune tells, as far as ContainsRune asks -/
def IxP (s : ByteArray) (r : Int) (w : World) (e : Ending) (w' : World) : Prop := Below w.heap.size w w' ∧ ∃ v, e = .returned (.int .i64 v) ∧ decide (0 ≤ v) = hasB s r
theorem ib_any (s : ByteArray) (r : Int) (h0 : 0 ≤ r) (h1 : r < 128) : decide (0 ≤ Lib.indexByte s.data.toList r.toNat.toUInt8) = hasB s r := by
  rw [← Lib.firstIdx_eq, firstIdx_nonneg]
  unfold hasB
  congr 1
  funext b
  rw [Bool.eq_iff_iff]
  simp only [beq_iff_eq, decide_eq_true_eq]
  constructor
  · rintro rfl
    simp; omega
  · intro h
    have : b = UInt8.ofNat r.toNat := by
      apply UInt8.toNat_inj.1
      simp; omega
    exact this
theorem no_any {s : ByteArray} {r : Int} (hs : ∀ b ∈ s.data.toList, b.toNat < 128) (h : 128 ≤ r) : hasB s r = false := by
  unfold hasB
  rw [List.any_eq_false]
  intro b hb
  have := hs b hb
  simp; omega
set_option maxHeartbeats 2000000 in
set_option maxRecDepth 100000 in
theorem ixr1_c (s : ByteArray) (r : Int) (w : World) (h0 : 0 ≤ r) (h1 : r < 128) : Calls Try.prog 42 #[.string s, .int .i32 r] w (IxP s r w) := by
  have e := hid (ib_any s r h0 h1)
  go_enter Try.func42, Try.ntmps42
  go_wp2_with (go_at_call 43; (with_reducible refine (sib_c _ _ _).mono ?_); rintro e w' ⟨rfl, rfl⟩)
  go_ret
  exact ⟨Below.refl _ _, _, rfl, e.out⟩
set_option maxHeartbeats 2000000 in
set_option maxRecDepth 100000 in
theorem ixr2_c (s : ByteArray) (w : World) (hs : ∀ b ∈ s.data.toList, b.toNat < 128) : Calls Try.prog 42 #[.string s, .int .i32 65533] w (IxP s 65533 w) := by
  have e := hid (no_any (r := 65533) hs (by decide))
  have HS := hid hs
  clear hs
  go_enter Try.func42, Try.ntmps42
  go_wp2
  go_loopg [5, 6] s.size (fun g _ _ wx => ∃ i : Nat, i + g = s.size ∧ wx = w.iter s i)
  case atStart => exact ⟨0, by omega, rfl⟩
  case round =>
    obtain ⟨i, hig, rfl⟩ := hrel
    cases gk with
    | zero =>
      obtain rfl : i = s.size := by omega
      have hnx := run_next_end (P := Try.prog) w s s.size
      go_wp2
      go_ret
      exact ⟨Below.alloc (Below.refl _ _) (Nat.le_refl _) _, _, rfl, by rw [e.out]; rfl⟩
    | succ g =>
      have hi : i < s.size := by omega
      obtain ⟨x, hx⟩ : ∃ x : UInt8, s[i]'hi = x := ⟨_, rfl⟩
      have hx128 : x.toNat < 128 := HS.out x (by rw [← hx]; exact Array.getElem_mem_toList (xs := s.data) hi)
      have hnx := fun ty => run_next_ascii (P := Try.prog) w s i ty hi (by rw [hx]; exact hx128)
      rw [hx] at hnx
      have hne : ((x.toNat : Int) == 65533) = false := by simp; omega
      clear hx
      go_wp2
      go_roundg g
      case measure => omega
      case rel => exact ⟨i + 1, by omega, rfl⟩
set_option maxHeartbeats 4000000 in
set_option maxRecDepth 100000 in
theorem ixr3_c (s : ByteArray) (r : Int) (w : World) (hs : ∀ b ∈ s.data.toList, b.toNat < 128) (_hz : s.size ≤ 1000) (h : sgn r = true) (h0 : 128 ≤ r) (h1 : r ≠ 65533) : Calls Try.prog 42 #[.string s, .int .i32 r] w (IxP s r w) := by
  have e := hid (no_any (r := r) hs h0)
  have VR := hid (vrune_c r w h)
  have hv : Utf8.valid r = true := by
    rw [validRune_eq]; simp only [validRune, decide_eq_true_eq]; simp only [sgn, decide_eq_true_eq] at h; omega
  obtain ⟨z1, z2, z3⟩ := encode_facts r hv h0
  have HS := hid hs
  have q0 : decide (r < 128) = false := decide_eq_false (by omega)
  have q1 : (r == 65533) = false := by simpa using h1
  have q2 : decide (0 ≤ r) = true := decide_eq_true (by omega)
  generalize hE : Utf8.encode r = E at z1 z2 z3
  have HE := hid hE
  obtain ⟨n, hn⟩ : ∃ n, E.size = n + 1 := ⟨E.size - 1, by omega⟩
  have hlt : n < E.size := by omega
  have z4 : 128 ≤ (E[n]'hlt).toNat := by
    have := z3 (by omega)
    have e2 : E.size - 1 = n := by omega
    simp only [e2] at this
    exact this
  generalize hc : E[n]'hlt = c at z4
  have hcv : ∀ w', (convert 21 9 (.int .i32 r)).run Try.prog w' = .ok (.string E) w' := fun w' => by rw [run_convert_int_string _ _ _ _ _ (by kernel_rfl) (by kernel_rfl), HE.out]
  have hsub : IntKind.i64.wrap ((E.size : Int) - 1) = (n : Int) := by rw [IntKind.wrap_i64]; omega
  clear z3 hs h hv h1 hE
  go_enter Try.func42, Try.ntmps42
  go_wp2_with (go_at_call 44; refine VR.out.mono ?_; rintro e w' ⟨rfl, rfl⟩)
  go_step3
  go_wp2_with fail
  go_loopw [9, 10] (fun lv fv wx => lv = .int .i64 n ∧ wx = w) (fun _ _ _ => 0)
  case atStart => exact ⟨rfl, rfl⟩
  case round =>
    obtain ⟨rfl, rfl⟩ := hrel
    by_cases hln : n < s.size
    · have q3 : decide ((n : Int) < (s.size : Int)) = true := decide_eq_true (by omega)
      have hx : (s[n]'hln).toNat < 128 := HS.out _ (Array.getElem_mem_toList (xs := s.data) hln)
      generalize hd : s[n]'hln = d at hx
      have hne : ((d.toNat : Int) != (c.toNat : Int)) = true := by simp; omega
      have hid0 : (n : Int) < (s.size : Int) := by omega
      have hid1 : (n : Int) < (E.size : Int) := by omega
      obtain ⟨S2, hS2⟩ : ∃ S2, S2 = s.extract (n + 1) s.size := ⟨_, rfl⟩
      have hadd : IntKind.i64.wrap ((n : Int) + 1) = (n : Int) + 1 := by rw [IntKind.wrap_i64]; omega
      have hsl : ∀ w', (Instr.slice 9 (.string s) (some (.int .i64 ((n : Int) + 1))) none none).run Try.prog w' = .ok (.string S2) w' := fun w' => by
        rw [run_slice_string_from_if _ _ _ _ _ (by kernel_rfl), if_pos (by omega), hS2]
        congr 2
      have hix : Lib.indexByte S2.data.toList ((c.toNat : Int)).toNat.toUInt8 = -1 := by
        rw [← Lib.firstIdx_eq, hS2]
        exact firstIdx_ascii s _ _ _ HS.out (by simp; omega)
      have IB : Hid (∀ w', Calls Try.prog 43 #[.string S2, .int .u8 c.toNat] w' fun e w'' => e = .returned (.int .i64 (-1)) ∧ w'' = w') := hid fun w' => by
        have h := sib_c S2 (c.toNat : Int) w'
        rw [hix] at h
        exact h.mono fun _ _ k => ⟨k.1, k.2.symm⟩
      have hiE : ∀ w', (Instr.index 9 (.string E) (.int .i64 n)).run Try.prog w' = .ok (.int .u8 c.toNat) w' := fun w' => by
        rw [run_index_string _ _ _ _ _ (by kernel_rfl), dif_pos (by omega)]
        simp only [Int.toNat_natCast, hc]
      have hiS : ∀ w', (Instr.index 9 (.string s) (.int .i64 n)).run Try.prog w' = .ok (.int .u8 d.toNat) w' := fun w' => by
        rw [run_index_string _ _ _ _ _ (by kernel_rfl), dif_pos (by omega)]
        simp only [Int.toNat_natCast, hd]
      clear hS2 hix hc hd
      go_wp2_with fail
      go_step3
      go_wp2_with fail
      clear VR
      go_quiet (fail)
      generalize hV : wr.drewN _ = V1
      have hB : Below wr.heap.size wr V1 := by rw [← hV]; exact bdrewN (Below.refl _ _) _
      clear hV
      go_wp2_with fail
      go_quiet ((go_at_call 43; (with_reducible refine Calls.quiet_of_same (IB.out _))))
      go_wp2_with fail
      rw [Exit.noGoto_ret]
      go_ret
      exact ⟨bdrewN hB _, _, rfl, by rw [e.out]; rfl⟩
    · have q3 : decide ((n : Int) < (s.size : Int)) = false := decide_eq_false (by omega)
      go_wp2_with fail
      rw [Exit.noGoto_ret]
      go_ret
      exact ⟨Below.refl _ _, _, rfl, by rw [e.out]; rfl⟩
theorem ixr_c (s : ByteArray) (r : Int) (w : World) (hs : ∀ b ∈ s.data.toList, b.toNat < 128) (hz : s.size ≤ 1000) (h : sgn r = true) : Calls Try.prog 42 #[.string s, .int .i32 r] w (IxP s r w) := by
  by_cases h1 : r < 128
  · exact ixr1_c s r w (by simp only [sgn, decide_eq_true_eq] at h; omega) h1
  · by_cases h2 : r = 65533
    · subst h2; exact ixr2_c s w hs
    · exact ixr3_c s r w hs hz h (by omega) h2
theorem crune_c (s : ByteArray) (r : Int) (w : World) (hs : ∀ b ∈ s.data.toList, b.toNat < 128) (hz : s.size ≤ 1000) (h : sgn r = true) :
    Calls Try.prog 41 #[.string s, .int .i32 r] w fun e w' => e = .returned (.bool (hasB s r)) ∧ Below w.heap.size w w' := by
  have hc := hid (ixr_c s r w hs hz h)
  go_enter Try.func41, Try.ntmps41
  go_wp2_with (go_at_call 42; refine hc.out.mono ?_; rintro e w' ⟨hb, v, rfl, hv⟩)
  go_ret
  exact ⟨rfl, hb⟩
end Go.Proofs.Ytefgjicegbhcaaa
