/- The document's own answer for a variable: draws, UUIDs, names of months and days, the base of a name. -/
import Derived.Test.YtijhkpbnalnpbaaDoorRv
import Derived.Test.YtijhkpbnalnpbaaDoorPlq
import Derived.Test.YtijhkpbnalnpbaaDoorVt
namespace Go.Proofs.YtijhkpbnalnpbaaDoor
open Go.RowKit

set_option maxHeartbeats 4000000 in
theorem rplain_c (s : ByteArray) (w : World) (hs : s.size ≤ 1000) :
    Calls Tryd.prog 53 #[.string s] w fun e' w' => ∃ a c L, e' = .returned (.slice a L.length c) ∧ Hid (L = strL s) ∧ Own w' w.heap.size a c L ∧ Below w.heap.size w w' := by
  go_enter Tryd.func53, Tryd.ntmps53
  go_wp2
  go_loopw [3, 4] (fun v iv wr => ∃ (k : Nat) (a : Option Addr) (c : Nat) (L : List Int), k ≤ s.size ∧ iv = .int .i64 k ∧ v = .slice a L.length c ∧ Hid (L = (strL s).take k) ∧ Hid (Own wr w.heap.size a c L) ∧ Below w.heap.size w wr) (fun _ iv _ => s.size - (intOf iv).toNat)
  case atStart => exact ⟨0, none, 0, [], by omega, rfl, rfl, by simp [Hid], Own.nil _ _, Below.refl _ _⟩
  case round =>
    obtain ⟨k, a, c, L, hk, rfl, rfl, hL, Ho, hb⟩ := hrel
    by_cases hlt : k < s.size
    · have hz := hb.size
      have hLl := hid (show L.length = k by rw [hL.out, List.length_take, strL_len]; omega)
      have hLl2 := Ho.out.2.2
      have hx : -2147483648 ≤ wrap32 ((s[k]'hlt).toNat : Int) ∧ wrap32 ((s[k]'hlt).toNat : Int) ≤ 2147483647 := by
        have h1 := (s[k]'hlt).toNat_lt
        rw [wrap_byte]; omega
      have hnew := hid (show (strL s).take k ++ [wrap32 ((s[k]'hlt).toNat : Int)] = (strL s).take (k + 1) by
        rw [take_succ (by rw [strL_len]; exact hlt), strL_at s hlt, wrap_byte])
      go_wp2_with ((at_builtin; (refine wpL_appn rfl (.tmp 11) (.tmp 16) rfl w.heap.size a (some ⟨wr.heap.size, 0, none⟩) L.length 1 c 1 L [wrap32 ((s[k]'hlt).toNat : Int)] rfl (by first | rfl | simp | omega) (Ho.out.grow (by (repeat' (first | exact Below.refl _ _ | assumption | refine bdrewN ?_ _ | refine Below.drew ?_ | refine bal ?_ _ | refine bthen ?_ (by assumption))))) rfl (by first | rfl | simp | omega) (Sl.lit wr [wrap32 ((s[k]'hlt).toNat : Int)] _ (by simp) (rng_one hx) _ rfl) (by rw [hLl.out]; simp; omega) (by simp; omega) ?_); intro a5 c5 w5 L5 Hl5 ho5 hb5 hk5 hA5; have HA5 := hid hA5; clear hA5; have Ho5 := hid ho5; clear ho5; have Hk5 := hid hk5; clear hk5; have hz5 := hb5.size))
      go_roundw
      case rel => exact ⟨k + 1, a5, c5, L5, by omega, by go_num, rfl, by rw [Hl5.out, hL.out, hnew.out]; rfl, Ho5, (hb.alloc (by omega) _).trans (hb5.mono (Nat.le_refl _))⟩
      case measure => simp [intOf]; omega
    · obtain rfl : k = s.size := by omega
      have hL2 := hid (show L = strL s by rw [hL.out]; exact List.take_of_length_le (by rw [strL_len]; exact Nat.le_refl _))
      go_wp2_with fail
      go_ret
      exact ⟨a, c, L, rfl, hL2, Ho.out, hb⟩

theorem strL_bStr {l : List Int} (h : asc l = true) : strL (bStr l) = l := by
  simp only [strL, bStr, List.map_map]
  conv => rhs; rw [← List.map_id l]
  refine List.map_congr_left fun r hr => ?_
  have := List.all_eq_true.1 h r hr
  simp only [decide_eq_true_eq] at this
  simp only [Function.comp, id]
  rw [u8n _ (by omega)]; omega
theorem mo_ix (w : World) (i : Nat) (h : i < 12) : (Instr.index 82 (.agg #[.string ⟨#[74, 97, 110, 117, 97, 114, 121]⟩, .string ⟨#[70, 101, 98, 114, 117, 97, 114, 121]⟩, .string ⟨#[77, 97, 114, 99, 104]⟩, .string ⟨#[65, 112, 114, 105, 108]⟩, .string ⟨#[77, 97, 121]⟩, .string ⟨#[74, 117, 110, 101]⟩, .string ⟨#[74, 117, 108, 121]⟩, .string ⟨#[65, 117, 103, 117, 115, 116]⟩, .string ⟨#[83, 101, 112, 116, 101, 109, 98, 101, 114]⟩, .string ⟨#[79, 99, 116, 111, 98, 101, 114]⟩, .string ⟨#[78, 111, 118, 101, 109, 98, 101, 114]⟩, .string ⟨#[68, 101, 99, 101, 109, 98, 101, 114]⟩]) (.int .i64 i)).run Tryd.prog w = .ok (.string (bStr (moL i))) w := by
  rcases (show i = 0 ∨ i = 1 ∨ i = 2 ∨ i = 3 ∨ i = 4 ∨ i = 5 ∨ i = 6 ∨ i = 7 ∨ i = 8 ∨ i = 9 ∨ i = 10 ∨ i = 11 by omega) with
    rfl | rfl | rfl | rfl | rfl | rfl | rfl | rfl | rfl | rfl | rfl | rfl <;> kernel_rfl
theorem dy_ix (w : World) (i : Nat) (h : i < 7) : (Instr.index 83 (.agg #[.string ⟨#[83, 117, 110, 100, 97, 121]⟩, .string ⟨#[77, 111, 110, 100, 97, 121]⟩, .string ⟨#[84, 117, 101, 115, 100, 97, 121]⟩, .string ⟨#[87, 101, 100, 110, 101, 115, 100, 97, 121]⟩, .string ⟨#[84, 104, 117, 114, 115, 100, 97, 121]⟩, .string ⟨#[70, 114, 105, 100, 97, 121]⟩, .string ⟨#[83, 97, 116, 117, 114, 100, 97, 121]⟩]) (.int .i64 i)).run Tryd.prog w = .ok (.string (bStr (dyL i))) w := by
  rcases (show i = 0 ∨ i = 1 ∨ i = 2 ∨ i = 3 ∨ i = 4 ∨ i = 5 ∨ i = 6 by omega) with
    rfl | rfl | rfl | rfl | rfl | rfl | rfl <;> kernel_rfl
set_option maxRecDepth 100000 in
theorem rmonth_c (n : Nat) (w : World) (h0 : 1 ≤ n) (h : n ≤ 12) : Calls Tryd.prog 54 #[.int .i64 n] w fun e w' => e = .returned (.string (bStr (moL (n - 1)))) ∧ w = w' := by
  have ix := fun w => mo_ix w (n - 1) (by omega)
  have e1 : IntKind.i64.wrap ((n : Int) - 1) = ((n - 1 : Nat) : Int) := by rw [IntKind.wrap_i64]; omega
  generalize bStr (moL (n - 1)) = s at ix ⊢
  obtain ⟨i, hi⟩ : ∃ i, n - 1 = i := ⟨_, rfl⟩
  rw [hi] at ix e1
  clear hi
  go_enter Tryd.func54, Tryd.ntmps54
  go_wp2
  go_ret
  exact ⟨rfl, rfl⟩
set_option maxRecDepth 100000 in
theorem rday_c (n : Nat) (w : World) (h : n ≤ 6) : Calls Tryd.prog 55 #[.int .i64 n] w fun e w' => e = .returned (.string (bStr (dyL n))) ∧ w = w' := by
  have ix := fun w => dy_ix w n (by omega)
  generalize bStr (dyL n) = s at ix ⊢
  go_enter Tryd.func55, Tryd.ntmps55
  go_wp2
  go_ret
  exact ⟨rfl, rfl⟩
set_option maxHeartbeats 1000000 in
set_option maxRecDepth 100000 in
theorem rdraw_c (m : En) (u : Nat) (w : World) (hm : Hid (EnOk w m)) (hd : Hid (drE m.dl = true)) (_ : u ≤ 5000) : Calls Tryd.prog 27 #[.agg (enC m), .int .i64 u] w fun e w' => e = .returned (.int .i64 (drw m u)) ∧ Below w.heap.size w w' := by
  have sd := hm.out.sd
  have hl := sd.len
  have he := drw_eq hd.out u
  simp only [enC]
  by_cases hlt : u < m.dl.length
  · obtain ⟨b, o, ha, hc⟩ := sd.at hlt
    have ck := fun o => (Below.cell (p := ⟨b, _, none⟩) (bal (Below.refl _ w) o) (World.block_lt_of_cell? w _ (hc u hlt))).trans (hc u hlt)
    rw [he] at ck
    have b1 : decide ((u : Int) < (m.dl.length : Int)) = true := by simp; omega
    have b2 : decide (u < m.dl.length) = true := by simp; omega
    generalize drw m u = v at ck he ⊢
    generalize m.dl.length = n at b1 b2 hlt
    rw [ha]
    clear he hc sd ha hl
    go_enter Tryd.func27, Tryd.ntmps27
    go_wp2
    go_ret
    exact ⟨rfl, bal (Below.refl _ _) _⟩
  · have h0 : Hid (drw m u = 0) := hid (by unfold drw; rw [gt_over (by omega)]; rfl)
    have b2 : decide (u < m.dl.length) = false := by simp; omega
    clear he sd
    generalize m.dl.length = n at b2 hlt
    go_enter Tryd.func27, Tryd.ntmps27
    go_wp2
    go_ret
    exact ⟨by rw [h0.out]; rfl, bal (Below.refl _ _) _⟩
set_option maxHeartbeats 1000000 in
theorem rbase_c (a : Option Addr) (c : Nat) (l : List Int) (w : World) (h : Sl w a l) (hc : l.length ≤ c) : Calls Tryd.prog 44 #[.slice a l.length c] w fun e w' => ∃ a' c', e = .returned (.slice a' (baseL l).length c') ∧ Sl w a' (baseL l) ∧ (baseL l).length ≤ c' ∧ w = w' := by
  have hl := h.len
  have HS := hid h
  go_enter Tryd.func44, Tryd.ntmps44
  go_wp2
  go_loop [3] (fun iv => ∃ k : Nat, k ≤ l.length ∧ iv = .int .i64 ((k : Int) - 1) ∧ Hid (baseL l = baseAt l k)) (fun iv => (intOf iv + 1).toNat)
  case atStart => exact ⟨l.length, Nat.le_refl _, by go_num, rfl⟩
  case round =>
    obtain ⟨k, hk, rfl, hB⟩ := hrel
    by_cases h2 : 2 ≤ k
    · obtain ⟨i, rfl⟩ : ∃ i, k = i + 2 := ⟨k - 2, by omega⟩
      obtain ⟨j, hj⟩ : ∃ j, i + 1 = j := ⟨_, rfl⟩
      have hji : (((i + 2 : Nat) : Int) - 1) = (j : Int) := by omega
      have hj0 : 0 < j := by omega
      have hjl : j < l.length := by omega
      rw [hji]
      obtain ⟨b, o, ha, hcell⟩ := h.at hjl
      have ck := hcell j hjl
      have b1 : decide (0 < j) = true := by simpa using hj0
      by_cases h46 : gt l j = 46
      · have hR := hid (hB.out.trans (baseAt_hit (hj ▸ h46)))
        obtain ⟨a', c', D, HD, sD, hDc, hrun⟩ := slice_to h j c (by omega) hc
        have hD : Hid (baseL l = D) := hid (by rw [hR.out, HD.out, hj])
        rw [h46] at ck
        subst ha
        have SD := hid sD
        clear hcell hji hj HD sD hR hB h HS
        go_wp2
        go_ret
        exact ⟨a', c', by rw [hD.out]; rfl, by rw [hD.out]; exact SD.out, by rw [hD.out]; exact hDc, rfl⟩
      · have hR := hid (hB.out.trans (baseAt_miss (i := i + 1) (hj ▸ h46)))
        have b2 : (gt l j == 46) = false := by simpa using h46
        subst ha
        have Hj := hid hj
        clear hcell hji hj
        go_wp2
        go_round
        case rel => exact ⟨i + 1, by have := Hj.out; omega, by congr 1; have := Hj.out; omega, hR⟩
        case measure => have := Hj.out; simp [intOf] <;> omega
    · have hR : Hid (baseL l = l) := by
        rcases (show k = 0 ∨ k = 1 by omega) with rfl | rfl
        · exact hid hB.out
        · exact hid (hB.out.trans (baseAt_one l))
      have b1 : decide ((0 : Int) < (k : Int) - 1) = false := by simp; omega
      have Hc := hid hc
      clear hB hc
      go_wp2
      go_ret
      exact ⟨a, c, by rw [hR.out]; rfl, by rw [hR.out]; exact HS.out, by rw [hR.out]; exact Hc.out, rfl⟩
end Go.Proofs.YtijhkpbnalnpbaaDoor
