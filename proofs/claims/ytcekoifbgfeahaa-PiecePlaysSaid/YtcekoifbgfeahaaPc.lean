/- Contracts of package piece that only read: Len, Added, cloned, Pieces. -/
import Derived.Test.YtcekoifbgfeahaaPs
import Derived.Test.YtcekoifbgfeahaaSignsL
namespace Go.Proofs.Ytcekoifbgfeahaa
open Go.RowKit

theorem tot_mem {l : List Pc} {p : Pc} (h : p ∈ l) : p.n ≤ tot l := by
  induction l with
  | nil => cases h
  | cons q l ih =>
    rcases List.mem_cons.1 h with rfl | h
    · simp [tot]
    · have := ih h; simp [tot]; omega
theorem tot_take (l : List Pc) (k : Nat) : tot (l.take k) ≤ tot l := by
  have := congrArg tot (List.take_append_drop k l)
  rw [tot_app] at this; omega
theorem tot_take_succ {l : List Pc} {k : Nat} (h : k < l.length) : tot (l.take (k + 1)) = tot (l.take k) + (pg l k).n := by
  rw [pg_take h, tot_app]; simp [tot]

set_option maxHeartbeats 1000000 in
theorem len_t (B : Nat) (F : Nat → Prop) (pt : Nat) (s : St) (w : World) (h : Tab w B F pt s) :
    Calls Try.prog 37 #[.pointer (some ⟨pt, 0, none⟩)] w fun e w' => e = .returned (.int .i64 (tot s.p)) ∧ Below w.heap.size w w' := by
  obtain ⟨ao, co, aa, ca, ap, cp, c0, c1, c2, -, -, o2, -⟩ := h.cells
  have hsl := o2.sl
  have htot := h.wf.tot
  have hlen := h.wf.len
  have Hw := hid h.wf
  clear o2 h c0 c1
  go_enter Try.func37, Try.ntmps37
  go_wp2
  go_loopw [3, 13] (fun tv i wr => ∃ k : Nat, k ≤ s.p.length ∧ i = .int .i64 k ∧ tv = .int .i64 (tot (s.p.take k)) ∧ Below w.heap.size w wr) (fun _ i _ => s.p.length - (intOf i).toNat)
  case atStart => exact ⟨0, Nat.zero_le _, rfl, by simp [tot], Below.refl _ _⟩
  case round =>
    obtain ⟨k, hk, rfl, rfl, hb⟩ := hrel
    by_cases hlt : k < s.p.length
    · obtain ⟨b, off, rfl, hc⟩ := (hsl.bel hb).at hlt
      obtain ⟨k0, k1, k2⟩ := hc k hlt
      clear hc
      have Hts := hid (tot_take_succ hlt)
      have ht2 := tot_take s.p (k + 1)
      rw [tot_take_succ hlt] at ht2
      go_wp2
      go_round
      case rel => exact ⟨k + 1, by omega, by go_num, by rw [Hts.out]; go_num, hb.alloc hb.size _⟩
      case measure => simp [intOf]; omega
    · go_wp2
      go_ret
      exact ⟨ret_int (by rw [List.take_of_length_le (by omega)]), hb⟩
set_option maxHeartbeats 1000000 in
theorem len_nil (w : World) : Calls Try.prog 37 #[.pointer none] w fun e w' => e = .returned (.int .i64 0) ∧ w = w' := by
  go_enter Try.func37, Try.ntmps37
  go_wp2
  go_ret
  exact ⟨rfl, rfl⟩
set_option maxHeartbeats 1000000 in
theorem added_t (B : Nat) (F : Nat → Prop) (pt : Nat) (s : St) (w : World) (h : Tab w B F pt s) :
    Calls Try.prog 36 #[.pointer (some ⟨pt, 0, none⟩)] w fun e w' => e = .returned (.int .i64 s.a.length) ∧ w = w' := by
  obtain ⟨ao, co, aa, ca, ap, cp, c0, c1, c2, -⟩ := h.cells
  clear h
  go_enter Try.func36, Try.ntmps36
  go_wp2
  go_ret
  exact ⟨rfl, rfl⟩
/-- what a function that makes new pieces gives -/
def PMakes (w : World) (l : List Pc) (e : Ending) (w' : World) : Prop :=
  ∃ a c, e = .returned (.slice a l.length c) ∧ POwn w' w.heap.size a c l ∧ Below w.heap.size w w'
set_option maxHeartbeats 1000000 in
theorem pcloned_c (a : Option Addr) (c : Nat) (l : List Pc) (w : World) (h : PSl w a l) :
    Calls Try.prog 60 #[.slice a l.length c] w (PMakes w l) := by
  have hl := h.len
  go_enter Try.func60, Try.ntmps60
  go_wp2_with (at_builtin; (refine wpL_papp rfl ((.const (.slice none 0 0))) (.tmp 3) rfl w.heap.size none a 0 l.length 0 c [] l rfl (by first | rfl | simp | omega) (POwn.nil _ _) rfl (by first | rfl | simp | omega) h (by simp; omega) (Nat.le_refl _) ?_); intro a1 c1 w1 L1 Hl1 ho1 hb1 hk1 hA1; have HA1 := hid hA1; clear hA1; have Ho1 := hid ho1; clear ho1; have Hk1 := hid hk1; clear hk1; have hz1 := hb1.size)
  go_ret
  obtain rfl : L1 = l := by simpa using Hl1.out
  exact ⟨_, _, rfl, Ho1.out, hb1⟩
set_option maxHeartbeats 1000000 in
theorem rcloned_c (a : Option Addr) (c : Nat) (l : List Int) (w : World) (h : Sl w a l) :
    Calls Try.prog 32 #[.slice a l.length c] w (Makes w l) := by
  have hl := h.len
  go_enter Try.func32, Try.ntmps32
  go_wp2_with (at_builtin; (refine wpL_appn rfl ((.const (.slice none 0 0))) (.tmp 3) rfl w.heap.size none a 0 l.length 0 c [] l rfl (by first | rfl | simp | omega) (Own.nil _ _) rfl (by first | rfl | simp | omega) h (by simp; omega) (Nat.le_refl _) ?_); intro a1 c1 w1 L1 Hl1 ho1 hb1 hk1 hA1; have HA1 := hid hA1; clear hA1; have Ho1 := hid ho1; clear ho1; have Hk1 := hid hk1; clear hk1; have hz1 := hb1.size)
  go_ret
  obtain rfl : L1 = l := by simpa using Hl1.out
  exact ⟨_, _, rfl, Ho1.out, hb1⟩
set_option maxHeartbeats 1000000 in
theorem pieces_t (B : Nat) (F : Nat → Prop) (pt : Nat) (s : St) (w : World) (h : Tab w B F pt s) :
    Calls Try.prog 35 #[.pointer (some ⟨pt, 0, none⟩)] w (PMakes w s.p) := by
  obtain ⟨ao, co, aa, ca, ap, cp, c0, c1, c2, -, -, o2, -⟩ := h.cells
  have hsl := o2.sl
  clear h o2 c0 c1
  go_enter Try.func35, Try.ntmps35
  go_wp2_with (go_at_call 60; (with_reducible refine (pcloned_c _ _ _ _ hsl).mono ?_); rintro e w' ⟨a', c', rfl, ho, hb⟩; have Ho := hid ho; clear ho)
  go_ret
  exact ⟨a', c', rfl, Ho.out, hb⟩
end Go.Proofs.Ytcekoifbgfeahaa
