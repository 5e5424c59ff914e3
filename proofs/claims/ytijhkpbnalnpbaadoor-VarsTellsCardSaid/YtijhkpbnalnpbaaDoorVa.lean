/- Environments in memory; which there may be: the code's and the document's. -/
import Derived.Test.YtijhkpbnalnpbaaDoorVf
import Derived.Test.YtijhkpbnalnpbaaDoorInts
namespace Go.Proofs.YtijhkpbnalnpbaaDoor
open Go.RowKit

def i64 (x : Int) : Prop := -9223372036854775808 ≤ x ∧ x ≤ 9223372036854775807
structure EnOk (w : World) (m : En) : Prop where
  s0 : Sl w m.a0 m.t0
  s1 : Sl w m.a1 m.t1
  s2 : Sl w m.a2 m.t2
  s3 : Sl w m.a3 m.t3
  s4 : Sl w m.a4 m.t4
  s5 : Sl w m.a5 m.t5
  sd : I.Sl w m.da m.dl
  l0 : m.t0.length ≤ m.c0
  l1 : m.t1.length ≤ m.c1
  l2 : m.t2.length ≤ m.c2
  l3 : m.t3.length ≤ m.c3
  l4 : m.t4.length ≤ m.c4
  l5 : m.t5.length ≤ m.c5
  ld : m.dl.length ≤ m.dc
def enC (m : En) : Array Value := #[.slice m.a0 m.t0.length m.c0, .slice m.a1 m.t1.length m.c1, .slice m.a2 m.t2.length m.c2, .slice m.a3 m.t3.length m.c3, .slice m.a4 m.t4.length m.c4, .slice m.a5 m.t5.length m.c5,
  .int .i64 m.ix, .int .i64 m.k0, .int .i64 m.k1, .int .i64 m.k2, .int .i64 m.k3, .int .i64 m.k4, .int .i64 m.k5, .int .i64 m.k6, .slice m.da m.dl.length m.dc]
theorem EnOk.bel {w w' : World} {m : En} (h : EnOk w m) (hb : Below w.heap.size w w') : EnOk w' m :=
  ⟨h.s0.bel hb, h.s1.bel hb, h.s2.bel hb, h.s3.bel hb, h.s4.bel hb, h.s5.bel hb, h.sd.bel hb, h.l0, h.l1, h.l2, h.l3, h.l4, h.l5, h.ld⟩
theorem EnOk.below {w w' : World} {m : En} {B : Nat} (h : EnOk w m) (hb : Below B w w') (hB : w.heap.size ≤ B) : EnOk w' m := h.bel (hb.mono hB)
theorem EnOk.drewN {w : World} {m : En} (h : EnOk w m) (n : Nat) : EnOk (w.drewN n) m := h.bel (bdrewN (Below.refl _ _) n)
theorem EnOk.alloc {w : World} {m : En} (h : EnOk w m) (o : Obj) : EnOk (w.alloc o) m := h.bel ((Below.refl _ _).alloc (Nat.le_refl _) o)

theorem vbetween_c (n a b : Int) (w : World) : Calls Tryd.prog 23 #[.int .i64 n, .int .i64 a, .int .i64 b] w fun e w' => e = .returned (.bool (bti n a b)) ∧ w = w' := by
  go_enter Tryd.func23, Tryd.ntmps23
  go_wp2
  all_goals go_ret
  all_goals (refine ⟨ret_bool ?_, rfl⟩; go_light; rw [Bool.eq_iff_iff]; ((try simp [bti] at *) <;> (first | omega | (constructor <;> intro _ <;> omega) | trivial)))
theorem rin_c (n a b : Int) (w : World) : Calls Tryd.prog 35 #[.int .i64 n, .int .i64 a, .int .i64 b] w fun e w' => e = .returned (.bool (bti n a b)) ∧ w = w' := by
  go_enter Tryd.func35, Tryd.ntmps35
  go_wp2
  all_goals go_ret
  all_goals (refine ⟨ret_bool ?_, rfl⟩; go_light; rw [Bool.eq_iff_iff]; ((try simp [bti] at *) <;> (first | omega | (constructor <;> intro _ <;> omega) | trivial)))
theorem rshort_c (a : Option Addr) (c : Nat) (l : List Int) (w : World) (h : Sl w a l) : Calls Tryd.prog 34 #[.slice a l.length c] w fun e w' => e = .returned (.bool (txE l)) ∧ w = w' := by
  have hl := h.len
  cases hq : decide (l.length ≤ 100) with
  | true =>
    have e : Hid (txE l = may l) := hid (by simp [txE, hq])
    have hq2 : decide ((l.length : Int) ≤ 100) = true := by simp at hq ⊢; omega
    clear hq
    go_enter Tryd.func34, Tryd.ntmps34
    go_wp2_with (go_at_call 47; (with_reducible refine (rmay_c _ _ _ _ h).mono ?_); rintro e w' ⟨rfl, rfl⟩)
    go_ret
    exact ⟨ret_bool e.out.symm, rfl⟩
  | false =>
    have e : Hid (txE l = false) := hid (by simp [txE, hq])
    have hq2 : decide ((l.length : Int) ≤ 100) = false := by simp at hq ⊢; omega
    clear hq
    go_enter Tryd.func34, Tryd.ntmps34
    go_wp2
    go_ret
    exact ⟨ret_bool e.out.symm, rfl⟩
def allT (tx : Nat → List Int) : Bool := (List.range 6).all fun j => txE (tx j)
set_option maxHeartbeats 1000000 in
theorem mayTexts_c (b : Nat) (ad : Nat → Option Addr) (tx : Nat → List Int) (cp : Nat → Nat) (w : World) (hc : ∀ j, j < 6 → w.cell? ⟨b, j, none⟩ = some (.slice (ad j) (tx j).length (cp j))) (hs : ∀ j, j < 6 → Sl w (ad j) (tx j)) :
    Calls Tryd.prog 31 #[.slice (some ⟨b, 0, none⟩) 6 6] w fun e w' => e = .returned (.bool (allT tx)) ∧ w = w' := by
  have HC := hid hc
  have HS := hid hs
  clear hc hs
  go_enter Tryd.func31, Tryd.ntmps31
  go_wp2
  go_loop [7] (fun i => ∃ k : Nat, k ≤ 6 ∧ i = .int .i64 k ∧ Hid (∀ j, j < k → txE (tx j) = true)) (fun i => 6 - (intOf i).toNat)
  case atStart => exact ⟨0, by omega, rfl, hid (fun j hj => by omega)⟩
  case round =>
    obtain ⟨k, hk, rfl, hm⟩ := hrel
    by_cases hlt : k < 6
    · have ck := HC.out k hlt
      have sk := HS.out k hlt
      have b0 : decide (k < 6) = true := by simpa using hlt
      have Hf : Hid (txE (tx k) = false → allT tx = false) := hid fun h => by
        rw [allT, List.all_eq_false]; exact ⟨k, List.mem_range.2 hlt, by simp [h]⟩
      have Ht : Hid (txE (tx k) = true → ∀ j, j < k + 1 → txE (tx j) = true) := hid fun h j hj => by
        rcases Nat.lt_or_ge j k with h1 | h1
        · exact hm.out j h1
        · obtain rfl : j = k := by omega
          exact h
      generalize tx k = l at ck sk Hf Ht
      generalize ad k = a at ck sk
      generalize cp k = c at ck
      have hl := sk.len
      cases hq : decide (l.length ≤ 100) with
      | true =>
        have hq2 : decide ((100 : Int) < (l.length : Int)) = false := by simp at hq ⊢; omega
        have e : Hid (txE l = may l) := hid (by simp [txE, hq])
        clear hq
        cases hy : may l with
        | true =>
          have HY := hid hy
          go_wp2_with (go_at_call 46; (with_reducible refine (may_c _ _ _ _ sk).mono ?_); rintro e w' ⟨rfl, rfl⟩)
          go_round
          case rel => exact ⟨k + 1, by omega, by go_num, hid (Ht.out (by rw [e.out]; exact HY.out))⟩
          case measure => simp [intOf]; omega
        | false =>
          have HY := hid hy
          go_wp2_with (go_at_call 46; (with_reducible refine (may_c _ _ _ _ sk).mono ?_); rintro e w' ⟨rfl, rfl⟩)
          go_ret
          exact ⟨ret_bool (Hf.out (by rw [e.out]; exact HY.out)).symm, rfl⟩
      | false =>
        have hq2 : decide ((100 : Int) < (l.length : Int)) = true := by simp at hq ⊢; omega
        have e : Hid (txE l = false) := hid (by simp [txE, hq])
        clear hq
        go_wp2
        go_ret
        exact ⟨ret_bool (Hf.out e.out).symm, rfl⟩
    · have b0 : decide (k < 6) = false := by simpa using hlt
      go_wp2
      go_ret
      refine ⟨ret_bool (Eq.symm ?_), rfl⟩
      rw [allT, List.all_eq_true]
      exact fun j hj => hm.out j (by have := List.mem_range.1 hj; omega)
/-- the clock's tests, by places -/
def ckB (k0 k1 k2 k3 k4 k5 k6 : Int) : Nat → Bool
  | 0 => bti k0 0 9999
  | 1 => bti k1 1 12
  | 2 => bti k2 1 31
  | 3 => bti k3 0 23
  | 4 => bti k4 0 59
  | 5 => bti k5 0 59
  | _ => bti k6 0 6
theorem ckB_all (k0 k1 k2 k3 k4 k5 k6 : Int) (h : ∀ j, j < 7 → ckB k0 k1 k2 k3 k4 k5 k6 j = true) : ckE k0 k1 k2 k3 k4 k5 k6 = true := by
  have h0 := h 0 (by omega); have h1 := h 1 (by omega); have h2 := h 2 (by omega); have h3 := h 3 (by omega); have h4 := h 4 (by omega); have h5 := h 5 (by omega); have h6 := h 6 (by omega)
  simp only [ckB] at h0 h1 h2 h3 h4 h5 h6
  simp [ckE, h0, h1, h2, h3, h4, h5, h6]
theorem ckB_not (k0 k1 k2 k3 k4 k5 k6 : Int) (j : Nat) (hj : j < 7) (h : ckB k0 k1 k2 k3 k4 k5 k6 j = false) : ckE k0 k1 k2 k3 k4 k5 k6 = false := by
  rcases (show j = 0 ∨ j = 1 ∨ j = 2 ∨ j = 3 ∨ j = 4 ∨ j = 5 ∨ j = 6 by omega) with rfl | rfl | rfl | rfl | rfl | rfl | rfl <;> simp only [ckB] at h <;> simp [ckE, h]
theorem vbetween_v (n a b : Int) : ∃ r, Hid (r = bti n a b) ∧ ∀ w, Calls Tryd.prog 23 #[.int .i64 n, .int .i64 a, .int .i64 b] w fun e w' => e = .returned (.bool r) ∧ w' = w := ⟨_, rfl, fun w => (vbetween_c n a b w).mono fun _ _ h => ⟨h.1, h.2.symm⟩⟩
set_option maxHeartbeats 4000000 in
set_option maxRecDepth 100000 in
theorem mayClock_c (k0 k1 k2 k3 k4 k5 k6 : Int) (w : World) (hg : Hid (Gl w)) :
    Calls Tryd.prog 32 #[.agg #[.int .i64 k0, .int .i64 k1, .int .i64 k2, .int .i64 k3, .int .i64 k4, .int .i64 k5, .int .i64 k6]] w fun e w' => e = .returned (.bool (ckE k0 k1 k2 k3 k4 k5 k6)) ∧ Below w.heap.size w w' := by
  have hck : ∀ o i, (w.alloc o).cell? ⟨1, i, none⟩ = ckA[i]? := fun o i => (hg.out.alloc o).ck.cell i
  go_enter Tryd.func32, Tryd.ntmps32
  go_wp2
  have HB := hid (bal (Below.refl w.heap.size w) (.cells #[.int .i64 k0, .int .i64 k1, .int .i64 k2, .int .i64 k3, .int .i64 k4, .int .i64 k5, .int .i64 k6] 23))
  replace hck := hid (hck (.cells #[.int .i64 k0, .int .i64 k1, .int .i64 k2, .int .i64 k3, .int .i64 k4, .int .i64 k5, .int .i64 k6] 23))
  generalize w.alloc _ = V at hck HB ⊢
  go_loopw [6] (fun i wr => ∃ k : Nat, k ≤ 7 ∧ i = .int .i64 k ∧ Hid (∀ j, j < k → ckB k0 k1 k2 k3 k4 k5 k6 j = true) ∧ Hid (∀ i, wr.cell? ⟨1, i, none⟩ = ckA[i]?) ∧ Hid (Below w.heap.size w wr)) (fun i _ => 7 - (intOf i).toNat)
  case atStart => exact ⟨0, by omega, rfl, hid (fun j hj => by omega), hck, HB⟩
  case round =>
    obtain ⟨k, hk, rfl, hm, hcr, hbr⟩ := hrel
    by_cases hlt : k < 7
    · have Hn := hid (ckB_not k0 k1 k2 k3 k4 k5 k6 k hlt)
      have Hy : Hid (ckB k0 k1 k2 k3 k4 k5 k6 k = true → ∀ j, j < k + 1 → ckB k0 k1 k2 k3 k4 k5 k6 j = true) := hid fun h j hj => by
        rcases Nat.lt_or_ge j k with h1 | h1
        · exact hm.out j h1
        · obtain rfl : j = k := by omega
          exact h
      rcases (show k = 0 ∨ k = 1 ∨ k = 2 ∨ k = 3 ∨ k = 4 ∨ k = 5 ∨ k = 6 by omega) with rfl | rfl | rfl | rfl | rfl | rfl | rfl
      · as_aux_lemma =>
        have c0 : wr.cell? ⟨1, 0, none⟩ = some (.int .i64 0) := (hcr.out 0).trans (by kernel_rfl)
        have c1 : wr.cell? ⟨1, 1, none⟩ = some (.int .i64 9999) := (hcr.out 1).trans (by kernel_rfl)
        have ix : ∀ w, (Instr.index 23 (.agg #[.int .i64 k0, .int .i64 k1, .int .i64 k2, .int .i64 k3, .int .i64 k4, .int .i64 k5, .int .i64 k6]) (.int .i64 0)).run Tryd.prog w = .ok (.int .i64 k0) w := fun w => by kernel_rfl
        obtain ⟨r, hr, hv⟩ := vbetween_v k0 0 9999
        clear hm
        cases r with
        | true =>
          go_wp2
          go_quiet ((first | (go_at_call 23; (with_reducible refine Calls.quiet_of_same (hv _)))))
          go_wp2
          go_roundw
          case rel => exact ⟨1, by omega, by go_num, hid (Hy.out (by simp only [ckB]; exact hr.out.symm)), hcr, hid (bdrewN hbr.out _)⟩
          case measure => simp [intOf]
        | false =>
          go_wp2
          go_quiet ((first | (go_at_call 23; (with_reducible refine Calls.quiet_of_same (hv _)))))
          go_wp2
          go_ret
          exact ⟨ret_bool (Hn.out (by simp only [ckB]; exact hr.out.symm)).symm, bdrewN hbr.out _⟩
      · as_aux_lemma =>
        have c0 : wr.cell? ⟨1, 2, none⟩ = some (.int .i64 1) := (hcr.out 2).trans (by kernel_rfl)
        have c1 : wr.cell? ⟨1, 3, none⟩ = some (.int .i64 12) := (hcr.out 3).trans (by kernel_rfl)
        have ix : ∀ w, (Instr.index 23 (.agg #[.int .i64 k0, .int .i64 k1, .int .i64 k2, .int .i64 k3, .int .i64 k4, .int .i64 k5, .int .i64 k6]) (.int .i64 1)).run Tryd.prog w = .ok (.int .i64 k1) w := fun w => by kernel_rfl
        obtain ⟨r, hr, hv⟩ := vbetween_v k1 1 12
        clear hm
        cases r with
        | true =>
          go_wp2
          go_quiet ((first | (go_at_call 23; (with_reducible refine Calls.quiet_of_same (hv _)))))
          go_wp2
          go_roundw
          case rel => exact ⟨2, by omega, by go_num, hid (Hy.out (by simp only [ckB]; exact hr.out.symm)), hcr, hid (bdrewN hbr.out _)⟩
          case measure => simp [intOf]
        | false =>
          go_wp2
          go_quiet ((first | (go_at_call 23; (with_reducible refine Calls.quiet_of_same (hv _)))))
          go_wp2
          go_ret
          exact ⟨ret_bool (Hn.out (by simp only [ckB]; exact hr.out.symm)).symm, bdrewN hbr.out _⟩
      · as_aux_lemma =>
        have c0 : wr.cell? ⟨1, 4, none⟩ = some (.int .i64 1) := (hcr.out 4).trans (by kernel_rfl)
        have c1 : wr.cell? ⟨1, 5, none⟩ = some (.int .i64 31) := (hcr.out 5).trans (by kernel_rfl)
        have ix : ∀ w, (Instr.index 23 (.agg #[.int .i64 k0, .int .i64 k1, .int .i64 k2, .int .i64 k3, .int .i64 k4, .int .i64 k5, .int .i64 k6]) (.int .i64 2)).run Tryd.prog w = .ok (.int .i64 k2) w := fun w => by kernel_rfl
        obtain ⟨r, hr, hv⟩ := vbetween_v k2 1 31
        clear hm
        cases r with
        | true =>
          go_wp2
          go_quiet ((first | (go_at_call 23; (with_reducible refine Calls.quiet_of_same (hv _)))))
          go_wp2
          go_roundw
          case rel => exact ⟨3, by omega, by go_num, hid (Hy.out (by simp only [ckB]; exact hr.out.symm)), hcr, hid (bdrewN hbr.out _)⟩
          case measure => simp [intOf]
        | false =>
          go_wp2
          go_quiet ((first | (go_at_call 23; (with_reducible refine Calls.quiet_of_same (hv _)))))
          go_wp2
          go_ret
          exact ⟨ret_bool (Hn.out (by simp only [ckB]; exact hr.out.symm)).symm, bdrewN hbr.out _⟩
      · as_aux_lemma =>
        have c0 : wr.cell? ⟨1, 6, none⟩ = some (.int .i64 0) := (hcr.out 6).trans (by kernel_rfl)
        have c1 : wr.cell? ⟨1, 7, none⟩ = some (.int .i64 23) := (hcr.out 7).trans (by kernel_rfl)
        have ix : ∀ w, (Instr.index 23 (.agg #[.int .i64 k0, .int .i64 k1, .int .i64 k2, .int .i64 k3, .int .i64 k4, .int .i64 k5, .int .i64 k6]) (.int .i64 3)).run Tryd.prog w = .ok (.int .i64 k3) w := fun w => by kernel_rfl
        obtain ⟨r, hr, hv⟩ := vbetween_v k3 0 23
        clear hm
        cases r with
        | true =>
          go_wp2
          go_quiet ((first | (go_at_call 23; (with_reducible refine Calls.quiet_of_same (hv _)))))
          go_wp2
          go_roundw
          case rel => exact ⟨4, by omega, by go_num, hid (Hy.out (by simp only [ckB]; exact hr.out.symm)), hcr, hid (bdrewN hbr.out _)⟩
          case measure => simp [intOf]
        | false =>
          go_wp2
          go_quiet ((first | (go_at_call 23; (with_reducible refine Calls.quiet_of_same (hv _)))))
          go_wp2
          go_ret
          exact ⟨ret_bool (Hn.out (by simp only [ckB]; exact hr.out.symm)).symm, bdrewN hbr.out _⟩
      · as_aux_lemma =>
        have c0 : wr.cell? ⟨1, 8, none⟩ = some (.int .i64 0) := (hcr.out 8).trans (by kernel_rfl)
        have c1 : wr.cell? ⟨1, 9, none⟩ = some (.int .i64 59) := (hcr.out 9).trans (by kernel_rfl)
        have ix : ∀ w, (Instr.index 23 (.agg #[.int .i64 k0, .int .i64 k1, .int .i64 k2, .int .i64 k3, .int .i64 k4, .int .i64 k5, .int .i64 k6]) (.int .i64 4)).run Tryd.prog w = .ok (.int .i64 k4) w := fun w => by kernel_rfl
        obtain ⟨r, hr, hv⟩ := vbetween_v k4 0 59
        clear hm
        cases r with
        | true =>
          go_wp2
          go_quiet ((first | (go_at_call 23; (with_reducible refine Calls.quiet_of_same (hv _)))))
          go_wp2
          go_roundw
          case rel => exact ⟨5, by omega, by go_num, hid (Hy.out (by simp only [ckB]; exact hr.out.symm)), hcr, hid (bdrewN hbr.out _)⟩
          case measure => simp [intOf]
        | false =>
          go_wp2
          go_quiet ((first | (go_at_call 23; (with_reducible refine Calls.quiet_of_same (hv _)))))
          go_wp2
          go_ret
          exact ⟨ret_bool (Hn.out (by simp only [ckB]; exact hr.out.symm)).symm, bdrewN hbr.out _⟩
      · as_aux_lemma =>
        have c0 : wr.cell? ⟨1, 10, none⟩ = some (.int .i64 0) := (hcr.out 10).trans (by kernel_rfl)
        have c1 : wr.cell? ⟨1, 11, none⟩ = some (.int .i64 59) := (hcr.out 11).trans (by kernel_rfl)
        have ix : ∀ w, (Instr.index 23 (.agg #[.int .i64 k0, .int .i64 k1, .int .i64 k2, .int .i64 k3, .int .i64 k4, .int .i64 k5, .int .i64 k6]) (.int .i64 5)).run Tryd.prog w = .ok (.int .i64 k5) w := fun w => by kernel_rfl
        obtain ⟨r, hr, hv⟩ := vbetween_v k5 0 59
        clear hm
        cases r with
        | true =>
          go_wp2
          go_quiet ((first | (go_at_call 23; (with_reducible refine Calls.quiet_of_same (hv _)))))
          go_wp2
          go_roundw
          case rel => exact ⟨6, by omega, by go_num, hid (Hy.out (by simp only [ckB]; exact hr.out.symm)), hcr, hid (bdrewN hbr.out _)⟩
          case measure => simp [intOf]
        | false =>
          go_wp2
          go_quiet ((first | (go_at_call 23; (with_reducible refine Calls.quiet_of_same (hv _)))))
          go_wp2
          go_ret
          exact ⟨ret_bool (Hn.out (by simp only [ckB]; exact hr.out.symm)).symm, bdrewN hbr.out _⟩
      · as_aux_lemma =>
        have c0 : wr.cell? ⟨1, 12, none⟩ = some (.int .i64 0) := (hcr.out 12).trans (by kernel_rfl)
        have c1 : wr.cell? ⟨1, 13, none⟩ = some (.int .i64 6) := (hcr.out 13).trans (by kernel_rfl)
        have ix : ∀ w, (Instr.index 23 (.agg #[.int .i64 k0, .int .i64 k1, .int .i64 k2, .int .i64 k3, .int .i64 k4, .int .i64 k5, .int .i64 k6]) (.int .i64 6)).run Tryd.prog w = .ok (.int .i64 k6) w := fun w => by kernel_rfl
        obtain ⟨r, hr, hv⟩ := vbetween_v k6 0 6
        clear hm
        cases r with
        | true =>
          go_wp2
          go_quiet ((first | (go_at_call 23; (with_reducible refine Calls.quiet_of_same (hv _)))))
          go_wp2
          go_roundw
          case rel => exact ⟨7, by omega, by go_num, hid (Hy.out (by simp only [ckB]; exact hr.out.symm)), hcr, hid (bdrewN hbr.out _)⟩
          case measure => simp [intOf]
        | false =>
          go_wp2
          go_quiet ((first | (go_at_call 23; (with_reducible refine Calls.quiet_of_same (hv _)))))
          go_wp2
          go_ret
          exact ⟨ret_bool (Hn.out (by simp only [ckB]; exact hr.out.symm)).symm, bdrewN hbr.out _⟩
    · obtain rfl : k = 7 := by omega
      have e := hid (ckB_all k0 k1 k2 k3 k4 k5 k6 hm.out)
      clear hlt
      go_wp2
      go_ret
      exact ⟨ret_bool e.out.symm, hbr.out⟩
end Go.Proofs.YtijhkpbnalnpbaaDoor
