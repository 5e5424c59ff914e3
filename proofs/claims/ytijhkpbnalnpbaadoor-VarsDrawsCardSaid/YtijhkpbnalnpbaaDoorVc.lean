/- Which environments there may be: the document's MayEnv. -/
import Derived.Test.YtijhkpbnalnpbaaDoorVb
namespace Go.Proofs.YtijhkpbnalnpbaaDoor
open Go.RowKit

set_option maxHeartbeats 8000000 in
set_option maxRecDepth 100000 in
theorem rmay_e (m : En) (w : World) (hm : Hid (EnOk w m)) : Calls Tryd.prog 20 #[.agg (enC m)] w (MayP w (mayE m)) := by
  obtain ⟨a0, t0, c0, a1, t1, c1, a2, t2, c2, a3, t3, c3, a4, t4, c4, a5, t5, c5, ix, k0, k1, k2, k3, k4, k5, k6, da, dl, dc⟩ := m
  simp only [enC]
  have HX : Hid ((txsE t0 t1 t2 t3 t4 t5 && (bti ix 0 9999 && (ckE k0 k1 k2 k3 k4 k5 k6 && drE dl))) = mayE ⟨a0, t0, c0, a1, t1, c1, a2, t2, c2, a3, t3, c3, a4, t4, c4, a5, t5, c5, ix, k0, k1, k2, k3, k4, k5, k6, da, dl, dc⟩) := rfl
  generalize mayE ⟨a0, t0, c0, a1, t1, c1, a2, t2, c2, a3, t3, c3, a4, t4, c4, a5, t5, c5, ix, k0, k1, k2, k3, k4, k5, k6, da, dl, dc⟩ = R at HX ⊢
  go_enter Tryd.func20, Tryd.ntmps20
  go_wp2_with fail
  obtain ⟨W, hW⟩ : ∃ W, W = (w.alloc (.cells #[.slice a0 t0.length c0, .slice a1 t1.length c1, .slice a2 t2.length c2, .slice a3 t3.length c3, .slice a4 t4.length c4, .slice a5 t5.length c5, .int .i64 ix, .int .i64 k0, .int .i64 k1, .int .i64 k2, .int .i64 k3, .int .i64 k4, .int .i64 k5, .int .i64 k6, .slice da dl.length dc] 26)).alloc (.cells #[.int .i64 k0, .int .i64 k1, .int .i64 k2, .int .i64 k3, .int .i64 k4, .int .i64 k5, .int .i64 k6] 23) := ⟨_, rfl⟩
  have hb : Hid (Below w.heap.size w W) := by rw [hW]; exact bal (bal (Below.refl _ _) _) _
  have e0 : W.cell? ⟨w.heap.size, 0, none⟩ = some (.slice a0 t0.length c0) := by rw [hW]; exact two_alloc 0 rfl
  have e1 : W.cell? ⟨w.heap.size, 1, none⟩ = some (.slice a1 t1.length c1) := by rw [hW]; exact two_alloc 1 rfl
  have e2 : W.cell? ⟨w.heap.size, 2, none⟩ = some (.slice a2 t2.length c2) := by rw [hW]; exact two_alloc 2 rfl
  have e3 : W.cell? ⟨w.heap.size, 3, none⟩ = some (.slice a3 t3.length c3) := by rw [hW]; exact two_alloc 3 rfl
  have e4 : W.cell? ⟨w.heap.size, 4, none⟩ = some (.slice a4 t4.length c4) := by rw [hW]; exact two_alloc 4 rfl
  have e5 : W.cell? ⟨w.heap.size, 5, none⟩ = some (.slice a5 t5.length c5) := by rw [hW]; exact two_alloc 5 rfl
  have e6 : W.cell? ⟨w.heap.size, 6, none⟩ = some (.int .i64 ix) := by rw [hW]; exact two_alloc 6 rfl
  have e7 : W.cell? ⟨w.heap.size, 7, none⟩ = some (.int .i64 k0) := by rw [hW]; exact two_alloc 7 rfl
  have e8 : W.cell? ⟨w.heap.size, 8, none⟩ = some (.int .i64 k1) := by rw [hW]; exact two_alloc 8 rfl
  have e9 : W.cell? ⟨w.heap.size, 9, none⟩ = some (.int .i64 k2) := by rw [hW]; exact two_alloc 9 rfl
  have e10 : W.cell? ⟨w.heap.size, 10, none⟩ = some (.int .i64 k3) := by rw [hW]; exact two_alloc 10 rfl
  have e11 : W.cell? ⟨w.heap.size, 11, none⟩ = some (.int .i64 k4) := by rw [hW]; exact two_alloc 11 rfl
  have e12 : W.cell? ⟨w.heap.size, 12, none⟩ = some (.int .i64 k5) := by rw [hW]; exact two_alloc 12 rfl
  have e13 : W.cell? ⟨w.heap.size, 13, none⟩ = some (.int .i64 k6) := by rw [hW]; exact two_alloc 13 rfl
  have e14 : W.cell? ⟨w.heap.size, 14, none⟩ = some (.slice da dl.length dc) := by rw [hW]; exact two_alloc 14 rfl
  have f0 : W.cell? ⟨w.heap.size + 1, 0, none⟩ = some (.int .i64 k0) := by rw [hW]; exact two_new 0 rfl
  have f1 : W.cell? ⟨w.heap.size + 1, 1, none⟩ = some (.int .i64 k1) := by rw [hW]; exact two_new 1 rfl
  have f2 : W.cell? ⟨w.heap.size + 1, 2, none⟩ = some (.int .i64 k2) := by rw [hW]; exact two_new 2 rfl
  have f3 : W.cell? ⟨w.heap.size + 1, 3, none⟩ = some (.int .i64 k3) := by rw [hW]; exact two_new 3 rfl
  have f4 : W.cell? ⟨w.heap.size + 1, 4, none⟩ = some (.int .i64 k4) := by rw [hW]; exact two_new 4 rfl
  have f5 : W.cell? ⟨w.heap.size + 1, 5, none⟩ = some (.int .i64 k5) := by rw [hW]; exact two_new 5 rfl
  have f6 : W.cell? ⟨w.heap.size + 1, 6, none⟩ = some (.int .i64 k6) := by rw [hW]; exact two_new 6 rfl
  rw [← hW]
  clear hW
  have S0 : Hid (Sl W a0 t0) := hid (hm.out.s0.bel hb.out)
  have S1 : Hid (Sl W a1 t1) := hid (hm.out.s1.bel hb.out)
  have S2 : Hid (Sl W a2 t2) := hid (hm.out.s2.bel hb.out)
  have S3 : Hid (Sl W a3 t3) := hid (hm.out.s3.bel hb.out)
  have S4 : Hid (Sl W a4 t4) := hid (hm.out.s4.bel hb.out)
  have S5 : Hid (Sl W a5 t5) := hid (hm.out.s5.bel hb.out)
  have SD : Hid (I.Sl W da dl) := hid (hm.out.sd.bel hb.out)
  clear hm
  cases hq0 : txE t0 with
  | false =>
    have hR : Hid (R = false) := hid (by rw [← HX.out]; simp [txsE, hq0])
    clear HX
    go_wp2_with (first | (go_at_call 34; (with_reducible refine (rshort_c _ _ _ _ S0.out).mono ?_); rintro e w' ⟨rfl, rfl⟩) | (go_at_call 34; (with_reducible refine (rshort_c _ _ _ _ S1.out).mono ?_); rintro e w' ⟨rfl, rfl⟩) | (go_at_call 34; (with_reducible refine (rshort_c _ _ _ _ S2.out).mono ?_); rintro e w' ⟨rfl, rfl⟩) | (go_at_call 34; (with_reducible refine (rshort_c _ _ _ _ S3.out).mono ?_); rintro e w' ⟨rfl, rfl⟩) | (go_at_call 34; (with_reducible refine (rshort_c _ _ _ _ S4.out).mono ?_); rintro e w' ⟨rfl, rfl⟩) | (go_at_call 34; (with_reducible refine (rshort_c _ _ _ _ S5.out).mono ?_); rintro e w' ⟨rfl, rfl⟩) | (go_at_call 35; (with_reducible refine (rin_c _ _ _ _).mono ?_); rintro e w' ⟨rfl, rfl⟩))
    go_ret
    exact ⟨ret_bool hR.out.symm, hb.out⟩
  | true =>
    cases hq1 : txE t1 with
    | false =>
      have hR : Hid (R = false) := hid (by rw [← HX.out]; simp [txsE, hq1])
      clear HX
      go_wp2_with (first | (go_at_call 34; (with_reducible refine (rshort_c _ _ _ _ S0.out).mono ?_); rintro e w' ⟨rfl, rfl⟩) | (go_at_call 34; (with_reducible refine (rshort_c _ _ _ _ S1.out).mono ?_); rintro e w' ⟨rfl, rfl⟩) | (go_at_call 34; (with_reducible refine (rshort_c _ _ _ _ S2.out).mono ?_); rintro e w' ⟨rfl, rfl⟩) | (go_at_call 34; (with_reducible refine (rshort_c _ _ _ _ S3.out).mono ?_); rintro e w' ⟨rfl, rfl⟩) | (go_at_call 34; (with_reducible refine (rshort_c _ _ _ _ S4.out).mono ?_); rintro e w' ⟨rfl, rfl⟩) | (go_at_call 34; (with_reducible refine (rshort_c _ _ _ _ S5.out).mono ?_); rintro e w' ⟨rfl, rfl⟩) | (go_at_call 35; (with_reducible refine (rin_c _ _ _ _).mono ?_); rintro e w' ⟨rfl, rfl⟩))
      go_ret
      exact ⟨ret_bool hR.out.symm, hb.out⟩
    | true =>
      cases hq2 : txE t2 with
      | false =>
        have hR : Hid (R = false) := hid (by rw [← HX.out]; simp [txsE, hq2])
        clear HX
        go_wp2_with (first | (go_at_call 34; (with_reducible refine (rshort_c _ _ _ _ S0.out).mono ?_); rintro e w' ⟨rfl, rfl⟩) | (go_at_call 34; (with_reducible refine (rshort_c _ _ _ _ S1.out).mono ?_); rintro e w' ⟨rfl, rfl⟩) | (go_at_call 34; (with_reducible refine (rshort_c _ _ _ _ S2.out).mono ?_); rintro e w' ⟨rfl, rfl⟩) | (go_at_call 34; (with_reducible refine (rshort_c _ _ _ _ S3.out).mono ?_); rintro e w' ⟨rfl, rfl⟩) | (go_at_call 34; (with_reducible refine (rshort_c _ _ _ _ S4.out).mono ?_); rintro e w' ⟨rfl, rfl⟩) | (go_at_call 34; (with_reducible refine (rshort_c _ _ _ _ S5.out).mono ?_); rintro e w' ⟨rfl, rfl⟩) | (go_at_call 35; (with_reducible refine (rin_c _ _ _ _).mono ?_); rintro e w' ⟨rfl, rfl⟩))
        go_ret
        exact ⟨ret_bool hR.out.symm, hb.out⟩
      | true =>
        cases hq3 : txE t3 with
        | false =>
          have hR : Hid (R = false) := hid (by rw [← HX.out]; simp [txsE, hq3])
          clear HX
          go_wp2_with (first | (go_at_call 34; (with_reducible refine (rshort_c _ _ _ _ S0.out).mono ?_); rintro e w' ⟨rfl, rfl⟩) | (go_at_call 34; (with_reducible refine (rshort_c _ _ _ _ S1.out).mono ?_); rintro e w' ⟨rfl, rfl⟩) | (go_at_call 34; (with_reducible refine (rshort_c _ _ _ _ S2.out).mono ?_); rintro e w' ⟨rfl, rfl⟩) | (go_at_call 34; (with_reducible refine (rshort_c _ _ _ _ S3.out).mono ?_); rintro e w' ⟨rfl, rfl⟩) | (go_at_call 34; (with_reducible refine (rshort_c _ _ _ _ S4.out).mono ?_); rintro e w' ⟨rfl, rfl⟩) | (go_at_call 34; (with_reducible refine (rshort_c _ _ _ _ S5.out).mono ?_); rintro e w' ⟨rfl, rfl⟩) | (go_at_call 35; (with_reducible refine (rin_c _ _ _ _).mono ?_); rintro e w' ⟨rfl, rfl⟩))
          go_ret
          exact ⟨ret_bool hR.out.symm, hb.out⟩
        | true =>
          cases hq4 : txE t4 with
          | false =>
            have hR : Hid (R = false) := hid (by rw [← HX.out]; simp [txsE, hq4])
            clear HX
            go_wp2_with (first | (go_at_call 34; (with_reducible refine (rshort_c _ _ _ _ S0.out).mono ?_); rintro e w' ⟨rfl, rfl⟩) | (go_at_call 34; (with_reducible refine (rshort_c _ _ _ _ S1.out).mono ?_); rintro e w' ⟨rfl, rfl⟩) | (go_at_call 34; (with_reducible refine (rshort_c _ _ _ _ S2.out).mono ?_); rintro e w' ⟨rfl, rfl⟩) | (go_at_call 34; (with_reducible refine (rshort_c _ _ _ _ S3.out).mono ?_); rintro e w' ⟨rfl, rfl⟩) | (go_at_call 34; (with_reducible refine (rshort_c _ _ _ _ S4.out).mono ?_); rintro e w' ⟨rfl, rfl⟩) | (go_at_call 34; (with_reducible refine (rshort_c _ _ _ _ S5.out).mono ?_); rintro e w' ⟨rfl, rfl⟩) | (go_at_call 35; (with_reducible refine (rin_c _ _ _ _).mono ?_); rintro e w' ⟨rfl, rfl⟩))
            go_ret
            exact ⟨ret_bool hR.out.symm, hb.out⟩
          | true =>
            cases hq5 : txE t5 with
            | false =>
              have hR : Hid (R = false) := hid (by rw [← HX.out]; simp [txsE, hq5])
              clear HX
              go_wp2_with (first | (go_at_call 34; (with_reducible refine (rshort_c _ _ _ _ S0.out).mono ?_); rintro e w' ⟨rfl, rfl⟩) | (go_at_call 34; (with_reducible refine (rshort_c _ _ _ _ S1.out).mono ?_); rintro e w' ⟨rfl, rfl⟩) | (go_at_call 34; (with_reducible refine (rshort_c _ _ _ _ S2.out).mono ?_); rintro e w' ⟨rfl, rfl⟩) | (go_at_call 34; (with_reducible refine (rshort_c _ _ _ _ S3.out).mono ?_); rintro e w' ⟨rfl, rfl⟩) | (go_at_call 34; (with_reducible refine (rshort_c _ _ _ _ S4.out).mono ?_); rintro e w' ⟨rfl, rfl⟩) | (go_at_call 34; (with_reducible refine (rshort_c _ _ _ _ S5.out).mono ?_); rintro e w' ⟨rfl, rfl⟩) | (go_at_call 35; (with_reducible refine (rin_c _ _ _ _).mono ?_); rintro e w' ⟨rfl, rfl⟩))
              go_ret
              exact ⟨ret_bool hR.out.symm, hb.out⟩
            | true =>
              cases hq6 : bti ix 0 9999 with
              | false =>
                have hR : Hid (R = false) := hid (by rw [← HX.out]; simp [hq6])
                clear HX
                go_wp2_with (first | (go_at_call 34; (with_reducible refine (rshort_c _ _ _ _ S0.out).mono ?_); rintro e w' ⟨rfl, rfl⟩) | (go_at_call 34; (with_reducible refine (rshort_c _ _ _ _ S1.out).mono ?_); rintro e w' ⟨rfl, rfl⟩) | (go_at_call 34; (with_reducible refine (rshort_c _ _ _ _ S2.out).mono ?_); rintro e w' ⟨rfl, rfl⟩) | (go_at_call 34; (with_reducible refine (rshort_c _ _ _ _ S3.out).mono ?_); rintro e w' ⟨rfl, rfl⟩) | (go_at_call 34; (with_reducible refine (rshort_c _ _ _ _ S4.out).mono ?_); rintro e w' ⟨rfl, rfl⟩) | (go_at_call 34; (with_reducible refine (rshort_c _ _ _ _ S5.out).mono ?_); rintro e w' ⟨rfl, rfl⟩) | (go_at_call 35; (with_reducible refine (rin_c _ _ _ _).mono ?_); rintro e w' ⟨rfl, rfl⟩))
                go_ret
                exact ⟨ret_bool hR.out.symm, hb.out⟩
              | true =>
                have H2 : Hid (R = (ckE k0 k1 k2 k3 k4 k5 k6 && drE dl)) := hid (by rw [← HX.out]; simp [txsE, hq0, hq1, hq2, hq3, hq4, hq5, hq6])
                clear HX
                by_cases hq7 : dl.length ≤ 40
                · have b1 : decide ((40 : Int) < (dl.length : Int)) = false := by simp; omega
                  go_wp2_with (first | (go_at_call 34; (with_reducible refine (rshort_c _ _ _ _ S0.out).mono ?_); rintro e w' ⟨rfl, rfl⟩) | (go_at_call 34; (with_reducible refine (rshort_c _ _ _ _ S1.out).mono ?_); rintro e w' ⟨rfl, rfl⟩) | (go_at_call 34; (with_reducible refine (rshort_c _ _ _ _ S2.out).mono ?_); rintro e w' ⟨rfl, rfl⟩) | (go_at_call 34; (with_reducible refine (rshort_c _ _ _ _ S3.out).mono ?_); rintro e w' ⟨rfl, rfl⟩) | (go_at_call 34; (with_reducible refine (rshort_c _ _ _ _ S4.out).mono ?_); rintro e w' ⟨rfl, rfl⟩) | (go_at_call 34; (with_reducible refine (rshort_c _ _ _ _ S5.out).mono ?_); rintro e w' ⟨rfl, rfl⟩) | (go_at_call 35; (with_reducible refine (rin_c _ _ _ _).mono ?_); rintro e w' ⟨rfl, rfl⟩))
                  go_loop [4] (fun i => ∃ k : Nat, k ≤ dl.length ∧ i = .int .i64 k ∧ Hid (∀ j, j < k → bti (gt dl j) 0 16777215 = true)) (fun i => dl.length - (intOf i).toNat)
                  case atStart => exact ⟨0, by omega, rfl, hid (fun j hj => by omega)⟩
                  case round =>
                    obtain ⟨k, hk, rfl, hmj⟩ := hrel
                    by_cases hlt : k < dl.length
                    · obtain ⟨b, oo, rfl, hc⟩ := SD.out.at hlt
                      have ck := hc k hlt
                      have Hn : Hid (bti (gt dl k) 0 16777215 = false → drE dl = false) := hid (drE_not hlt)
                      clear hc
                      cases hy : bti (gt dl k) 0 16777215 with
                      | true =>
                        have HY := hid hy
                        go_wp2_with (go_at_call 35; (with_reducible refine (rin_c _ _ _ _).mono ?_); rintro e w' ⟨rfl, rfl⟩)
                        go_round
                        case rel =>
                          refine ⟨k + 1, by omega, by go_num, hid (fun j hj => ?_)⟩
                          rcases Nat.lt_or_ge j k with h1 | h1
                          · exact hmj.out j h1
                          · obtain rfl : j = k := by omega
                            exact HY.out
                        case measure => simp [intOf]; omega
                      | false =>
                        have hR : Hid (R = false) := hid (by rw [H2.out, Hn.out hy]; simp)
                        go_wp2_with (go_at_call 35; (with_reducible refine (rin_c _ _ _ _).mono ?_); rintro e w' ⟨rfl, rfl⟩)
                        go_ret
                        exact ⟨ret_bool hR.out.symm, hb.out⟩
                    · have hd : Hid (drE dl = true) := hid (drE_all hq7 fun j hj => hmj.out j (by omega))
                      cases hp0 : bti k0 0 9999 with
                      | false =>
                        have hR : Hid (R = false) := hid (by rw [H2.out]; simp [ckE, hp0])
                        go_wp2_with (go_at_call 35; (with_reducible refine (rin_c _ _ _ _).mono ?_); rintro e w' ⟨rfl, rfl⟩)
                        go_ret
                        exact ⟨ret_bool hR.out.symm, hb.out⟩
                      | true =>
                        cases hp1 : bti k1 1 12 with
                        | false =>
                          have hR : Hid (R = false) := hid (by rw [H2.out]; simp [ckE, hp1])
                          go_wp2_with (go_at_call 35; (with_reducible refine (rin_c _ _ _ _).mono ?_); rintro e w' ⟨rfl, rfl⟩)
                          go_ret
                          exact ⟨ret_bool hR.out.symm, hb.out⟩
                        | true =>
                          cases hp2 : bti k2 1 31 with
                          | false =>
                            have hR : Hid (R = false) := hid (by rw [H2.out]; simp [ckE, hp2])
                            go_wp2_with (go_at_call 35; (with_reducible refine (rin_c _ _ _ _).mono ?_); rintro e w' ⟨rfl, rfl⟩)
                            go_ret
                            exact ⟨ret_bool hR.out.symm, hb.out⟩
                          | true =>
                            cases hp3 : bti k3 0 23 with
                            | false =>
                              have hR : Hid (R = false) := hid (by rw [H2.out]; simp [ckE, hp3])
                              go_wp2_with (go_at_call 35; (with_reducible refine (rin_c _ _ _ _).mono ?_); rintro e w' ⟨rfl, rfl⟩)
                              go_ret
                              exact ⟨ret_bool hR.out.symm, hb.out⟩
                            | true =>
                              cases hp4 : bti k4 0 59 with
                              | false =>
                                have hR : Hid (R = false) := hid (by rw [H2.out]; simp [ckE, hp4])
                                go_wp2_with (go_at_call 35; (with_reducible refine (rin_c _ _ _ _).mono ?_); rintro e w' ⟨rfl, rfl⟩)
                                go_ret
                                exact ⟨ret_bool hR.out.symm, hb.out⟩
                              | true =>
                                cases hp5 : bti k5 0 59 with
                                | false =>
                                  have hR : Hid (R = false) := hid (by rw [H2.out]; simp [ckE, hp5])
                                  go_wp2_with (go_at_call 35; (with_reducible refine (rin_c _ _ _ _).mono ?_); rintro e w' ⟨rfl, rfl⟩)
                                  go_ret
                                  exact ⟨ret_bool hR.out.symm, hb.out⟩
                                | true =>
                                  cases hp6 : bti k6 0 6 with
                                  | false =>
                                    have hR : Hid (R = false) := hid (by rw [H2.out]; simp [ckE, hp6])
                                    go_wp2_with (go_at_call 35; (with_reducible refine (rin_c _ _ _ _).mono ?_); rintro e w' ⟨rfl, rfl⟩)
                                    go_ret
                                    exact ⟨ret_bool hR.out.symm, hb.out⟩
                                  | true =>
                                    have hR : Hid (R = true) := hid (by rw [H2.out, hd.out]; simp [ckE, hp0, hp1, hp2, hp3, hp4, hp5, hp6])
                                    go_wp2_with (go_at_call 35; (with_reducible refine (rin_c _ _ _ _).mono ?_); rintro e w' ⟨rfl, rfl⟩)
                                    go_ret
                                    exact ⟨ret_bool hR.out.symm, hb.out⟩
                · have b1 : decide ((40 : Int) < (dl.length : Int)) = true := by simp; omega
                  have hR : Hid (R = false) := hid (by rw [H2.out]; simp [drE, hq7])
                  go_wp2_with (first | (go_at_call 34; (with_reducible refine (rshort_c _ _ _ _ S0.out).mono ?_); rintro e w' ⟨rfl, rfl⟩) | (go_at_call 34; (with_reducible refine (rshort_c _ _ _ _ S1.out).mono ?_); rintro e w' ⟨rfl, rfl⟩) | (go_at_call 34; (with_reducible refine (rshort_c _ _ _ _ S2.out).mono ?_); rintro e w' ⟨rfl, rfl⟩) | (go_at_call 34; (with_reducible refine (rshort_c _ _ _ _ S3.out).mono ?_); rintro e w' ⟨rfl, rfl⟩) | (go_at_call 34; (with_reducible refine (rshort_c _ _ _ _ S4.out).mono ?_); rintro e w' ⟨rfl, rfl⟩) | (go_at_call 34; (with_reducible refine (rshort_c _ _ _ _ S5.out).mono ?_); rintro e w' ⟨rfl, rfl⟩) | (go_at_call 35; (with_reducible refine (rin_c _ _ _ _).mono ?_); rintro e w' ⟨rfl, rfl⟩))
                  go_ret
                  exact ⟨ret_bool hR.out.symm, hb.out⟩
end Go.Proofs.YtijhkpbnalnpbaaDoor
