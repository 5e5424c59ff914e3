/- Which environments there may be: the code's May, the document's MayEnv. -/
import Derived.Test.YtijhkpbnalnpbaaDoorVa
namespace Go.Proofs.YtijhkpbnalnpbaaDoor
open Go.RowKit

theorem drE_not {l : List Int} {k : Nat} (hk : k < l.length) (h : bti (gt l k) 0 16777215 = false) : drE l = false := by
  rw [drE, Bool.and_eq_false_iff]; right
  rw [List.all_eq_false]
  exact ⟨_, gt_mem hk, by simp [h]⟩
theorem drE_all {l : List Int} (hl : l.length ≤ 40) (h : ∀ j, j < l.length → bti (gt l j) 0 16777215 = true) : drE l = true := by
  rw [drE, Bool.and_eq_true]
  refine ⟨by simpa using hl, ?_⟩
  rw [List.all_eq_true]
  intro x hx
  obtain ⟨i, hi, rfl⟩ := List.getElem_of_mem hx
  rw [← gt_get hi]; exact h i hi
set_option maxHeartbeats 1000000 in
theorem mayDraws_c (a : Option Addr) (c : Nat) (l : List Int) (w : World) (h : I.Sl w a l) : Calls Tryd.prog 33 #[.slice a l.length c] w fun e w' => e = .returned (.bool (drE l)) ∧ w = w' := by
  have hl := h.len
  by_cases hq : l.length ≤ 40
  · have b1 : decide ((40 : Int) < (l.length : Int)) = false := by simp; omega
    go_enter Tryd.func33, Tryd.ntmps33
    go_wp2
    go_loop [10] (fun i => ∃ k : Nat, k ≤ l.length ∧ i = .int .i64 k ∧ Hid (∀ j, j < k → bti (gt l j) 0 16777215 = true)) (fun i => l.length - (intOf i).toNat)
    case atStart => exact ⟨0, by omega, rfl, hid (fun j hj => by omega)⟩
    case round =>
      obtain ⟨k, hk, rfl, hm⟩ := hrel
      by_cases hlt : k < l.length
      · obtain ⟨b, o, rfl, hc⟩ := h.at hlt
        have ck := hc k hlt
        have Hn : Hid (bti (gt l k) 0 16777215 = false → drE l = false) := hid (drE_not hlt)
        clear hc
        cases hy : bti (gt l k) 0 16777215 with
        | true =>
          have HY := hid hy
          go_wp2_with (go_at_call 23; (with_reducible refine (vbetween_c _ _ _ _).mono ?_); rintro e w' ⟨rfl, rfl⟩)
          go_round
          case rel =>
            refine ⟨k + 1, by omega, by go_num, hid (fun j hj => ?_)⟩
            rcases Nat.lt_or_ge j k with h1 | h1
            · exact hm.out j h1
            · obtain rfl : j = k := by omega
              exact HY.out
          case measure => simp [intOf]; omega
        | false =>
          have HY := hid hy
          go_wp2_with (go_at_call 23; (with_reducible refine (vbetween_c _ _ _ _).mono ?_); rintro e w' ⟨rfl, rfl⟩)
          go_ret
          exact ⟨ret_bool (Hn.out HY.out).symm, rfl⟩
      · have e := hid (drE_all hq fun j hj => hm.out j (by omega))
        go_wp2
        go_ret
        exact ⟨ret_bool e.out.symm, rfl⟩
  · have b1 : decide ((40 : Int) < (l.length : Int)) = true := by simp; omega
    have e : Hid (drE l = false) := hid (by simp [drE, hq])
    go_enter Tryd.func33, Tryd.ntmps33
    go_wp2
    go_ret
    exact ⟨ret_bool e.out.symm, rfl⟩

theorem two_alloc {w : World} {cs : Array Value} {T : TypeId} {X : Obj} (i : Nat) {v : Value} (h : cs[i]? = some v) : ((w.alloc (.cells cs T)).alloc X).cell? ⟨w.heap.size, i, none⟩ = some v := by
  rw [(bal (Below.refl (w.alloc (.cells cs T)).heap.size (w.alloc (.cells cs T))) X).cell (p := ⟨w.heap.size, i, none⟩) (by simp), cell_alloc_new]; exact h
theorem two_new {w : World} {A : Obj} {cs : Array Value} {T : TypeId} (i : Nat) {v : Value} (h : cs[i]? = some v) : ((w.alloc A).alloc (.cells cs T)).cell? ⟨w.heap.size + 1, i, none⟩ = some v := by
  rw [show w.heap.size + 1 = (w.alloc A).heap.size by simp, cell_alloc_new]; exact h
/-- what a test of an environment tells -/
def MayP (w : World) (b : Bool) (e : Ending) (w' : World) : Prop := e = .returned (.bool b) ∧ Below w.heap.size w w'
set_option maxHeartbeats 4000000 in
set_option maxRecDepth 100000 in
theorem may_e (m : En) (w : World) (hm : Hid (EnOk w m)) (hg : Hid (Gl w)) : Calls Tryd.prog 19 #[.agg (enC m)] w (MayP w (mayE m)) := by
  obtain ⟨a0, t0, c0, a1, t1, c1, a2, t2, c2, a3, t3, c3, a4, t4, c4, a5, t5, c5, ix, k0, k1, k2, k3, k4, k5, k6, da, dl, dc⟩ := m
  simp only [enC]
  have HX : Hid ((txsE t0 t1 t2 t3 t4 t5 && (bti ix 0 9999 && (ckE k0 k1 k2 k3 k4 k5 k6 && drE dl))) = mayE ⟨a0, t0, c0, a1, t1, c1, a2, t2, c2, a3, t3, c3, a4, t4, c4, a5, t5, c5, ix, k0, k1, k2, k3, k4, k5, k6, da, dl, dc⟩) := rfl
  generalize mayE ⟨a0, t0, c0, a1, t1, c1, a2, t2, c2, a3, t3, c3, a4, t4, c4, a5, t5, c5, ix, k0, k1, k2, k3, k4, k5, k6, da, dl, dc⟩ = R at HX ⊢
  have T : ∀ w1, Hid (Below w.heap.size w w1) → ∀ b, w1.cell? ⟨b, 0, none⟩ = some (.slice a0 t0.length c0) → w1.cell? ⟨b, 1, none⟩ = some (.slice a1 t1.length c1) → w1.cell? ⟨b, 2, none⟩ = some (.slice a2 t2.length c2) →
      w1.cell? ⟨b, 3, none⟩ = some (.slice a3 t3.length c3) → w1.cell? ⟨b, 4, none⟩ = some (.slice a4 t4.length c4) → w1.cell? ⟨b, 5, none⟩ = some (.slice a5 t5.length c5) →
      Calls Tryd.prog 31 #[.slice (some ⟨b, 0, none⟩) 6 6] w1 fun e w' => e = .returned (.bool (txsE t0 t1 t2 t3 t4 t5)) ∧ w1 = w' := by
    intro w1 hb b h0 h1 h2 h3 h4 h5
    have hk := hm.out.bel hb.out
    refine (mayTexts_c b (fun | 0 => a0 | 1 => a1 | 2 => a2 | 3 => a3 | 4 => a4 | _ => a5) (fun | 0 => t0 | 1 => t1 | 2 => t2 | 3 => t3 | 4 => t4 | _ => t5) (fun | 0 => c0 | 1 => c1 | 2 => c2 | 3 => c3 | 4 => c4 | _ => c5) w1 ?_ ?_).mono ?_
    · intro j hj
      rcases (show j = 0 ∨ j = 1 ∨ j = 2 ∨ j = 3 ∨ j = 4 ∨ j = 5 by omega) with rfl | rfl | rfl | rfl | rfl | rfl <;> assumption
    · intro j hj
      rcases (show j = 0 ∨ j = 1 ∨ j = 2 ∨ j = 3 ∨ j = 4 ∨ j = 5 by omega) with rfl | rfl | rfl | rfl | rfl | rfl
      · exact hk.s0
      · exact hk.s1
      · exact hk.s2
      · exact hk.s3
      · exact hk.s4
      · exact hk.s5
    · rintro e w' ⟨rfl, rfl⟩
      refine ⟨ret_bool ?_, rfl⟩
      simp [allT, txsE, List.range_succ]
  have HT := hid T
  clear T
  go_enter Tryd.func19, Tryd.ntmps19
  go_wp2_with fail
  obtain ⟨W, hW⟩ : ∃ W, W = (w.alloc (.cells #[.slice a0 t0.length c0, .slice a1 t1.length c1, .slice a2 t2.length c2, .slice a3 t3.length c3, .slice a4 t4.length c4, .slice a5 t5.length c5,
    .int .i64 ix, .int .i64 k0, .int .i64 k1, .int .i64 k2, .int .i64 k3, .int .i64 k4, .int .i64 k5, .int .i64 k6, .slice da dl.length dc] 26)).alloc (.cells #[.slice a0 t0.length c0, .slice a1 t1.length c1, .slice a2 t2.length c2, .slice a3 t3.length c3, .slice a4 t4.length c4, .slice a5 t5.length c5] 22) := ⟨_, rfl⟩
  have hb : Hid (Below w.heap.size w W) := by rw [hW]; exact bal (bal (Below.refl _ _) _) _
  have hz : w.heap.size < W.heap.size := by rw [hW]; simp; omega
  have hc : Hid (W.cell? ⟨w.heap.size + 1, 0, none⟩ = some (.slice a0 t0.length c0) ∧ W.cell? ⟨w.heap.size + 1, 1, none⟩ = some (.slice a1 t1.length c1) ∧ W.cell? ⟨w.heap.size + 1, 2, none⟩ = some (.slice a2 t2.length c2) ∧
    W.cell? ⟨w.heap.size + 1, 3, none⟩ = some (.slice a3 t3.length c3) ∧ W.cell? ⟨w.heap.size + 1, 4, none⟩ = some (.slice a4 t4.length c4) ∧ W.cell? ⟨w.heap.size + 1, 5, none⟩ = some (.slice a5 t5.length c5)) := by
    rw [hW]
    refine hid ⟨?_, ?_, ?_, ?_, ?_, ?_⟩
    all_goals (rw [show w.heap.size + 1 = (w.alloc (.cells #[.slice a0 t0.length c0, .slice a1 t1.length c1, .slice a2 t2.length c2, .slice a3 t3.length c3, .slice a4 t4.length c4, .slice a5 t5.length c5,
    .int .i64 ix, .int .i64 k0, .int .i64 k1, .int .i64 k2, .int .i64 k3, .int .i64 k4, .int .i64 k5, .int .i64 k6, .slice da dl.length dc] 26)).heap.size by simp, cell_alloc_new]; rfl)
  have e6 : W.cell? ⟨w.heap.size, 6, none⟩ = some (.int .i64 ix) := by rw [hW]; exact two_alloc 6 rfl
  have e7 : W.cell? ⟨w.heap.size, 7, none⟩ = some (.int .i64 k0) := by rw [hW]; exact two_alloc 7 rfl
  have e8 : W.cell? ⟨w.heap.size, 8, none⟩ = some (.int .i64 k1) := by rw [hW]; exact two_alloc 8 rfl
  have e9 : W.cell? ⟨w.heap.size, 9, none⟩ = some (.int .i64 k2) := by rw [hW]; exact two_alloc 9 rfl
  have e10 : W.cell? ⟨w.heap.size, 10, none⟩ = some (.int .i64 k3) := by rw [hW]; exact two_alloc 10 rfl
  have e11 : W.cell? ⟨w.heap.size, 11, none⟩ = some (.int .i64 k4) := by rw [hW]; exact two_alloc 11 rfl
  have e12 : W.cell? ⟨w.heap.size, 12, none⟩ = some (.int .i64 k5) := by rw [hW]; exact two_alloc 12 rfl
  have e13 : W.cell? ⟨w.heap.size, 13, none⟩ = some (.int .i64 k6) := by rw [hW]; exact two_alloc 13 rfl
  have e14 : W.cell? ⟨w.heap.size, 14, none⟩ = some (.slice da dl.length dc) := by rw [hW]; exact two_alloc 14 rfl
  rw [← hW]
  clear hW
  obtain ⟨h0, h1, h2, h3, h4, h5⟩ := hc.out
  refine (HT.out W hb _ h0 h1 h2 h3 h4 h5).mono ?_
  rintro e w' ⟨rfl, rfl⟩
  clear h0 h1 h2 h3 h4 h5 hc
  have SD : Hid (I.Sl W da dl) := hid (hm.out.sd.bel hb.out)
  have gW : Hid (Gl W) := hid (hg.out.bel hb.out)
  cases hq1 : txsE t0 t1 t2 t3 t4 t5 with
  | false =>
    have hR : Hid (R = false) := hid (by rw [← HX.out, hq1]; rfl)
    clear HX
    go_wp2
    go_ret
    exact ⟨ret_bool hR.out.symm, hb.out⟩
  | true =>
    rw [hq1] at HX
    cases hq2 : bti ix 0 9999 with
    | false =>
      have hR : Hid (R = false) := hid (by rw [← HX.out, hq2]; rfl)
      clear HX
      go_wp2_with (go_at_call 23; (with_reducible refine (vbetween_c _ _ _ _).mono ?_); rintro e w' ⟨rfl, rfl⟩)
      go_ret
      exact ⟨ret_bool hR.out.symm, hb.out⟩
    | true =>
      rw [hq2] at HX
      have HQ2 := hid hq2
      cases hq3 : ckE k0 k1 k2 k3 k4 k5 k6 with
      | false =>
        have hR : Hid (R = false) := hid (by rw [← HX.out, hq3]; rfl)
        have MC : ∀ w, Hid (Gl w) → Calls Tryd.prog 32 #[.agg #[.int .i64 k0, .int .i64 k1, .int .i64 k2, .int .i64 k3, .int .i64 k4, .int .i64 k5, .int .i64 k6]] w fun e w' => e = .returned (.bool false) ∧ Below w.heap.size w w' := fun w h => hq3 ▸ mayClock_c k0 k1 k2 k3 k4 k5 k6 w h
        replace MC := hid MC
        clear HX hq3
        go_wp2_with (go_at_call 23; (with_reducible refine (vbetween_c _ _ _ _).mono ?_); rintro e w' ⟨rfl, rfl⟩)
        refine (MC.out W gW).mono ?_
        rintro e w3 ⟨rfl, hb3⟩
        have HB3 := hid hb3
        clear hb3
        go_wp2
        go_ret
        exact ⟨ret_bool hR.out.symm, hb.out.trans (HB3.out.mono hb.out.size)⟩
      | true =>
        rw [hq3] at HX
        have MC : ∀ w, Hid (Gl w) → Calls Tryd.prog 32 #[.agg #[.int .i64 k0, .int .i64 k1, .int .i64 k2, .int .i64 k3, .int .i64 k4, .int .i64 k5, .int .i64 k6]] w fun e w' => e = .returned (.bool true) ∧ Below w.heap.size w w' := fun w h => hq3 ▸ mayClock_c k0 k1 k2 k3 k4 k5 k6 w h
        replace MC := hid MC
        have hR : Hid (drE dl = R) := hid (by rw [← HX.out]; rfl)
        clear HX hq3
        go_wp2_with (go_at_call 23; (with_reducible refine (vbetween_c _ _ _ _).mono ?_); rintro e w' ⟨rfl, rfl⟩)
        refine (MC.out W gW).mono ?_
        rintro e w3 ⟨rfl, hb3⟩
        have f14 : w3.cell? ⟨w.heap.size, 14, none⟩ = some (.slice da dl.length dc) := (hb3.cell (p := ⟨w.heap.size, 14, none⟩) hz).trans e14
        have SD3 : Hid (I.Sl w3 da dl) := hid (SD.out.bel hb3)
        have HB3 := hid hb3
        clear hb3
        go_wp2_with (go_at_call 33; (with_reducible refine (mayDraws_c _ _ _ _ SD3.out).mono ?_); rintro e w' ⟨rfl, rfl⟩)
        go_ret
        exact ⟨ret_bool hR.out, hb.out.trans (HB3.out.mono hb.out.size)⟩
end Go.Proofs.YtijhkpbnalnpbaaDoor
