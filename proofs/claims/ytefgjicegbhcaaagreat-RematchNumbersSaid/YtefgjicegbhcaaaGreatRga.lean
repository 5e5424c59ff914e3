/- How many numbered groups: the code's Groups, the document's. -/
import Derived.Test.YtefgjicegbhcaaaGreatRxn
import Derived.Test.YtefgjicegbhcaaaGreatReW
namespace Go.Proofs.YtefgjicegbhcaaaGreat
open Go.RowKit ReM

theorem rns_get (M : List Rm) {k : Nat} (h : k < M.length) : (rns M)[k]'(by rw [rns_len]; exact h) = (rgt M k).rn := by
  simp [rns, rgt_get h]
def grM (M : List Rm) (k : Nat) : Nat := grN (rns M) k
theorem grM_zero (M : List Rm) : grM M 0 = 0 := gr_zero _
theorem grM_succ (M : List Rm) {k : Nat} (h : k < M.length) : grM M (k + 1) = grM M k + if (rgt M k).kind = 5 ∧ 0 < (rgt M k).lo then 1 else 0 := by
  unfold grM
  rw [gr_succ _ _ (by rw [rns_len]; exact h), rns_get M h]
  rfl
theorem grM_le (M : List Rm) (k : Nat) : grM M k ≤ k := gr_le _ _
theorem grM_all (M : List Rm) : grM M M.length = (gsL (rns M)).length := by
  unfold grM; rw [← rns_len M, gr_all]
theorem RSl.rc1 {w : World} {a : Option Addr} {M : List Rm} (h : RSl encRe w a M) {k : Nat} (hk : k < M.length) : ∃ b off, a = some ⟨b, off, none⟩ ∧ Rec1 encRe w b (off + k * 7) (rgt M k) := by
  obtain ⟨b, off, ha, hc⟩ := h.at hk
  exact ⟨b, off, ha, hc k hk⟩
set_option maxHeartbeats 8000000 in
theorem groups_c (a : Option Addr) (c : Nat) (M : List Rm) (w : World) (h : RSl encRe w a M) :
    Calls Tryz.prog 45 #[.slice a M.length c] w fun e' w' => e' = .returned (.int .i64 (gsL (rns M)).length) ∧ Below w.heap.size w w' := by
  have hl : M.length ≤ 2199023255552 := h.len
  rw [← grM_all]
  have HM := hid h
  clear h
  go_enter Tryz.func45, Tryz.ntmps45
  go_wp2
  go_loopw [3, 8] (fun nv iv wr => ∃ k : Nat, k ≤ M.length ∧ iv = .int .i64 k ∧ nv = .int .i64 (grM M k) ∧ Below w.heap.size w wr) (fun _ iv _ => M.length - (intOf iv).toNat)
  case atStart => exact ⟨0, by omega, rfl, by rw [grM_zero]; rfl, Below.refl _ _⟩
  case round =>
    obtain ⟨k, hk, rfl, rfl, hb⟩ := hrel
    by_cases hlt : k < M.length
    · obtain ⟨b, off, rfl, hc⟩ := (HM.out.bel hb).rc1 hlt
      obtain ⟨r0, r1, r2, r3, r4, r5, r6⟩ := rec_re hc
      have hle := grM_le M k
      have hgs := grM_succ M hlt
      have hblk : b < wr.heap.size := World.block_lt_of_cell? wr _ r0
      clear hc
      rcases (show (¬ (rgt M k).kind = 5) ∨ ((rgt M k).kind = 5 ∧ ¬ 0 < (rgt M k).lo) ∨ ((rgt M k).kind = 5 ∧ 0 < (rgt M k).lo) by omega) with h5 | ⟨h5, h0⟩ | ⟨h5, h0⟩
      · have b1 : ((rgt M k).kind == 5) = false := by simpa using h5
        have Hg := hid (show grM M (k + 1) = grM M k by rw [hgs, if_neg (fun h => h5 h.1)]; rfl)
        generalize rgt M k = m at *
        generalize grM M k = n at *
        clear hgs h5
        go_wp2
        go_roundw
        case rel => exact ⟨k + 1, by omega, by go_num, by rw [Hg.out], by (repeat' (first | exact Below.refl _ _ | assumption | refine bdrewN ?_ _ | refine Below.drew ?_ | refine Below.setCell ?_ (Nat.le_refl _) _ | refine bal ?_ _ | refine bthen ?_ (by assumption)))⟩
        case measure => simp [intOf]; omega
      · have b1 : ((rgt M k).kind == 5) = true := by simpa using h5
        have b2 : decide (0 < (rgt M k).lo) = false := by simpa using h0
        have Hg := hid (show grM M (k + 1) = grM M k by rw [hgs, if_neg (fun h => h0 h.2)]; rfl)
        generalize rgt M k = m at *
        generalize grM M k = n at *
        clear hgs h5 h0
        go_wp2
        go_roundw
        case rel => exact ⟨k + 1, by omega, by go_num, by rw [Hg.out], by (repeat' (first | exact Below.refl _ _ | assumption | refine bdrewN ?_ _ | refine Below.drew ?_ | refine Below.setCell ?_ (Nat.le_refl _) _ | refine bal ?_ _ | refine bthen ?_ (by assumption)))⟩
        case measure => simp [intOf]; omega
      · have b1 : ((rgt M k).kind == 5) = true := by simpa using h5
        have b2 : decide (0 < (rgt M k).lo) = true := by simpa using h0
        have Hg := hid (show grM M (k + 1) = grM M k + 1 by rw [hgs, if_pos ⟨h5, h0⟩])
        generalize rgt M k = m at *
        generalize grM M k = n at *
        clear hgs h5 h0
        go_wp2
        go_roundw
        case rel => exact ⟨k + 1, by omega, by go_num, by rw [Hg.out]; go_num, by (repeat' (first | exact Below.refl _ _ | assumption | refine bdrewN ?_ _ | refine Below.drew ?_ | refine Below.setCell ?_ (Nat.le_refl _) _ | refine bal ?_ _ | refine bthen ?_ (by assumption)))⟩
        case measure => simp [intOf]; omega
    · obtain rfl : k = M.length := by omega
      go_wp2
      go_ret
      exact ⟨rfl, hb⟩
end Go.Proofs.YtefgjicegbhcaaaGreat
