/- TransformFills: the document's MayForm. -/
import Derived.Test.YtefgjicegbhcaaaGreatFsX
namespace Go.Proofs.YtefgjicegbhcaaaGreat
open Go.RowKit FmM

def pvF (M : List Fo) : Nat → Bool
  | 0 => false
  | k + 1 => decide ((rgt M k).kind = 0)
theorem andT {p : Prop} [Decidable p] {x : Bool} (h : p) : (decide p && x) = x := by rw [decide_eq_true h, Bool.true_and]
theorem andF {p : Prop} [Decidable p] {x : Bool} (h : ¬ p) : (decide p && x) = false := by rw [decide_eq_false h, Bool.false_and]
theorem mayq (kind grp how : Int) (tl el : Nat) (bt be pv rest : Bool) : ((decide (0 ≤ grp ∧ grp ≤ 99) && (bt && (be && (if kind = 0 then decide (grp = 0 ∧ how = 0 ∧ ¬ tl = 0 ∧ el = 0) else if kind = 1 then decide (0 ≤ how ∧ how ≤ 5 ∧ tl = 0 ∧ el = 0) else if kind = 2 then decide (how = 0 ∧ el = 0) else if kind = 3 then decide (how = 0 ∧ tl = 0) else if kind = 4 then decide (how = 0) else false)))) && (!(pv && decide (kind = 0)) && rest)) =
    (bt && (be && (decide (0 ≤ kind ∧ kind ≤ 4 ∧ 0 ≤ grp ∧ grp ≤ 99 ∧ 0 ≤ how ∧ how ≤ 5 ∧ (kind = 1 ∨ how = 0) ∧ (kind ≠ 0 ∨ (grp = 0 ∧ tl ≠ 0)) ∧ ((kind ≠ 1 ∧ kind ≠ 3) ∨ tl = 0) ∧ (kind = 3 ∨ kind = 4 ∨ el = 0)) && (!(pv && decide (kind = 0)) && rest)))) := by
  have key : (decide (0 ≤ grp ∧ grp ≤ 99) && (if kind = 0 then decide (grp = 0 ∧ how = 0 ∧ ¬ tl = 0 ∧ el = 0) else if kind = 1 then decide (0 ≤ how ∧ how ≤ 5 ∧ tl = 0 ∧ el = 0) else if kind = 2 then decide (how = 0 ∧ el = 0) else if kind = 3 then decide (how = 0 ∧ tl = 0) else if kind = 4 then decide (how = 0) else false)) = decide (0 ≤ kind ∧ kind ≤ 4 ∧ 0 ≤ grp ∧ grp ≤ 99 ∧ 0 ≤ how ∧ how ≤ 5 ∧ (kind = 1 ∨ how = 0) ∧ (kind ≠ 0 ∨ (grp = 0 ∧ tl ≠ 0)) ∧ ((kind ≠ 1 ∧ kind ≠ 3) ∨ tl = 0) ∧ (kind = 3 ∨ kind = 4 ∨ el = 0)) := by
    rw [Bool.eq_iff_iff, Bool.and_eq_true, decide_eq_true_eq, decide_eq_true_eq]
    repeat' split
    all_goals (try rw [decide_eq_true_eq])
    all_goals first
      | omega
      | (constructor
         · intro h; omega
         · intro h; exfalso; omega)
      | (constructor
         · rintro ⟨_, h⟩; cases h
         · intro h; exfalso; omega)
  rw [← key]
  cases bt <;> cases be <;> simp [Bool.and_assoc]
set_option maxRecDepth 20000 in
set_option maxHeartbeats 64000000 in
theorem rmayform_c (a : Option Addr) (c : Nat) (M : List Fo) (N : Nat → Prop) (w : World) (h : FSl w a M) (hm : Fos w N M) :
    Calls Tryz.prog 39 #[.slice a M.length c] w fun e' w' => e' = .returned (.bool (mayF (fps M))) ∧ Below w.heap.size w w' := by
  have hl : M.length ≤ 1099511627776 := h.len
  obtain ⟨R, hR⟩ : ∃ R, R = mayF (fps M) := ⟨_, rfl⟩
  rw [← hR]
  have HR := hid hR
  have HM := hid h
  have HS := hid hm
  clear h hm hR
  go_enter Tryz.func39, Tryz.ntmps39
  go_wp2
  go_loopw [3, 4] (fun iv _ wr => ∃ k : Nat, k ≤ M.length ∧ iv = .int .i64 k ∧ Hid (R = mayR (pvF M k) (fps (M.drop k))) ∧ Below w.heap.size w wr) (fun iv _ _ => M.length - (intOf iv).toNat)
  case atStart => exact ⟨0, by omega, rfl, hid (by rw [HR.out]; rfl), Below.refl _ _⟩
  case round =>
    obtain ⟨k, hk, rfl, HT, hb⟩ := hrel
    by_cases hlt : k < M.length
    · have HP : Hid (0 < k → ∃ b off, a = some ⟨b, off, none⟩ ∧ wr.cell? ⟨b, off + (k - 1) * 5, none⟩ = some (.int .i64 (rgt M (k - 1)).kind)) := hid fun h0 => by
        obtain ⟨b, off, ha, _, r0, _⟩ := fo_cells (HM.out.bel hb) (i := k - 1) (by omega)
        exact ⟨b, off, ha, r0⟩
      obtain ⟨b, off, rfl, hblk, r0, r1, r2, r3, r4⟩ := fo_cells (HM.out.bel hb) hlt
      have MO := hid ((HS.out _ (rgt_mem hlt)).bel hb)
      have HT2 : Hid (R = (may1 (rgt M k).fp && (!(pvF M k && decide ((rgt M k).kind = 0)) && mayR (decide ((rgt M k).kind = 0)) (fps (M.drop (k + 1)))))) := hid (by rw [HT.out, rgt_drop hlt]; rfl)
      have HN : Hid (pvF M (k + 1) = decide ((rgt M k).kind = 0)) := hid rfl
      have HPv : Hid ((k = 0 ∧ pvF M k = false) ∨ ∃ j kp, k = j + 1 ∧ pvF M k = decide (kp = 0) ∧ wr.cell? ⟨b, off + j * 5, none⟩ = some (.int .i64 kp)) := hid (by
        rcases Nat.eq_zero_or_pos k with h0 | h0
        · subst h0; exact .inl ⟨rfl, rfl⟩
        · obtain ⟨j, rfl⟩ : ∃ j, k = j + 1 := ⟨k - 1, by omega⟩
          obtain ⟨b', o', ha, hc⟩ := HP.out h0
          simp only [Option.some.injEq, Addr.mk.injEq, and_true] at ha
          obtain ⟨rfl, rfl⟩ := ha
          exact .inr ⟨j, _, rfl, rfl, hc⟩)
      clear HP HT
      generalize pvF M k = pv at *
      generalize rgt M k = m at *
      obtain ⟨kind, grp, how, ta, text, tc, ea, els, ec⟩ := m
      dsimp only at r0 r1 r2 r3 r4 HT2 HN
      obtain ⟨tl, htl⟩ : ∃ n, n = text.length := ⟨_, rfl⟩
      obtain ⟨el, hel⟩ : ∃ n, n = els.length := ⟨_, rfl⟩
      obtain ⟨bt, hbt⟩ : ∃ b, b = may text := ⟨_, rfl⟩
      obtain ⟨be, hbe⟩ : ∃ b, b = may els := ⟨_, rfl⟩
      obtain ⟨rest, hrest⟩ : ∃ b, b = mayR (decide (kind = 0)) (fps (M.drop (k + 1))) := ⟨_, rfl⟩
      have ht : text = [] ↔ tl = 0 := by rw [htl]; exact (List.length_eq_zero_iff).symm
      have he : els = [] ↔ el = 0 := by rw [hel]; exact (List.length_eq_zero_iff).symm
      have HQ : Hid (R = (bt && (be && (decide (0 ≤ kind ∧ kind ≤ 4 ∧ 0 ≤ grp ∧ grp ≤ 99 ∧ 0 ≤ how ∧ how ≤ 5 ∧ (kind = 1 ∨ how = 0) ∧ (kind ≠ 0 ∨ (grp = 0 ∧ tl ≠ 0)) ∧ ((kind ≠ 1 ∧ kind ≠ 3) ∨ tl = 0) ∧ (kind = 3 ∨ kind = 4 ∨ el = 0)) && (!(pv && decide (kind = 0)) && rest))))) := hid (by
        rw [HT2.out, ← hrest, may1_eq, hbt, hbe]
        rw [← mayq]
        simp only [mayFl, Fo.fp, ne_eq, ht, he]
        rfl)
      have TC : Hid (∀ w', Below wr.heap.size wr w' → Calls Tryz.prog 30 #[.slice ta tl tc] w' fun e w2 => e = .returned (.bool bt) ∧ w' = w2) := hid fun w' hb' => by rw [htl, hbt]; exact rmay_c ta tc text w' (MO.out.text _ (Kp.bel hb'))
      have EC : Hid (∀ w', Below wr.heap.size wr w' → Calls Tryz.prog 30 #[.slice ea el ec] w' fun e w2 => e = .returned (.bool be) ∧ w' = w2) := hid fun w' hb' => by rw [hel, hbe]; exact rmay_c ea ec els w' (MO.out.els _ (Kp.bel hb'))
      have HRest := hid hrest
      rw [← htl] at r3
      rw [← hel] at r4
      clear ht he htl hel hbt hbe hrest HT2 MO
      by_cases c1 : kind < 0
      · have i1 : decide (kind < 0) = true := decide_eq_true c1
        have HRf : Hid (R = false) := hid (by rw [HQ.out]; cases bt <;> cases be <;> first | rfl | exact andF (by omega))
        clear HPv HM HS HQ
        go_wp2_with (first | (go_at_call 30; (with_reducible refine (TC.out _ (by (repeat' (first | exact Below.refl _ _ | assumption | refine bdrewN ?_ _ | refine Below.drew ?_ | refine Below.setCell ?_ (Nat.le_refl _) _ | refine bal ?_ _ | refine bthen ?_ (by assumption))))).mono ?_); rintro _ _ ⟨rfl, rfl⟩) | (go_at_call 30; (with_reducible refine (EC.out _ (by (repeat' (first | exact Below.refl _ _ | assumption | refine bdrewN ?_ _ | refine Below.drew ?_ | refine Below.setCell ?_ (Nat.le_refl _) _ | refine bal ?_ _ | refine bthen ?_ (by assumption))))).mono ?_); rintro _ _ ⟨rfl, rfl⟩))
        go_ret
        exact ⟨ret_bool HRf.out.symm, by (repeat' (first | exact Below.refl _ _ | assumption | refine bdrewN ?_ _ | refine Below.drew ?_ | refine Below.setCell ?_ (Nat.le_refl _) _ | refine bal ?_ _ | refine bthen ?_ (by assumption)))⟩
      have i1 : decide (kind < 0) = false := decide_eq_false c1
      by_cases c2 : 4 < kind
      · have i2 : decide (4 < kind) = true := decide_eq_true c2
        have HRf : Hid (R = false) := hid (by rw [HQ.out]; cases bt <;> cases be <;> first | rfl | exact andF (by omega))
        clear HPv HM HS HQ
        go_wp2_with (first | (go_at_call 30; (with_reducible refine (TC.out _ (by (repeat' (first | exact Below.refl _ _ | assumption | refine bdrewN ?_ _ | refine Below.drew ?_ | refine Below.setCell ?_ (Nat.le_refl _) _ | refine bal ?_ _ | refine bthen ?_ (by assumption))))).mono ?_); rintro _ _ ⟨rfl, rfl⟩) | (go_at_call 30; (with_reducible refine (EC.out _ (by (repeat' (first | exact Below.refl _ _ | assumption | refine bdrewN ?_ _ | refine Below.drew ?_ | refine Below.setCell ?_ (Nat.le_refl _) _ | refine bal ?_ _ | refine bthen ?_ (by assumption))))).mono ?_); rintro _ _ ⟨rfl, rfl⟩))
        go_ret
        exact ⟨ret_bool HRf.out.symm, by (repeat' (first | exact Below.refl _ _ | assumption | refine bdrewN ?_ _ | refine Below.drew ?_ | refine Below.setCell ?_ (Nat.le_refl _) _ | refine bal ?_ _ | refine bthen ?_ (by assumption)))⟩
      have i2 : decide (4 < kind) = false := decide_eq_false c2
      by_cases c3 : grp < 0
      · have i3 : decide (grp < 0) = true := decide_eq_true c3
        have HRf : Hid (R = false) := hid (by rw [HQ.out]; cases bt <;> cases be <;> first | rfl | exact andF (by omega))
        clear HPv HM HS HQ
        go_wp2_with (first | (go_at_call 30; (with_reducible refine (TC.out _ (by (repeat' (first | exact Below.refl _ _ | assumption | refine bdrewN ?_ _ | refine Below.drew ?_ | refine Below.setCell ?_ (Nat.le_refl _) _ | refine bal ?_ _ | refine bthen ?_ (by assumption))))).mono ?_); rintro _ _ ⟨rfl, rfl⟩) | (go_at_call 30; (with_reducible refine (EC.out _ (by (repeat' (first | exact Below.refl _ _ | assumption | refine bdrewN ?_ _ | refine Below.drew ?_ | refine Below.setCell ?_ (Nat.le_refl _) _ | refine bal ?_ _ | refine bthen ?_ (by assumption))))).mono ?_); rintro _ _ ⟨rfl, rfl⟩))
        go_ret
        exact ⟨ret_bool HRf.out.symm, by (repeat' (first | exact Below.refl _ _ | assumption | refine bdrewN ?_ _ | refine Below.drew ?_ | refine Below.setCell ?_ (Nat.le_refl _) _ | refine bal ?_ _ | refine bthen ?_ (by assumption)))⟩
      have i3 : decide (grp < 0) = false := decide_eq_false c3
      by_cases c4 : 99 < grp
      · have i4 : decide (99 < grp) = true := decide_eq_true c4
        have HRf : Hid (R = false) := hid (by rw [HQ.out]; cases bt <;> cases be <;> first | rfl | exact andF (by omega))
        clear HPv HM HS HQ
        go_wp2_with (first | (go_at_call 30; (with_reducible refine (TC.out _ (by (repeat' (first | exact Below.refl _ _ | assumption | refine bdrewN ?_ _ | refine Below.drew ?_ | refine Below.setCell ?_ (Nat.le_refl _) _ | refine bal ?_ _ | refine bthen ?_ (by assumption))))).mono ?_); rintro _ _ ⟨rfl, rfl⟩) | (go_at_call 30; (with_reducible refine (EC.out _ (by (repeat' (first | exact Below.refl _ _ | assumption | refine bdrewN ?_ _ | refine Below.drew ?_ | refine Below.setCell ?_ (Nat.le_refl _) _ | refine bal ?_ _ | refine bthen ?_ (by assumption))))).mono ?_); rintro _ _ ⟨rfl, rfl⟩))
        go_ret
        exact ⟨ret_bool HRf.out.symm, by (repeat' (first | exact Below.refl _ _ | assumption | refine bdrewN ?_ _ | refine Below.drew ?_ | refine Below.setCell ?_ (Nat.le_refl _) _ | refine bal ?_ _ | refine bthen ?_ (by assumption)))⟩
      have i4 : decide (99 < grp) = false := decide_eq_false c4
      by_cases c5 : how < 0
      · have i5 : decide (how < 0) = true := decide_eq_true c5
        have HRf : Hid (R = false) := hid (by rw [HQ.out]; cases bt <;> cases be <;> first | rfl | exact andF (by omega))
        clear HPv HM HS HQ
        go_wp2_with (first | (go_at_call 30; (with_reducible refine (TC.out _ (by (repeat' (first | exact Below.refl _ _ | assumption | refine bdrewN ?_ _ | refine Below.drew ?_ | refine Below.setCell ?_ (Nat.le_refl _) _ | refine bal ?_ _ | refine bthen ?_ (by assumption))))).mono ?_); rintro _ _ ⟨rfl, rfl⟩) | (go_at_call 30; (with_reducible refine (EC.out _ (by (repeat' (first | exact Below.refl _ _ | assumption | refine bdrewN ?_ _ | refine Below.drew ?_ | refine Below.setCell ?_ (Nat.le_refl _) _ | refine bal ?_ _ | refine bthen ?_ (by assumption))))).mono ?_); rintro _ _ ⟨rfl, rfl⟩))
        go_ret
        exact ⟨ret_bool HRf.out.symm, by (repeat' (first | exact Below.refl _ _ | assumption | refine bdrewN ?_ _ | refine Below.drew ?_ | refine Below.setCell ?_ (Nat.le_refl _) _ | refine bal ?_ _ | refine bthen ?_ (by assumption)))⟩
      have i5 : decide (how < 0) = false := decide_eq_false c5
      by_cases c6 : 5 < how
      · have i6 : decide (5 < how) = true := decide_eq_true c6
        have HRf : Hid (R = false) := hid (by rw [HQ.out]; cases bt <;> cases be <;> first | rfl | exact andF (by omega))
        clear HPv HM HS HQ
        go_wp2_with (first | (go_at_call 30; (with_reducible refine (TC.out _ (by (repeat' (first | exact Below.refl _ _ | assumption | refine bdrewN ?_ _ | refine Below.drew ?_ | refine Below.setCell ?_ (Nat.le_refl _) _ | refine bal ?_ _ | refine bthen ?_ (by assumption))))).mono ?_); rintro _ _ ⟨rfl, rfl⟩) | (go_at_call 30; (with_reducible refine (EC.out _ (by (repeat' (first | exact Below.refl _ _ | assumption | refine bdrewN ?_ _ | refine Below.drew ?_ | refine Below.setCell ?_ (Nat.le_refl _) _ | refine bal ?_ _ | refine bthen ?_ (by assumption))))).mono ?_); rintro _ _ ⟨rfl, rfl⟩))
        go_ret
        exact ⟨ret_bool HRf.out.symm, by (repeat' (first | exact Below.refl _ _ | assumption | refine bdrewN ?_ _ | refine Below.drew ?_ | refine Below.setCell ?_ (Nat.le_refl _) _ | refine bal ?_ _ | refine bthen ?_ (by assumption)))⟩
      have i6 : decide (5 < how) = false := decide_eq_false c6
      cases bt with
      | false =>
        have HRf : Hid (R = false) := hid (by rw [HQ.out]; rfl)
        clear HPv HM HS HQ
        go_wp2_with (first | (go_at_call 30; (with_reducible refine (TC.out _ (by (repeat' (first | exact Below.refl _ _ | assumption | refine bdrewN ?_ _ | refine Below.drew ?_ | refine Below.setCell ?_ (Nat.le_refl _) _ | refine bal ?_ _ | refine bthen ?_ (by assumption))))).mono ?_); rintro _ _ ⟨rfl, rfl⟩) | (go_at_call 30; (with_reducible refine (EC.out _ (by (repeat' (first | exact Below.refl _ _ | assumption | refine bdrewN ?_ _ | refine Below.drew ?_ | refine Below.setCell ?_ (Nat.le_refl _) _ | refine bal ?_ _ | refine bthen ?_ (by assumption))))).mono ?_); rintro _ _ ⟨rfl, rfl⟩))
        go_ret
        exact ⟨ret_bool HRf.out.symm, by (repeat' (first | exact Below.refl _ _ | assumption | refine bdrewN ?_ _ | refine Below.drew ?_ | refine Below.setCell ?_ (Nat.le_refl _) _ | refine bal ?_ _ | refine bthen ?_ (by assumption)))⟩
      | true =>
        cases be with
        | false =>
          have HRf : Hid (R = false) := hid (by rw [HQ.out]; rfl)
          clear HPv HM HS HQ
          go_wp2_with (first | (go_at_call 30; (with_reducible refine (TC.out _ (by (repeat' (first | exact Below.refl _ _ | assumption | refine bdrewN ?_ _ | refine Below.drew ?_ | refine Below.setCell ?_ (Nat.le_refl _) _ | refine bal ?_ _ | refine bthen ?_ (by assumption))))).mono ?_); rintro _ _ ⟨rfl, rfl⟩) | (go_at_call 30; (with_reducible refine (EC.out _ (by (repeat' (first | exact Below.refl _ _ | assumption | refine bdrewN ?_ _ | refine Below.drew ?_ | refine Below.setCell ?_ (Nat.le_refl _) _ | refine bal ?_ _ | refine bthen ?_ (by assumption))))).mono ?_); rintro _ _ ⟨rfl, rfl⟩))
          go_ret
          exact ⟨ret_bool HRf.out.symm, by (repeat' (first | exact Below.refl _ _ | assumption | refine bdrewN ?_ _ | refine Below.drew ?_ | refine Below.setCell ?_ (Nat.le_refl _) _ | refine bal ?_ _ | refine bthen ?_ (by assumption)))⟩
        | true =>
          rw [Bool.true_and, Bool.true_and] at HQ
          rcases (show kind = 0 ∨ kind = 1 ∨ kind = 2 ∨ kind = 3 ∨ kind = 4 by omega) with rfl | rfl | rfl | rfl | rfl
          · skip
            by_cases e1 : how ≠ 0
            · have f1 : (how != 0) = true := by rw [bne_iff_ne]; exact e1
              have HRf : Hid (R = false) := hid (by rw [HQ.out]; exact andF (by omega))
              clear HPv HM HS HQ
              go_wp2_with (first | (go_at_call 30; (with_reducible refine (TC.out _ (by (repeat' (first | exact Below.refl _ _ | assumption | refine bdrewN ?_ _ | refine Below.drew ?_ | refine Below.setCell ?_ (Nat.le_refl _) _ | refine bal ?_ _ | refine bthen ?_ (by assumption))))).mono ?_); rintro _ _ ⟨rfl, rfl⟩) | (go_at_call 30; (with_reducible refine (EC.out _ (by (repeat' (first | exact Below.refl _ _ | assumption | refine bdrewN ?_ _ | refine Below.drew ?_ | refine Below.setCell ?_ (Nat.le_refl _) _ | refine bal ?_ _ | refine bthen ?_ (by assumption))))).mono ?_); rintro _ _ ⟨rfl, rfl⟩))
              go_ret
              exact ⟨ret_bool HRf.out.symm, by (repeat' (first | exact Below.refl _ _ | assumption | refine bdrewN ?_ _ | refine Below.drew ?_ | refine Below.setCell ?_ (Nat.le_refl _) _ | refine bal ?_ _ | refine bthen ?_ (by assumption)))⟩
            obtain rfl : how = 0 := by omega
            by_cases e4 : grp ≠ 0
            · have f8 : (grp != 0) = true := by rw [bne_iff_ne]; exact e4
              have HRf : Hid (R = false) := hid (by rw [HQ.out]; exact andF (by omega))
              clear HPv HM HS HQ
              go_wp2_with (first | (go_at_call 30; (with_reducible refine (TC.out _ (by (repeat' (first | exact Below.refl _ _ | assumption | refine bdrewN ?_ _ | refine Below.drew ?_ | refine Below.setCell ?_ (Nat.le_refl _) _ | refine bal ?_ _ | refine bthen ?_ (by assumption))))).mono ?_); rintro _ _ ⟨rfl, rfl⟩) | (go_at_call 30; (with_reducible refine (EC.out _ (by (repeat' (first | exact Below.refl _ _ | assumption | refine bdrewN ?_ _ | refine Below.drew ?_ | refine Below.setCell ?_ (Nat.le_refl _) _ | refine bal ?_ _ | refine bthen ?_ (by assumption))))).mono ?_); rintro _ _ ⟨rfl, rfl⟩))
              go_ret
              exact ⟨ret_bool HRf.out.symm, by (repeat' (first | exact Below.refl _ _ | assumption | refine bdrewN ?_ _ | refine Below.drew ?_ | refine Below.setCell ?_ (Nat.le_refl _) _ | refine bal ?_ _ | refine bthen ?_ (by assumption)))⟩
            obtain rfl : grp = 0 := by omega
            by_cases e2 : tl = 0
            · subst e2
              have HRf : Hid (R = false) := hid (by rw [HQ.out]; exact andF (by omega))
              clear HPv HM HS HQ
              go_wp2_with (first | (go_at_call 30; (with_reducible refine (TC.out _ (by (repeat' (first | exact Below.refl _ _ | assumption | refine bdrewN ?_ _ | refine Below.drew ?_ | refine Below.setCell ?_ (Nat.le_refl _) _ | refine bal ?_ _ | refine bthen ?_ (by assumption))))).mono ?_); rintro _ _ ⟨rfl, rfl⟩) | (go_at_call 30; (with_reducible refine (EC.out _ (by (repeat' (first | exact Below.refl _ _ | assumption | refine bdrewN ?_ _ | refine Below.drew ?_ | refine Below.setCell ?_ (Nat.le_refl _) _ | refine bal ?_ _ | refine bthen ?_ (by assumption))))).mono ?_); rintro _ _ ⟨rfl, rfl⟩))
              go_ret
              exact ⟨ret_bool HRf.out.symm, by (repeat' (first | exact Below.refl _ _ | assumption | refine bdrewN ?_ _ | refine Below.drew ?_ | refine Below.setCell ?_ (Nat.le_refl _) _ | refine bal ?_ _ | refine bthen ?_ (by assumption)))⟩
            have f2 : decide ((0 : Int) < (tl : Int)) = true := decide_eq_true (by omega)
            have f3 : decide (0 < tl) = true := decide_eq_true (by omega)
            have f4 : ((tl : Int) == 0) = false := by rw [beq_eq_false_iff_ne]; omega
            have f5 : (tl == 0) = false := by rw [beq_eq_false_iff_ne]; exact e2
            rcases HPv.out with ⟨rfl, rfl⟩ | ⟨j, kp, rfl, rfl, ckp⟩
            · simp only [Nat.zero_mul, Nat.add_zero] at r0 r1 r2 r3 r4
              by_cases e3 : el ≠ 0
              · have f6 : decide ((0 : Int) < (el : Int)) = true := decide_eq_true (by omega)
                have f7 : decide (0 < el) = true := decide_eq_true (by omega)
                have HRf : Hid (R = false) := hid (by rw [HQ.out]; exact andF (by omega))
                clear HPv HM HS HQ
                go_wp2_with (first | (go_at_call 30; (with_reducible refine (TC.out _ (by (repeat' (first | exact Below.refl _ _ | assumption | refine bdrewN ?_ _ | refine Below.drew ?_ | refine Below.setCell ?_ (Nat.le_refl _) _ | refine bal ?_ _ | refine bthen ?_ (by assumption))))).mono ?_); rintro _ _ ⟨rfl, rfl⟩) | (go_at_call 30; (with_reducible refine (EC.out _ (by (repeat' (first | exact Below.refl _ _ | assumption | refine bdrewN ?_ _ | refine Below.drew ?_ | refine Below.setCell ?_ (Nat.le_refl _) _ | refine bal ?_ _ | refine bthen ?_ (by assumption))))).mono ?_); rintro _ _ ⟨rfl, rfl⟩))
                go_ret
                exact ⟨ret_bool HRf.out.symm, by (repeat' (first | exact Below.refl _ _ | assumption | refine bdrewN ?_ _ | refine Below.drew ?_ | refine Below.setCell ?_ (Nat.le_refl _) _ | refine bal ?_ _ | refine bthen ?_ (by assumption)))⟩
              obtain rfl : el = 0 := by omega
              have HX : Hid (R = rest) := hid (by rw [HQ.out]; exact (andT (by omega)).trans (by simp))
              clear HPv HM HS HQ
              go_wp2_with (first | (go_at_call 30; (with_reducible refine (TC.out _ (by (repeat' (first | exact Below.refl _ _ | assumption | refine bdrewN ?_ _ | refine Below.drew ?_ | refine Below.setCell ?_ (Nat.le_refl _) _ | refine bal ?_ _ | refine bthen ?_ (by assumption))))).mono ?_); rintro _ _ ⟨rfl, rfl⟩) | (go_at_call 30; (with_reducible refine (EC.out _ (by (repeat' (first | exact Below.refl _ _ | assumption | refine bdrewN ?_ _ | refine Below.drew ?_ | refine Below.setCell ?_ (Nat.le_refl _) _ | refine bal ?_ _ | refine bthen ?_ (by assumption))))).mono ?_); rintro _ _ ⟨rfl, rfl⟩))
              go_roundw
              case rel => exact ⟨0 + 1, hlt, by go_num, hid (by rw [HN.out, ← HRest.out]; exact HX.out), by (repeat' (first | exact Below.refl _ _ | assumption | refine bdrewN ?_ _ | refine Below.drew ?_ | refine Below.setCell ?_ (Nat.le_refl _) _ | refine bal ?_ _ | refine bthen ?_ (by assumption)))⟩
              case measure => simp [intOf]; omega
            · by_cases hkp : kp = 0
              · subst hkp
                have HRf : Hid (R = false) := hid (by rw [HQ.out]; simp)
                clear HPv HM HS HQ
                go_wp2_with (first | (go_at_call 30; (with_reducible refine (TC.out _ (by (repeat' (first | exact Below.refl _ _ | assumption | refine bdrewN ?_ _ | refine Below.drew ?_ | refine Below.setCell ?_ (Nat.le_refl _) _ | refine bal ?_ _ | refine bthen ?_ (by assumption))))).mono ?_); rintro _ _ ⟨rfl, rfl⟩) | (go_at_call 30; (with_reducible refine (EC.out _ (by (repeat' (first | exact Below.refl _ _ | assumption | refine bdrewN ?_ _ | refine Below.drew ?_ | refine Below.setCell ?_ (Nat.le_refl _) _ | refine bal ?_ _ | refine bthen ?_ (by assumption))))).mono ?_); rintro _ _ ⟨rfl, rfl⟩))
                go_ret
                exact ⟨ret_bool HRf.out.symm, by (repeat' (first | exact Below.refl _ _ | assumption | refine bdrewN ?_ _ | refine Below.drew ?_ | refine Below.setCell ?_ (Nat.le_refl _) _ | refine bal ?_ _ | refine bthen ?_ (by assumption)))⟩
              · have ekp : (kp == 0) = false := by rw [beq_eq_false_iff_ne]; exact hkp
                rw [decide_eq_false hkp] at HQ
                by_cases e3 : el ≠ 0
                · have f6 : decide ((0 : Int) < (el : Int)) = true := decide_eq_true (by omega)
                  have f7 : decide (0 < el) = true := decide_eq_true (by omega)
                  have HRf : Hid (R = false) := hid (by rw [HQ.out]; exact andF (by omega))
                  clear HPv HM HS HQ
                  go_wp2_with (first | (go_at_call 30; (with_reducible refine (TC.out _ (by (repeat' (first | exact Below.refl _ _ | assumption | refine bdrewN ?_ _ | refine Below.drew ?_ | refine Below.setCell ?_ (Nat.le_refl _) _ | refine bal ?_ _ | refine bthen ?_ (by assumption))))).mono ?_); rintro _ _ ⟨rfl, rfl⟩) | (go_at_call 30; (with_reducible refine (EC.out _ (by (repeat' (first | exact Below.refl _ _ | assumption | refine bdrewN ?_ _ | refine Below.drew ?_ | refine Below.setCell ?_ (Nat.le_refl _) _ | refine bal ?_ _ | refine bthen ?_ (by assumption))))).mono ?_); rintro _ _ ⟨rfl, rfl⟩))
                  go_ret
                  exact ⟨ret_bool HRf.out.symm, by (repeat' (first | exact Below.refl _ _ | assumption | refine bdrewN ?_ _ | refine Below.drew ?_ | refine Below.setCell ?_ (Nat.le_refl _) _ | refine bal ?_ _ | refine bthen ?_ (by assumption)))⟩
                obtain rfl : el = 0 := by omega
                have HX : Hid (R = rest) := hid (by rw [HQ.out]; exact (andT (by omega)).trans (by simp))
                clear HPv HM HS HQ
                go_wp2_with (first | (go_at_call 30; (with_reducible refine (TC.out _ (by (repeat' (first | exact Below.refl _ _ | assumption | refine bdrewN ?_ _ | refine Below.drew ?_ | refine Below.setCell ?_ (Nat.le_refl _) _ | refine bal ?_ _ | refine bthen ?_ (by assumption))))).mono ?_); rintro _ _ ⟨rfl, rfl⟩) | (go_at_call 30; (with_reducible refine (EC.out _ (by (repeat' (first | exact Below.refl _ _ | assumption | refine bdrewN ?_ _ | refine Below.drew ?_ | refine Below.setCell ?_ (Nat.le_refl _) _ | refine bal ?_ _ | refine bthen ?_ (by assumption))))).mono ?_); rintro _ _ ⟨rfl, rfl⟩))
                go_roundw
                case rel => exact ⟨j + 1 + 1, hlt, by go_num, hid (by rw [HN.out, ← HRest.out]; exact HX.out), by (repeat' (first | exact Below.refl _ _ | assumption | refine bdrewN ?_ _ | refine Below.drew ?_ | refine Below.setCell ?_ (Nat.le_refl _) _ | refine bal ?_ _ | refine bthen ?_ (by assumption)))⟩
                case measure => simp [intOf]; omega
          · rw [decide_eq_false (p := (1 : Int) = 0) (by decide), Bool.and_false] at HQ
            by_cases e2 : tl ≠ 0
            · have f2 : decide ((0 : Int) < (tl : Int)) = true := decide_eq_true (by omega)
              have f3 : decide (0 < tl) = true := decide_eq_true (by omega)
              have HRf : Hid (R = false) := hid (by rw [HQ.out]; exact andF (by omega))
              clear HPv HM HS HQ
              go_wp2_with (first | (go_at_call 30; (with_reducible refine (TC.out _ (by (repeat' (first | exact Below.refl _ _ | assumption | refine bdrewN ?_ _ | refine Below.drew ?_ | refine Below.setCell ?_ (Nat.le_refl _) _ | refine bal ?_ _ | refine bthen ?_ (by assumption))))).mono ?_); rintro _ _ ⟨rfl, rfl⟩) | (go_at_call 30; (with_reducible refine (EC.out _ (by (repeat' (first | exact Below.refl _ _ | assumption | refine bdrewN ?_ _ | refine Below.drew ?_ | refine Below.setCell ?_ (Nat.le_refl _) _ | refine bal ?_ _ | refine bthen ?_ (by assumption))))).mono ?_); rintro _ _ ⟨rfl, rfl⟩))
              go_ret
              exact ⟨ret_bool HRf.out.symm, by (repeat' (first | exact Below.refl _ _ | assumption | refine bdrewN ?_ _ | refine Below.drew ?_ | refine Below.setCell ?_ (Nat.le_refl _) _ | refine bal ?_ _ | refine bthen ?_ (by assumption)))⟩
            obtain rfl : tl = 0 := by omega
            by_cases e3 : el ≠ 0
            · have f6 : decide ((0 : Int) < (el : Int)) = true := decide_eq_true (by omega)
              have f7 : decide (0 < el) = true := decide_eq_true (by omega)
              have HRf : Hid (R = false) := hid (by rw [HQ.out]; exact andF (by omega))
              clear HPv HM HS HQ
              go_wp2_with (first | (go_at_call 30; (with_reducible refine (TC.out _ (by (repeat' (first | exact Below.refl _ _ | assumption | refine bdrewN ?_ _ | refine Below.drew ?_ | refine Below.setCell ?_ (Nat.le_refl _) _ | refine bal ?_ _ | refine bthen ?_ (by assumption))))).mono ?_); rintro _ _ ⟨rfl, rfl⟩) | (go_at_call 30; (with_reducible refine (EC.out _ (by (repeat' (first | exact Below.refl _ _ | assumption | refine bdrewN ?_ _ | refine Below.drew ?_ | refine Below.setCell ?_ (Nat.le_refl _) _ | refine bal ?_ _ | refine bthen ?_ (by assumption))))).mono ?_); rintro _ _ ⟨rfl, rfl⟩))
              go_ret
              exact ⟨ret_bool HRf.out.symm, by (repeat' (first | exact Below.refl _ _ | assumption | refine bdrewN ?_ _ | refine Below.drew ?_ | refine Below.setCell ?_ (Nat.le_refl _) _ | refine bal ?_ _ | refine bthen ?_ (by assumption)))⟩
            obtain rfl : el = 0 := by omega
            by_cases e1 : how = 0
            · subst e1
              have HX : Hid (R = rest) := hid (by rw [HQ.out]; exact (andT (by omega)).trans (by simp))
              clear HPv HM HS HQ
              go_wp2_with (first | (go_at_call 30; (with_reducible refine (TC.out _ (by (repeat' (first | exact Below.refl _ _ | assumption | refine bdrewN ?_ _ | refine Below.drew ?_ | refine Below.setCell ?_ (Nat.le_refl _) _ | refine bal ?_ _ | refine bthen ?_ (by assumption))))).mono ?_); rintro _ _ ⟨rfl, rfl⟩) | (go_at_call 30; (with_reducible refine (EC.out _ (by (repeat' (first | exact Below.refl _ _ | assumption | refine bdrewN ?_ _ | refine Below.drew ?_ | refine Below.setCell ?_ (Nat.le_refl _) _ | refine bal ?_ _ | refine bthen ?_ (by assumption))))).mono ?_); rintro _ _ ⟨rfl, rfl⟩))
              go_roundw
              case rel => exact ⟨k + 1, hlt, by go_num, hid (by rw [HN.out, ← HRest.out]; exact HX.out), by (repeat' (first | exact Below.refl _ _ | assumption | refine bdrewN ?_ _ | refine Below.drew ?_ | refine Below.setCell ?_ (Nat.le_refl _) _ | refine bal ?_ _ | refine bthen ?_ (by assumption)))⟩
              case measure => simp [intOf]; omega
            · have f1 : (how != 0) = true := by rw [bne_iff_ne]; exact e1
              have HX : Hid (R = rest) := hid (by rw [HQ.out]; exact (andT (by omega)).trans (by simp))
              clear HPv HM HS HQ
              go_wp2_with (first | (go_at_call 30; (with_reducible refine (TC.out _ (by (repeat' (first | exact Below.refl _ _ | assumption | refine bdrewN ?_ _ | refine Below.drew ?_ | refine Below.setCell ?_ (Nat.le_refl _) _ | refine bal ?_ _ | refine bthen ?_ (by assumption))))).mono ?_); rintro _ _ ⟨rfl, rfl⟩) | (go_at_call 30; (with_reducible refine (EC.out _ (by (repeat' (first | exact Below.refl _ _ | assumption | refine bdrewN ?_ _ | refine Below.drew ?_ | refine Below.setCell ?_ (Nat.le_refl _) _ | refine bal ?_ _ | refine bthen ?_ (by assumption))))).mono ?_); rintro _ _ ⟨rfl, rfl⟩))
              go_roundw
              case rel => exact ⟨k + 1, hlt, by go_num, hid (by rw [HN.out, ← HRest.out]; exact HX.out), by (repeat' (first | exact Below.refl _ _ | assumption | refine bdrewN ?_ _ | refine Below.drew ?_ | refine Below.setCell ?_ (Nat.le_refl _) _ | refine bal ?_ _ | refine bthen ?_ (by assumption)))⟩
              case measure => simp [intOf]; omega
          · rw [decide_eq_false (p := (2 : Int) = 0) (by decide), Bool.and_false] at HQ
            by_cases e1 : how ≠ 0
            · have f1 : (how != 0) = true := by rw [bne_iff_ne]; exact e1
              have HRf : Hid (R = false) := hid (by rw [HQ.out]; exact andF (by omega))
              clear HPv HM HS HQ
              go_wp2_with (first | (go_at_call 30; (with_reducible refine (TC.out _ (by (repeat' (first | exact Below.refl _ _ | assumption | refine bdrewN ?_ _ | refine Below.drew ?_ | refine Below.setCell ?_ (Nat.le_refl _) _ | refine bal ?_ _ | refine bthen ?_ (by assumption))))).mono ?_); rintro _ _ ⟨rfl, rfl⟩) | (go_at_call 30; (with_reducible refine (EC.out _ (by (repeat' (first | exact Below.refl _ _ | assumption | refine bdrewN ?_ _ | refine Below.drew ?_ | refine Below.setCell ?_ (Nat.le_refl _) _ | refine bal ?_ _ | refine bthen ?_ (by assumption))))).mono ?_); rintro _ _ ⟨rfl, rfl⟩))
              go_ret
              exact ⟨ret_bool HRf.out.symm, by (repeat' (first | exact Below.refl _ _ | assumption | refine bdrewN ?_ _ | refine Below.drew ?_ | refine Below.setCell ?_ (Nat.le_refl _) _ | refine bal ?_ _ | refine bthen ?_ (by assumption)))⟩
            obtain rfl : how = 0 := by omega
            by_cases e3 : el ≠ 0
            · have f6 : decide ((0 : Int) < (el : Int)) = true := decide_eq_true (by omega)
              have f7 : decide (0 < el) = true := decide_eq_true (by omega)
              have HRf : Hid (R = false) := hid (by rw [HQ.out]; exact andF (by omega))
              clear HPv HM HS HQ
              go_wp2_with (first | (go_at_call 30; (with_reducible refine (TC.out _ (by (repeat' (first | exact Below.refl _ _ | assumption | refine bdrewN ?_ _ | refine Below.drew ?_ | refine Below.setCell ?_ (Nat.le_refl _) _ | refine bal ?_ _ | refine bthen ?_ (by assumption))))).mono ?_); rintro _ _ ⟨rfl, rfl⟩) | (go_at_call 30; (with_reducible refine (EC.out _ (by (repeat' (first | exact Below.refl _ _ | assumption | refine bdrewN ?_ _ | refine Below.drew ?_ | refine Below.setCell ?_ (Nat.le_refl _) _ | refine bal ?_ _ | refine bthen ?_ (by assumption))))).mono ?_); rintro _ _ ⟨rfl, rfl⟩))
              go_ret
              exact ⟨ret_bool HRf.out.symm, by (repeat' (first | exact Below.refl _ _ | assumption | refine bdrewN ?_ _ | refine Below.drew ?_ | refine Below.setCell ?_ (Nat.le_refl _) _ | refine bal ?_ _ | refine bthen ?_ (by assumption)))⟩
            obtain rfl : el = 0 := by omega
            have HX : Hid (R = rest) := hid (by rw [HQ.out]; exact (andT (by omega)).trans (by simp))
            clear HPv HM HS HQ
            go_wp2_with (first | (go_at_call 30; (with_reducible refine (TC.out _ (by (repeat' (first | exact Below.refl _ _ | assumption | refine bdrewN ?_ _ | refine Below.drew ?_ | refine Below.setCell ?_ (Nat.le_refl _) _ | refine bal ?_ _ | refine bthen ?_ (by assumption))))).mono ?_); rintro _ _ ⟨rfl, rfl⟩) | (go_at_call 30; (with_reducible refine (EC.out _ (by (repeat' (first | exact Below.refl _ _ | assumption | refine bdrewN ?_ _ | refine Below.drew ?_ | refine Below.setCell ?_ (Nat.le_refl _) _ | refine bal ?_ _ | refine bthen ?_ (by assumption))))).mono ?_); rintro _ _ ⟨rfl, rfl⟩))
            go_roundw
            case rel => exact ⟨k + 1, hlt, by go_num, hid (by rw [HN.out, ← HRest.out]; exact HX.out), by (repeat' (first | exact Below.refl _ _ | assumption | refine bdrewN ?_ _ | refine Below.drew ?_ | refine Below.setCell ?_ (Nat.le_refl _) _ | refine bal ?_ _ | refine bthen ?_ (by assumption)))⟩
            case measure => simp [intOf]; omega
          · rw [decide_eq_false (p := (3 : Int) = 0) (by decide), Bool.and_false] at HQ
            by_cases e1 : how ≠ 0
            · have f1 : (how != 0) = true := by rw [bne_iff_ne]; exact e1
              have HRf : Hid (R = false) := hid (by rw [HQ.out]; exact andF (by omega))
              clear HPv HM HS HQ
              go_wp2_with (first | (go_at_call 30; (with_reducible refine (TC.out _ (by (repeat' (first | exact Below.refl _ _ | assumption | refine bdrewN ?_ _ | refine Below.drew ?_ | refine Below.setCell ?_ (Nat.le_refl _) _ | refine bal ?_ _ | refine bthen ?_ (by assumption))))).mono ?_); rintro _ _ ⟨rfl, rfl⟩) | (go_at_call 30; (with_reducible refine (EC.out _ (by (repeat' (first | exact Below.refl _ _ | assumption | refine bdrewN ?_ _ | refine Below.drew ?_ | refine Below.setCell ?_ (Nat.le_refl _) _ | refine bal ?_ _ | refine bthen ?_ (by assumption))))).mono ?_); rintro _ _ ⟨rfl, rfl⟩))
              go_ret
              exact ⟨ret_bool HRf.out.symm, by (repeat' (first | exact Below.refl _ _ | assumption | refine bdrewN ?_ _ | refine Below.drew ?_ | refine Below.setCell ?_ (Nat.le_refl _) _ | refine bal ?_ _ | refine bthen ?_ (by assumption)))⟩
            obtain rfl : how = 0 := by omega
            by_cases e2 : tl ≠ 0
            · have f2 : decide ((0 : Int) < (tl : Int)) = true := decide_eq_true (by omega)
              have f3 : decide (0 < tl) = true := decide_eq_true (by omega)
              have HRf : Hid (R = false) := hid (by rw [HQ.out]; exact andF (by omega))
              clear HPv HM HS HQ
              go_wp2_with (first | (go_at_call 30; (with_reducible refine (TC.out _ (by (repeat' (first | exact Below.refl _ _ | assumption | refine bdrewN ?_ _ | refine Below.drew ?_ | refine Below.setCell ?_ (Nat.le_refl _) _ | refine bal ?_ _ | refine bthen ?_ (by assumption))))).mono ?_); rintro _ _ ⟨rfl, rfl⟩) | (go_at_call 30; (with_reducible refine (EC.out _ (by (repeat' (first | exact Below.refl _ _ | assumption | refine bdrewN ?_ _ | refine Below.drew ?_ | refine Below.setCell ?_ (Nat.le_refl _) _ | refine bal ?_ _ | refine bthen ?_ (by assumption))))).mono ?_); rintro _ _ ⟨rfl, rfl⟩))
              go_ret
              exact ⟨ret_bool HRf.out.symm, by (repeat' (first | exact Below.refl _ _ | assumption | refine bdrewN ?_ _ | refine Below.drew ?_ | refine Below.setCell ?_ (Nat.le_refl _) _ | refine bal ?_ _ | refine bthen ?_ (by assumption)))⟩
            obtain rfl : tl = 0 := by omega
            have HX : Hid (R = rest) := hid (by rw [HQ.out]; exact (andT (by omega)).trans (by simp))
            clear HPv HM HS HQ
            go_wp2_with (first | (go_at_call 30; (with_reducible refine (TC.out _ (by (repeat' (first | exact Below.refl _ _ | assumption | refine bdrewN ?_ _ | refine Below.drew ?_ | refine Below.setCell ?_ (Nat.le_refl _) _ | refine bal ?_ _ | refine bthen ?_ (by assumption))))).mono ?_); rintro _ _ ⟨rfl, rfl⟩) | (go_at_call 30; (with_reducible refine (EC.out _ (by (repeat' (first | exact Below.refl _ _ | assumption | refine bdrewN ?_ _ | refine Below.drew ?_ | refine Below.setCell ?_ (Nat.le_refl _) _ | refine bal ?_ _ | refine bthen ?_ (by assumption))))).mono ?_); rintro _ _ ⟨rfl, rfl⟩))
            go_roundw
            case rel => exact ⟨k + 1, hlt, by go_num, hid (by rw [HN.out, ← HRest.out]; exact HX.out), by (repeat' (first | exact Below.refl _ _ | assumption | refine bdrewN ?_ _ | refine Below.drew ?_ | refine Below.setCell ?_ (Nat.le_refl _) _ | refine bal ?_ _ | refine bthen ?_ (by assumption)))⟩
            case measure => simp [intOf]; omega
          · rw [decide_eq_false (p := (4 : Int) = 0) (by decide), Bool.and_false] at HQ
            by_cases e1 : how ≠ 0
            · have f1 : (how != 0) = true := by rw [bne_iff_ne]; exact e1
              have HRf : Hid (R = false) := hid (by rw [HQ.out]; exact andF (by omega))
              clear HPv HM HS HQ
              go_wp2_with (first | (go_at_call 30; (with_reducible refine (TC.out _ (by (repeat' (first | exact Below.refl _ _ | assumption | refine bdrewN ?_ _ | refine Below.drew ?_ | refine Below.setCell ?_ (Nat.le_refl _) _ | refine bal ?_ _ | refine bthen ?_ (by assumption))))).mono ?_); rintro _ _ ⟨rfl, rfl⟩) | (go_at_call 30; (with_reducible refine (EC.out _ (by (repeat' (first | exact Below.refl _ _ | assumption | refine bdrewN ?_ _ | refine Below.drew ?_ | refine Below.setCell ?_ (Nat.le_refl _) _ | refine bal ?_ _ | refine bthen ?_ (by assumption))))).mono ?_); rintro _ _ ⟨rfl, rfl⟩))
              go_ret
              exact ⟨ret_bool HRf.out.symm, by (repeat' (first | exact Below.refl _ _ | assumption | refine bdrewN ?_ _ | refine Below.drew ?_ | refine Below.setCell ?_ (Nat.le_refl _) _ | refine bal ?_ _ | refine bthen ?_ (by assumption)))⟩
            obtain rfl : how = 0 := by omega
            have HX : Hid (R = rest) := hid (by rw [HQ.out]; exact (andT (by omega)).trans (by simp))
            clear HPv HM HS HQ
            go_wp2_with (first | (go_at_call 30; (with_reducible refine (TC.out _ (by (repeat' (first | exact Below.refl _ _ | assumption | refine bdrewN ?_ _ | refine Below.drew ?_ | refine Below.setCell ?_ (Nat.le_refl _) _ | refine bal ?_ _ | refine bthen ?_ (by assumption))))).mono ?_); rintro _ _ ⟨rfl, rfl⟩) | (go_at_call 30; (with_reducible refine (EC.out _ (by (repeat' (first | exact Below.refl _ _ | assumption | refine bdrewN ?_ _ | refine Below.drew ?_ | refine Below.setCell ?_ (Nat.le_refl _) _ | refine bal ?_ _ | refine bthen ?_ (by assumption))))).mono ?_); rintro _ _ ⟨rfl, rfl⟩))
            go_roundw
            case rel => exact ⟨k + 1, hlt, by go_num, hid (by rw [HN.out, ← HRest.out]; exact HX.out), by (repeat' (first | exact Below.refl _ _ | assumption | refine bdrewN ?_ _ | refine Below.drew ?_ | refine Below.setCell ?_ (Nat.le_refl _) _ | refine bal ?_ _ | refine bthen ?_ (by assumption)))⟩
            case measure => simp [intOf]; omega
    · obtain rfl : k = M.length := by omega
      have HE : Hid (R = true) := hid (by rw [HT.out, List.drop_length]; rfl)
      go_wp2
      go_ret
      exact ⟨ret_bool HE.out.symm, hb⟩
end Go.Proofs.YtefgjicegbhcaaaGreat
