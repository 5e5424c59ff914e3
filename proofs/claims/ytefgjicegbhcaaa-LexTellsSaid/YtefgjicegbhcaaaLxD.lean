/- The document's own tokens (standishref13.Tokens): the same lists. -/
import Derived.Test.YtefgjicegbhcaaaLxC
import Derived.Deep.CutBlock
import Derived.Deep.DeepCutAuto
namespace Go.Proofs.Ytefgjicegbhcaaa
open Go.RowKit

set_option maxHeartbeats 1000000 in
theorem rmark_c (r : Int) (w : World) :
    Calls Try.prog 29 #[.int .i32 r] w fun e w' => e = .returned (.bool (mrk r)) ∧ w = w' := by
  go_enter Try.func29, Try.ntmps29
  go_wp2
  all_goals go_ret
  all_goals (refine ⟨ret_bool ?_, rfl⟩; go_light; rw [Bool.eq_iff_iff]; ((try simp [mrk] at *) <;> (first | omega | (constructor <;> intro _ <;> omega) | trivial)))
set_option maxHeartbeats 400000 in
theorem rbegins_c (r : Int) (w : World) :
    Calls Try.prog 31 #[.int .i32 r] w fun e w' => e = .returned (.bool (bgn r)) ∧ w = w' := by
  go_enter Try.func31, Try.ntmps31
  go_wp2_with (go_at_call 37; (with_reducible refine (rletter_c _ _).mono ?_); rintro e w' ⟨rfl, rfl⟩)
  all_goals go_ret
  all_goals (refine ⟨ret_bool ?_, rfl⟩; go_light; rw [Bool.eq_iff_iff]; ((try simp [ltr, bgn] at *) <;> (first | omega | (constructor <;> intro _ <;> omega) | trivial)))
set_option maxHeartbeats 400000 in
theorem rgoes_c (r : Int) (w : World) :
    Calls Try.prog 32 #[.int .i32 r] w fun e w' => e = .returned (.bool (gos r)) ∧ w = w' := by
  go_enter Try.func32, Try.ntmps32
  go_wp2_with (first | (go_at_call 31; (with_reducible refine (rbegins_c _ _).mono ?_); rintro e w' ⟨rfl, rfl⟩) | (go_at_call 30; (with_reducible refine (rdigit_c _ _).mono ?_); rintro e w' ⟨rfl, rfl⟩))
  all_goals go_ret
  all_goals (refine ⟨ret_bool ?_, rfl⟩; go_light; rw [Bool.eq_iff_iff]; ((try simp [bgn, dgt, gos] at *) <;> (first | omega | (constructor <;> intro _ <;> omega) | trivial)))
theorem tke_1 (r : Int) : tke 1 r = dgt r := by unfold tke dgt dgi; rw [if_neg (by decide), if_pos rfl]
theorem tke_2 (r : Int) : tke 2 r = gos r := by unfold tke; rw [if_pos rfl]
theorem tke_0 (r : Int) : tke 0 r = (!mrk r && !gos r) := by unfold tke; rw [if_neg (by decide), if_neg (by decide), if_pos rfl]
theorem not_mrk {r : Int} (h : dgi r = true ∨ bgn r = true) : mrk r = false := by
  simp only [mrk, decide_eq_false_iff_not]
  simp only [dgi, bgn, decide_eq_true_eq] at h
  omega
theorem not_dgt {r : Int} (h : bgn r = true ∨ gos r = false) : dgt r = false := by
  simp only [dgt, decide_eq_false_iff_not]
  simp only [bgn, gos, decide_eq_true_eq, decide_eq_false_iff_not] at h
  omega
theorem not_bgn {r : Int} (h : gos r = false) : bgn r = false := by
  simp only [bgn, decide_eq_false_iff_not]
  simp only [gos, decide_eq_false_iff_not] at h
  omega
set_option maxRecDepth 20000 in
set_option maxHeartbeats 20000000 in
theorem rtokens_c (a : Option Addr) (c : Nat) (l : List Int) (w : World) (h : Sl w a l) :
    Calls Try.prog 22 #[.slice a l.length c] w (LexP w l) := by
  have hl := h.len
  obtain ⟨V, hV⟩ : ∃ V, V = w.alloc (.cells #[.int .i64 0, .int .i64 0] 37) := ⟨_, rfl⟩
  have bV : Below w.heap.size w V := by subst hV; (repeat' (first | exact Below.refl _ _ | assumption | refine bdrewN ?_ _ | refine Below.drew ?_ | refine bal ?_ _ | refine bthen ?_ (by assumption)))
  have F0 : Hid (FtC V w.heap.size 0 0) := by subst hV; exact FtC.new _ _ _ _ _ rfl
  have zV : V.heap.size = w.heap.size + 1 := by subst hV; simp
  have h := h.bel bV
  have ff := F0.out
  have g0 := ff.c0
  have g1 := ff.c1
  have g2 := ff.fz 0
  have g3 := ff.fz 1
  have put : ∀ e f, Below w.heap.size w ((V.setCell ⟨w.heap.size, 0, none⟩ e).setCell ⟨w.heap.size, 1, none⟩ f) := fun e f => (bV.setCell (Nat.le_refl _) _).setCell (Nat.le_refl _) _
  have Put := hid put
  have BV := hid bV
  clear ff put bV
  by_cases h6 : 600 < l.length
  · have b1 : decide ((600 : Int) < (l.length : Int)) = true := by simp; omega
    have e : lexF l = (3, 600) := by unfold lexF; rw [if_pos h6]
    have e2 : lexL l = [] := by unfold lexL; rw [e]; rfl
    have E := hid e
    have E2 := hid e2
    clear e e2
    go_enter Try.func22, Try.ntmps22
    go_upto_region 1 with fail
    rw [← hV]; clear hV
    go_wp2_with fail
    refine ret_tf Try.results22 rfl rfl rfl (F0.out.put 3 600) ⟨Put.out _ _, none, 0, by rw [E.out, E2.out]; rfl, ?_⟩
    rw [E2.out]; exact ROwn.nil _ _
  · have b1 : decide ((600 : Int) < (l.length : Int)) = false := by simp; omega
    go_enter Try.func22, Try.ntmps22
    go_upto_region 1 with fail
    rw [← hV]; clear hV
    go_wp2_with fail
    go_loop [4] (fun i => ∃ k : Nat, k ≤ l.length ∧ i = .int .i64 k ∧ Hid (may (l.take k) = true)) (fun i => l.length - (intOf i).toNat)
    case atStart => exact ⟨0, Nat.zero_le _, rfl, rfl⟩
    case round =>
      obtain ⟨k, hk, rfl, hm⟩ := hrel
      by_cases hlt : k < l.length
      · obtain ⟨b, o, rfl, hc⟩ := h.at hlt
        have ck := hc k hlt
        have Ht : Hid (l.take (k + 1) = l.take k ++ [gt l k]) := take_succ hlt
        clear hc
        cases hs : sgn (gt l k) with
        | false =>
          have e : lexF l = (1, (k : Int)) := by
            unfold lexF
            rw [if_neg h6, if_neg (by rw [may_snoc_false hlt hs]; decide), fsn_at hlt hm.out hs]
          have e2 : lexL l = [] := by unfold lexL; rw [e]; rfl
          have E := hid e
          have E2 := hid e2
          clear e e2
          go_wp2_with (go_at_call 15; (with_reducible refine (rsign_c _ _).mono ?_); rintro e w' ⟨rfl, rfl⟩)
          refine ret_tf Try.results22 rfl rfl rfl (F0.out.put 1 (k : Int)) ⟨Put.out _ _, none, 0, by rw [E.out, E2.out]; rfl, ?_⟩
          rw [E2.out]; exact ROwn.nil _ _
        | true =>
          go_wp2_with (go_at_call 15; (with_reducible refine (rsign_c _ _).mono ?_); rintro e w' ⟨rfl, rfl⟩)
          go_round
          case rel => exact ⟨k + 1, by omega, by go_num, by unfold Hid at *; rw [Ht, may_app, hm, hs]; rfl⟩
          case measure => simp [intOf]; omega
      · have hall : may l = true := by
          have := hm.out
          rwa [List.take_of_length_le (by omega)] at this
        have e : lexF l = (0, 0) := by unfold lexF; rw [if_neg h6, if_pos hall]
        have EL : Hid (lexL l = toks l) := hid (by unfold lexL; rw [e]; rfl)
        have HF := hid e
        have HS := hid h
        clear e h g0 g1 g2 g3 hm
        have hkl : k = l.length := by omega
        subst hkl
        have hl6 : l.length ≤ 600 := by omega
        go_wp2_with fail
        go_loopg [5, 6, 7, 8] l.length (fun g lv av _ _ wx => ∃ (t : Nat) (a1 : Option Addr) (c1 : Nat) (L : List Tk), t ≤ l.length ∧ l.length - t ≤ g ∧ av = .int .i64 t ∧ lv = .slice a1 L.length c1 ∧ Hid (TkOwn wx V.heap.size a1 c1 L) ∧ Hid (toks l = L ++ tkr l t) ∧ L.length ≤ t ∧ Hid (Below V.heap.size V wx))
        case atStart => exact ⟨0, none, 0, [], by omega, by omega, rfl, rfl, hid (ROwn.nil _ _), hid rfl, by simp, hid (Below.refl _ _)⟩
        case round =>
          obtain ⟨t, a1, c1, L, htl, htg, rfl, rfl, HO, HT, hLt, B3⟩ := hrel
          by_cases hlt : t < l.length
          · obtain ⟨g, rfl⟩ : ∃ g, gk = g + 1 := ⟨gk - 1, by omega⟩
            obtain ⟨kd, hk⟩ : ∃ k, k = kno (gt l t) := ⟨_, rfl⟩
            obtain ⟨e, he⟩ : ∃ e, e = nxt l t := ⟨_, rfl⟩
            have HN : Hid (tkr l t = ⟨kd, t, e⟩ :: tkr l e) := hid (by rw [tkr_go hlt, hk, he])
            have hte : t < e ∧ e ≤ l.length := by rw [he]; exact ⟨nxt_gt l t, nxt_le hlt⟩
            obtain ⟨hte, hel⟩ := hte
            have HE : Hid (e = stp kd l (t + 1)) := hid (by rw [he, hk]; rfl)
            have z3 := B3.out.size
            obtain ⟨V4, hV4⟩ : ∃ V4, V4 = wr.alloc (.cells #[.int .i64 0, .int .i64 t, .int .i64 0] 41) := ⟨_, rfl⟩
            have T4 : TkC V4 wr.heap.size 0 t 0 := by subst hV4; exact TkC.new _ _ _ _ _ _ rfl
            have zV4 : V4.heap.size = wr.heap.size + 1 := by rw [hV4]; simp
            have b4 : Below wr.heap.size wr V4 := by subst hV4; (repeat' (first | exact Below.refl _ _ | assumption | refine bdrewN ?_ _ | refine Below.drew ?_ | refine bal ?_ _ | refine bthen ?_ (by assumption)))
            have HO4 := hid (HO.out.grow b4)
            have B4 := hid (B3.out.trans (b4.mono z3))
            have S4 := HS.out.bel B4.out
            obtain ⟨b, o, rfl, hc⟩ := S4.at hlt
            have ck := hc t hlt
            have HC := hid hc
            have T4' := hid T4
            have hkc := kno_cases (gt l t)
            rw [← hk] at hkc
            have HKC := hid hkc
            clear hk he b4 hc T4 S4 hkc
            go_upto_region 12 with fail
            rw [← hV4]; clear hV4
            have m0 := T4'.out.c0
            have mf := T4'.out.fz 0
            have hadd : IntKind.i64.wrap ((t : Int) + 1) = (t : Int) + 1 := by rw [IntKind.wrap_i64]; omega
            go_upto_block 4 with fail
            go_cut [6] (fun av wc => av = .int .i64 e ∧ Hid (TkC wc wr.heap.size kd t 0) ∧ Hid (TkOwn wc V.heap.size a1 c1 L) ∧ Hid (Below V.heap.size V wc))
            case first =>
              rcases HKC.out with ⟨rfl, h2⟩ | ⟨rfl, h2⟩ | ⟨h1, h2⟩ | ⟨rfl, h2, h3⟩
              · have hm0 := not_mrk (.inl h2)
                have hd0 : dgt (gt l t) = true := h2
                have T5 : Hid (TkC (V4.setCell ⟨wr.heap.size, 0, none⟩ (.int .i64 1)) wr.heap.size 1 t 0) := hid ⟨by rw [World.cell?_setCell_same (h := T4'.out.c0)], cell_set1 T4'.out.c1 (by decide), cell_set1 T4'.out.c2 (by decide), fun o => by rw [World.frozen?_setCell]; exact T4'.out.fz o⟩
                have O5 : Hid (TkOwn (V4.setCell ⟨wr.heap.size, 0, none⟩ (.int .i64 1)) V.heap.size a1 c1 L) := hid (ROwn.same HO4.out fun ad ha _ => Below.heap_setCell _ _ _ _ (by have := (HO.out.lt ⟨ad, ha, rfl⟩).2; show ad.block ≠ wr.heap.size; omega))
                have B5 : Hid (Below V.heap.size V (V4.setCell ⟨wr.heap.size, 0, none⟩ (.int .i64 1))) := hid (B4.out.setCell (by exact z3) _)
                generalize hV5 : V4.setCell ⟨wr.heap.size, 0, none⟩ (.int .i64 1) = V5 at T5 O5 B5
                go_wp2_with (first | (go_at_call 29; (with_reducible refine (rmark_c _ _).mono ?_); rintro e w' ⟨rfl, rfl⟩) | (go_at_call 30; (with_reducible refine (rdigit_c _ _).mono ?_); rintro e w' ⟨rfl, rfl⟩) | (go_at_call 31; (with_reducible refine (rbegins_c _ _).mono ?_); rintro e w' ⟨rfl, rfl⟩))
                clear hV5
                have S5 := HS.out.bel B5.out
                go_loop [6] (fun iv => ∃ t' : Nat, t + 1 ≤ t' ∧ t' ≤ l.length ∧ iv = .int .i64 t' ∧ Hid (e = stp 1 l t')) (fun iv => l.length - (intOf iv).toNat)
                case atStart => exact ⟨t + 1, Nat.le_refl _, by omega, by go_num, HE⟩
                case round =>
                  obtain ⟨t', h3, h4, rfl, HE'⟩ := hrel
                  by_cases hlt' : t' < l.length
                  · obtain ⟨b', o', hbo, hc'⟩ := S5.at hlt'
                    simp only [Option.some.injEq, Addr.mk.injEq, and_true] at hbo
                    obtain ⟨rfl, rfl⟩ := hbo
                    have ck' := hc' t' hlt'
                    clear hc'
                    cases hx : tke 1 (gt l t') with
                    | true =>
                      have E9 : Hid (e = stp 1 l (t' + 1)) := hid (by rw [HE'.out, stp_go hlt' hx])
                      rw [tke_1] at hx
                      go_wp2_with (go_at_call 30; (with_reducible refine (rdigit_c _ _).mono ?_); rintro e w' ⟨rfl, rfl⟩)
                      go_round
                      case rel => exact ⟨t' + 1, by omega, by omega, by go_num, E9⟩
                      case measure => simp [intOf]; omega
                    | false =>
                      have e9 : e = t' := by rw [HE'.out, stp_no hlt' hx]
                      subst e9
                      rw [tke_1] at hx
                      go_wp2_with (go_at_call 30; (with_reducible refine (rdigit_c _ _).mono ?_); rintro e w' ⟨rfl, rfl⟩)
                      go_meet
                      exact ⟨rfl, T5, O5, B5⟩
                  · have e9 : e = t' := by rw [HE'.out, stp_end (by omega)]
                    subst e9
                    go_wp2_with fail
                    go_meet
                    exact ⟨rfl, T5, O5, B5⟩
              · have hm0 := not_mrk (.inr h2)
                have hd0 := not_dgt (.inl h2)
                have T5 : Hid (TkC (V4.setCell ⟨wr.heap.size, 0, none⟩ (.int .i64 2)) wr.heap.size 2 t 0) := hid ⟨by rw [World.cell?_setCell_same (h := T4'.out.c0)], cell_set1 T4'.out.c1 (by decide), cell_set1 T4'.out.c2 (by decide), fun o => by rw [World.frozen?_setCell]; exact T4'.out.fz o⟩
                have O5 : Hid (TkOwn (V4.setCell ⟨wr.heap.size, 0, none⟩ (.int .i64 2)) V.heap.size a1 c1 L) := hid (ROwn.same HO4.out fun ad ha _ => Below.heap_setCell _ _ _ _ (by have := (HO.out.lt ⟨ad, ha, rfl⟩).2; show ad.block ≠ wr.heap.size; omega))
                have B5 : Hid (Below V.heap.size V (V4.setCell ⟨wr.heap.size, 0, none⟩ (.int .i64 2))) := hid (B4.out.setCell (by exact z3) _)
                generalize hV5 : V4.setCell ⟨wr.heap.size, 0, none⟩ (.int .i64 2) = V5 at T5 O5 B5
                go_wp2_with (first | (go_at_call 29; (with_reducible refine (rmark_c _ _).mono ?_); rintro e w' ⟨rfl, rfl⟩) | (go_at_call 30; (with_reducible refine (rdigit_c _ _).mono ?_); rintro e w' ⟨rfl, rfl⟩) | (go_at_call 31; (with_reducible refine (rbegins_c _ _).mono ?_); rintro e w' ⟨rfl, rfl⟩))
                clear hV5
                have S5 := HS.out.bel B5.out
                go_loop [6] (fun iv => ∃ t' : Nat, t + 1 ≤ t' ∧ t' ≤ l.length ∧ iv = .int .i64 t' ∧ Hid (e = stp 2 l t')) (fun iv => l.length - (intOf iv).toNat)
                case atStart => exact ⟨t + 1, Nat.le_refl _, by omega, by go_num, HE⟩
                case round =>
                  obtain ⟨t', h3, h4, rfl, HE'⟩ := hrel
                  by_cases hlt' : t' < l.length
                  · obtain ⟨b', o', hbo, hc'⟩ := S5.at hlt'
                    simp only [Option.some.injEq, Addr.mk.injEq, and_true] at hbo
                    obtain ⟨rfl, rfl⟩ := hbo
                    have ck' := hc' t' hlt'
                    clear hc'
                    cases hx : tke 2 (gt l t') with
                    | true =>
                      have E9 : Hid (e = stp 2 l (t' + 1)) := hid (by rw [HE'.out, stp_go hlt' hx])
                      rw [tke_2] at hx
                      go_wp2_with (go_at_call 32; (with_reducible refine (rgoes_c _ _).mono ?_); rintro e w' ⟨rfl, rfl⟩)
                      go_round
                      case rel => exact ⟨t' + 1, by omega, by omega, by go_num, E9⟩
                      case measure => simp [intOf]; omega
                    | false =>
                      have e9 : e = t' := by rw [HE'.out, stp_no hlt' hx]
                      subst e9
                      rw [tke_2] at hx
                      go_wp2_with (go_at_call 32; (with_reducible refine (rgoes_c _ _).mono ?_); rintro e w' ⟨rfl, rfl⟩)
                      go_meet
                      exact ⟨rfl, T5, O5, B5⟩
                  · have e9 : e = t' := by rw [HE'.out, stp_end (by omega)]
                    subst e9
                    go_wp2_with fail
                    go_meet
                    exact ⟨rfl, T5, O5, B5⟩
              · have he9 : e = t + 1 := by
                  rw [HE.out]
                  by_cases h5 : t + 1 < l.length
                  · exact stp_no h5 (tke_big _ (by rw [h1]; have := mrk_ge h2; omega))
                  · exact stp_end (by omega)
                have hrn := mrk_ge h2
                subst h1
                subst he9
                have T5 : Hid (TkC (V4.setCell ⟨wr.heap.size, 0, none⟩ (.int .i64 (gt l t))) wr.heap.size (gt l t) t 0) := hid ⟨by rw [World.cell?_setCell_same (h := T4'.out.c0)], cell_set1 T4'.out.c1 (by decide), cell_set1 T4'.out.c2 (by decide), fun o => by rw [World.frozen?_setCell]; exact T4'.out.fz o⟩
                have O5 : Hid (TkOwn (V4.setCell ⟨wr.heap.size, 0, none⟩ (.int .i64 (gt l t))) V.heap.size a1 c1 L) := hid (ROwn.same HO4.out fun ad ha _ => Below.heap_setCell _ _ _ _ (by have := (HO.out.lt ⟨ad, ha, rfl⟩).2; show ad.block ≠ wr.heap.size; omega))
                have B5 : Hid (Below V.heap.size V (V4.setCell ⟨wr.heap.size, 0, none⟩ (.int .i64 (gt l t)))) := hid (B4.out.setCell (by exact z3) _)
                generalize hV5 : V4.setCell ⟨wr.heap.size, 0, none⟩ (.int .i64 (gt l t)) = V5 at T5 O5 B5
                go_wp2_with (first | (go_at_call 29; (with_reducible refine (rmark_c _ _).mono ?_); rintro e w' ⟨rfl, rfl⟩) | (go_at_call 30; (with_reducible refine (rdigit_c _ _).mono ?_); rintro e w' ⟨rfl, rfl⟩) | (go_at_call 31; (with_reducible refine (rbegins_c _ _).mono ?_); rintro e w' ⟨rfl, rfl⟩))
                clear hV5
                go_meet
                exact ⟨by go_num, T5, O5, B5⟩
              · have hd0 := not_dgt (.inr h3)
                have hb0 := not_bgn h3
                have T5 := T4'
                have O5 := HO4
                have B5 := B4
                go_wp2_with (first | (go_at_call 29; (with_reducible refine (rmark_c _ _).mono ?_); rintro e w' ⟨rfl, rfl⟩) | (go_at_call 30; (with_reducible refine (rdigit_c _ _).mono ?_); rintro e w' ⟨rfl, rfl⟩) | (go_at_call 31; (with_reducible refine (rbegins_c _ _).mono ?_); rintro e w' ⟨rfl, rfl⟩))
                have S5 := HS.out.bel B5.out
                go_loop [6] (fun iv => ∃ t' : Nat, t + 1 ≤ t' ∧ t' ≤ l.length ∧ iv = .int .i64 t' ∧ Hid (e = stp 0 l t')) (fun iv => l.length - (intOf iv).toNat)
                case atStart => exact ⟨t + 1, Nat.le_refl _, by omega, by go_num, HE⟩
                case round =>
                  obtain ⟨t', h3, h4, rfl, HE'⟩ := hrel
                  by_cases hlt' : t' < l.length
                  · obtain ⟨b', o', hbo, hc'⟩ := S5.at hlt'
                    simp only [Option.some.injEq, Addr.mk.injEq, and_true] at hbo
                    obtain ⟨rfl, rfl⟩ := hbo
                    have ck' := hc' t' hlt'
                    clear hc'
                    cases hx : tke 0 (gt l t') with
                    | true =>
                      have E9 : Hid (e = stp 0 l (t' + 1)) := hid (by rw [HE'.out, stp_go hlt' hx])
                      rw [tke_0] at hx
                      obtain ⟨hm0, hg0⟩ : mrk (gt l t') = false ∧ gos (gt l t') = false := by simpa using hx
                      clear hx
                      go_wp2_with (first | (go_at_call 29; (with_reducible refine (rmark_c _ _).mono ?_); rintro e w' ⟨rfl, rfl⟩) | (go_at_call 32; (with_reducible refine (rgoes_c _ _).mono ?_); rintro e w' ⟨rfl, rfl⟩))
                      go_round
                      case rel => exact ⟨t' + 1, by omega, by omega, by go_num, E9⟩
                      case measure => simp [intOf]; omega
                    | false =>
                      have e9 : e = t' := by rw [HE'.out, stp_no hlt' hx]
                      subst e9
                      rw [tke_0] at hx
                      cases hm0 : mrk (gt l e) with
                      | true =>
                        go_wp2_with (first | (go_at_call 29; (with_reducible refine (rmark_c _ _).mono ?_); rintro e w' ⟨rfl, rfl⟩) | (go_at_call 32; (with_reducible refine (rgoes_c _ _).mono ?_); rintro e w' ⟨rfl, rfl⟩))
                        go_meet
                        exact ⟨rfl, T5, O5, B5⟩
                      | false =>
                        have hg0 : gos (gt l e) = true := by rw [hm0] at hx; simpa using hx
                        clear hx
                        go_wp2_with (first | (go_at_call 29; (with_reducible refine (rmark_c _ _).mono ?_); rintro e w' ⟨rfl, rfl⟩) | (go_at_call 32; (with_reducible refine (rgoes_c _ _).mono ?_); rintro e w' ⟨rfl, rfl⟩))
                        go_meet
                        exact ⟨rfl, T5, O5, B5⟩
                  · have e9 : e = t' := by rw [HE'.out, stp_end (by omega)]
                    subst e9
                    go_wp2_with fail
                    go_meet
                    exact ⟨rfl, T5, O5, B5⟩
            case rest =>
              obtain ⟨rfl, T5, O5, B5⟩ := hcut
              clear m0 mf ck HC T4' HO4 B4 HKC HE
              have m2 := T5.out.c2
              have mf := T5.out.fz 2
              have hwb : wr.heap.size ≤ wc.heap.size := by have := T5.out.lt; omega
              have T6 : Hid (TkC (wc.setCell ⟨wr.heap.size, 2, none⟩ (.int .i64 e)) wr.heap.size kd t e) := hid (T5.out.to _)
              have O6 : Hid (TkOwn (wc.setCell ⟨wr.heap.size, 2, none⟩ (.int .i64 e)) V.heap.size a1 c1 L) := hid (ROwn.same O5.out fun ad ha _ => Below.heap_setCell _ _ _ _ (by have := (HO.out.lt ⟨ad, ha, rfl⟩).2; show ad.block ≠ wr.heap.size; omega))
              have B6 : Hid (Below V.heap.size V (wc.setCell ⟨wr.heap.size, 2, none⟩ (.int .i64 e))) := hid (B5.out.setCell (by exact z3) _)
              generalize hV6 : wc.setCell ⟨wr.heap.size, 2, none⟩ (.int .i64 e) = V6 at T6 O6 B6
              go_upto_region 27 with fail
              clear hV6 m2 mf T5 O5 B5
              have m0 := T6.out.c0
              have m1 := T6.out.c1
              have m2 := T6.out.c2
              have hnb : ¬ Blk a1 wr.heap.size := fun hb => by have := (HO.out.lt hb).2; omega
              have hwl := T6.out.lt
              go_wp2_with ((at_builtin; (refine wpL_rapp Try.tyTk rfl (.tmp 103) (.tmp 105) rfl V.heap.size a1 (some ⟨V6.heap.size, 0, none⟩) L.length 1 c1 1 L [⟨kd, t, e⟩] rfl (by first | rfl | simp | omega) (O6.out.grow (by (repeat' (first | exact Below.refl _ _ | assumption | refine bdrewN ?_ _ | refine Below.drew ?_ | refine bal ?_ _ | refine bthen ?_ (by assumption))))) rfl (by first | rfl | simp | omega) (RSl.lit (E := encTk) V6 ⟨kd, t, e⟩ 41 V6.heap.size rfl #[.int .i64 kd, .int .i64 t, .int .i64 e] rfl (by decide)) (by simp; show _ ≤ 4398046511104; omega) (by have := B6.out.size; simp; omega) ?_); intro a5 c5 w5 L5 Hl5 ho5 hb5 hk5 hA5; have HA5 := hid hA5; clear hA5; have Ho5 := hid ho5; clear ho5; have Hk5 := hid hk5; clear hk5; have hz5 := hb5.size))
              go_roundg g
              case measure => omega
              case rel => exact ⟨e, a5, c5, L5, hel, by omega, rfl, rfl, Ho5, hid (by rw [Hl5.out, HT.out, HN.out]; simp), by rw [Hl5.out]; simp; omega, hid ((B6.out.alloc B6.out.size _).trans hb5)⟩
          · obtain rfl : t = l.length := by omega
            have F3 := hid (F0.out.bel B3.out)
            have f0 := F3.out.c0
            have f1 := F3.out.c1
            have f2 := F3.out.fz 0
            have f3 := F3.out.fz 1
            go_wp2_with fail
            refine ret_tf Try.results22 rfl rfl rfl (F3.out.put 0 0) ?_
            have e : lexL l = L := by rw [EL.out, HT.out, tkr_end (Nat.le_refl _), List.append_nil]
            have hB : Below w.heap.size w wr := BV.out.trans (B3.out.mono BV.out.size)
            refine ⟨(hB.setCell (Nat.le_refl _) _).setCell (Nat.le_refl _) _, a1, c1, by rw [e, HF.out]; rfl, ?_⟩
            rw [e]
            refine ROwn.same (ROwn.base_le HO.out (by omega)) fun ad ha _ => ?_
            have h1 := (HO.out.lt ⟨ad, ha, rfl⟩).1
            rw [Below.heap_setCell _ _ _ _ (by show ad.block ≠ w.heap.size; omega), Below.heap_setCell _ _ _ _ (by show ad.block ≠ w.heap.size; omega)]
end Go.Proofs.Ytefgjicegbhcaaa
