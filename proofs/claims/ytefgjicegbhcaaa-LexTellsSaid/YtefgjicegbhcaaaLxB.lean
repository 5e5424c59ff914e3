/- Package lex: one token, the fault, the tokens; the document's own (standishref13.Tokens). -/
import Derived.Test.YtefgjicegbhcaaaLxA
import Derived.Test.YtefgjicegbhcaaaFtc
import Derived.Deep.RegionHeld3
import Derived.Deep.RegionLaw
namespace Go.Proofs.Ytefgjicegbhcaaa
open Go.RowKit

theorem may_at {l : List Int} (h : may l = true) {k : Nat} (hk : k < l.length) : sgn (gt l k) = true := by
  rw [may, List.all_eq_true] at h; exact h _ (gt_mem hk)
set_option maxRecDepth 20000 in
set_option maxHeartbeats 4000000 in
theorem token_c (a : Option Addr) (c : Nat) (l : List Int) (from_ : Nat) (w : World) (h : Sl w a l) (hf : from_ < l.length) (hm : may l = true) (hz : l.length ≤ 600) :
    Calls Try.prog 25 #[.slice a l.length c, .int .i64 from_] w fun e w' => e = .returned (.agg #[.int .i64 (kno (gt l from_)), .int .i64 from_, .int .i64 (nxt l from_)]) ∧ Below w.heap.size w w' := by
  obtain ⟨V, hV⟩ : ∃ V, V = w.alloc (.cells #[.int .i64 0, .int .i64 0, .int .i64 0] 41) := ⟨_, rfl⟩
  have bV : Below w.heap.size w V := by subst hV; (repeat' (first | exact Below.refl _ _ | assumption | refine bdrewN ?_ _ | refine Below.drew ?_ | refine bal ?_ _ | refine bthen ?_ (by assumption)))
  have T0 : Hid (TkC V w.heap.size 0 0 0) := by subst hV; exact TkC.new _ _ _ _ _ _ rfl
  have hs := h.bel bV
  obtain ⟨tb, to_, rfl, hcell⟩ := hs.at hf
  have ck := hcell from_ hf
  have TB : Hid (tb < V.heap.size) := hid (World.block_lt_of_cell? V _ ck)
  obtain ⟨k, hk⟩ : ∃ k, k = kno (gt l from_) := ⟨_, rfl⟩
  obtain ⟨e, he⟩ : ∃ e, e = nxt l from_ := ⟨_, rfl⟩
  have KC := hid (kind_c (gt l from_) V (may_at hm hf))
  rw [← hk] at KC
  rw [← hk, ← he]
  have HK := hid hk
  have HE := hid he
  have HS := hid hs
  have HM := hid hm
  have BV := hid bV
  have hadd : IntKind.i64.wrap ((from_ : Int) + 1) = (from_ : Int) + 1 := by rw [IntKind.wrap_i64]; omega
  have zV : Hid (V.heap.size = w.heap.size + 1) := by subst hV; simp [Hid]
  clear hcell hk he hs hm h bV
  go_enter Try.func25, Try.ntmps25
  go_upto_region 1 with fail
  rw [← hV]
  clear hV
  go_wp2_with fail
  refine KC.out.mono ?_
  rintro _ w1 ⟨rfl, b1⟩
  obtain ⟨V2, hV2⟩ : ∃ V2, V2 = w1.alloc (.cells #[.int .i64 k, .int .i64 from_, .int .i64 (from_ + 1)] 41) := ⟨_, rfl⟩
  have T2 : Hid (TkC V2 w1.heap.size k from_ ((from_ + 1 : Nat) : Int)) := by subst hV2; exact TkC.new _ _ _ _ _ _ rfl
  have b2 : Below V.heap.size V V2 := by rw [hV2]; exact b1.alloc b1.size _
  have B2 := hid b2
  have Z1 := hid b1.size
  have T3 := hid (T0.out.bel b2)
  have S2 := hid (HS.out.bel b2)
  clear KC T0 b1 b2 ck HS
  go_wp2_with fail
  rw [← hV2]
  clear hV2
  go_loopg [] (e - (from_ + 1)) (fun g wx => ∃ t : Nat, t + g = e ∧ from_ + 1 ≤ t ∧ Hid (e = stp k l t) ∧ Hid (TkC wx w1.heap.size k from_ t) ∧ Hid (TkC wx w.heap.size 0 0 0) ∧ Hid (Sl wx (some ⟨tb, to_, none⟩) l) ∧ Hid (Below V.heap.size V wx))
  case atStart => 
    have h1 := nxt_gt l from_
    exact ⟨from_ + 1, by rw [HE.out]; omega, Nat.le_refl _, hid (by rw [HE.out, HK.out]; rfl), T2, T3, S2, B2⟩
  case round =>
    obtain ⟨t, htg, htf, HT, T4, T5, S4, B4⟩ := hrel
    have m0 := T4.out.c0
    have m1 := T4.out.c1
    have m2 := T4.out.c2
    have mf := T4.out.fz 2
    have n0 := T5.out.c0
    have n1 := T5.out.c1
    have n2 := T5.out.c2
    have f0 := T5.out.fz 0
    have f1 := T5.out.fz 1
    have f2 := T5.out.fz 2
    have hle : e ≤ l.length := by rw [HE.out]; exact nxt_le hf
    have hRB : w.heap.size ≠ w1.heap.size := by have := zV.out; have := Z1.out; omega
    by_cases htl : t < l.length
    · obtain ⟨b', o', hbo, hcell⟩ := S4.out.at htl
      simp only [Option.some.injEq, Addr.mk.injEq, and_true] at hbo
      obtain ⟨rfl, rfl⟩ := hbo
      have ck := hcell t htl
      have hs := may_at HM.out htl
      clear hcell
      have KC : Hid (∀ w', Below wr.heap.size wr w' → w'.cell? ⟨w1.heap.size, 0, none⟩ = some (.int .i64 k) ∧ w'.cell? ⟨w1.heap.size, 2, none⟩ = some (.int .i64 t) ∧ w'.cell? ⟨tb, to_ + t, none⟩ = some (.int .i32 (gt l t))) := hid fun w' hb => by
        have h1 := T4.out.bel hb
        exact ⟨h1.c0, h1.c2, hb.cell (World.block_lt_of_cell? wr _ ck) |>.trans ck⟩
      have TC := hid (fun W' => takes_c k (gt l t) W' hs)
      have q1 : decide ((t : Int) < (l.length : Int)) = true := decide_eq_true (by omega)
      cases gk with
      | zero =>
        obtain rfl : t = e := by omega
        have htk : tke k (gt l t) = false := by
          cases hx : tke k (gt l t) with
          | false => rfl
          | true =>
            have h1 := HT.out
            rw [stp_go htl hx] at h1
            have := stp_ge k l (t + 1)
            omega
        rw [htk] at TC
        go_wp2_with fail
        have hx0 : Below wr.heap.size wr wr.drew := (Below.refl _ _).drew
        have k3 := KC.out _ hx0
        obtain ⟨p0, p1, p2⟩ := k3
        go_region_held3 (fun w' => Below wr.heap.size wr w' ∧ w'.cell? ⟨w1.heap.size, 0, none⟩ = some (.int .i64 k) ∧ w'.cell? ⟨w1.heap.size, 2, none⟩ = some (.int .i64 t) ∧ w'.cell? ⟨tb, to_ + t, none⟩ = some (.int .i32 (gt l t))) (first | assumption | exact ⟨by assumption, by assumption, by assumption, by assumption⟩ | go_keep)
          (first | (go_at_call 36; refine (TC.out _).mono ?_; rintro e' w3 ⟨rfl, hb3⟩; have hx3 : Below wr.heap.size wr w3 := bthen (by assumption) hb3; have kk := KC.out _ hx3; obtain ⟨r0, r1, r2⟩ := kk; have T6 := T4.out.bel hx3; have T7 := T5.out.bel hx3; have m9 := T6.c1; have mf9 := T6.fz 2; have v0 := T7.c0; have v1 := T7.c1; have v2 := T7.c2; have u0 := T7.fz 0; have u1 := T7.fz 1; have u2 := T7.fz 2; have H6 := hid T6; have H7 := hid T7; clear T6 T7) | fail)
        go_wp2_with fail
        refine ret_tk Try.results25 rfl rfl (TkC.put H7.out _ _ _) ⟨rfl, ?_⟩
        have h1 : Below w.heap.size w w3 := BV.out.trans ((B4.out.trans (hx3.mono B4.out.size)).mono BV.out.size)
        exact ((h1.setCell (Nat.le_refl _) _).setCell (Nat.le_refl _) _).setCell (Nat.le_refl _) _
      | succ g =>
        have htk : tke k (gt l t) = true := by
          cases hx : tke k (gt l t) with
          | true => rfl
          | false =>
            have h1 := HT.out
            rw [stp_no htl hx] at h1
            omega
        rw [htk] at TC
        go_wp2_with fail
        have hx0 : Below wr.heap.size wr wr.drew := (Below.refl _ _).drew
        have k3 := KC.out _ hx0
        obtain ⟨p0, p1, p2⟩ := k3
        go_region_held3 (fun w' => Below wr.heap.size wr w' ∧ w'.cell? ⟨w1.heap.size, 0, none⟩ = some (.int .i64 k) ∧ w'.cell? ⟨w1.heap.size, 2, none⟩ = some (.int .i64 t) ∧ w'.cell? ⟨tb, to_ + t, none⟩ = some (.int .i32 (gt l t))) (first | assumption | exact ⟨by assumption, by assumption, by assumption, by assumption⟩ | go_keep)
          (first | (go_at_call 36; refine (TC.out _).mono ?_; rintro e' w3 ⟨rfl, hb3⟩; have hx3 : Below wr.heap.size wr w3 := bthen (by assumption) hb3; have kk := KC.out _ hx3; obtain ⟨r0, r1, r2⟩ := kk; have T6 := T4.out.bel hx3; have T7 := T5.out.bel hx3; have m9 := T6.c1; have mf9 := T6.fz 2; have v0 := T7.c0; have v1 := T7.c1; have v2 := T7.c2; have u0 := T7.fz 0; have u1 := T7.fz 1; have u2 := T7.fz 2; have H6 := hid T6; have H7 := hid T7; clear T6 T7) | fail)
        have hat : IntKind.i64.wrap ((t : Int) + 1) = (t : Int) + 1 := by rw [IntKind.wrap_i64]; omega
        go_wp2_with fail
        go_roundg g
        case measure => omega
        case rel =>
          refine ⟨t + 1, by omega, by omega, hid (by rw [← stp_go htl htk]; exact HT.out), hid (by have := H6.out.to ((t : Int) + 1); simpa using this), hid (H7.out.off _ _ hRB), ?_, ?_⟩
          · exact hid ((S4.out.bel hx3).setOther _ _ (fun ad had => by simp only [Option.some.injEq] at had; subst had; show tb ≠ w1.heap.size; have := TB.out; have := Z1.out; omega))
          · exact hid ((B4.out.trans (hx3.mono B4.out.size)).setCell Z1.out _)
    · obtain rfl : gk = 0 := by omega
      obtain rfl : t = e := by omega
      have q1 : decide ((t : Int) < (l.length : Int)) = false := decide_eq_false (by omega)
      go_wp2_with fail
      go_quiet (fail)
      go_wp2_with fail
      refine ret_tk Try.results25 rfl rfl (TkC.put (T5.out.bel (bdrewN (Below.refl _ _) _)) _ _ _) ⟨rfl, ?_⟩
      have h1 : Below w.heap.size w wr := BV.out.trans (B4.out.mono BV.out.size)
      exact (((bdrewN h1 _).setCell (Nat.le_refl _) _).setCell (Nat.le_refl _) _).setCell (Nat.le_refl _) _
end Go.Proofs.Ytefgjicegbhcaaa
