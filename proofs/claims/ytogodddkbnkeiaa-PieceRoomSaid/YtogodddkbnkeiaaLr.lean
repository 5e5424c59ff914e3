/- Layer 3's law: PieceRoom. -/
import Derived.Test.YtogodddkbnkeiaaLv
import Derived.Deep.OwnRows
namespace Go.Proofs.Ytogodddkbnkeiaa
open Go.RowKit

set_option maxRecDepth 100000 in
set_option maxHeartbeats 8000000 in
theorem room_walk (put k : Int) (W : World) (hput : -2147483648 ≤ put ∧ put ≤ 2147483647) :
    Calls Try.prog 8 #[.int .i32 put, .int .i64 k] W fun e w' => e = .returned (.bool true) ∧ Below W.heap.size W w' := by
  have hmk : ∀ w, (Instr.makeSlice 22 (.int .i64 1000) (.int .i64 1000)).run Try.prog w = .ok (.slice (some ⟨w.heap.size, 0, none⟩) 1000 1000) (w.alloc (.cells (madeCells #[.int .i32 0] 1000) 21)) :=
    fun w => run_make_row' 22 21 (.int .i32 0) 4 Try.underlying22 Try.infoI32 rfl .i64 .i64 1000 (by decide) (by decide) w
  have hmk2 : ∀ w, (Instr.makeSlice 22 (.int .i64 1001) (.int .i64 1001)).run Try.prog w = .ok (.slice (some ⟨w.heap.size, 0, none⟩) 1001 1001) (w.alloc (.cells (madeCells #[.int .i32 0] 1001) 21)) :=
    fun w => run_make_row' 22 21 (.int .i32 0) 4 Try.underlying22 Try.infoI32 rfl .i64 .i64 1001 (by decide) (by decide) w
  have hS := Sl.made W 1000 21 (by omega)
  have hmay := hid (may_zero 1000)
  have hlen : (List.replicate 1000 (0 : Int)).length = 1000 := List.length_replicate
  generalize List.replicate 1000 (0 : Int) = Z at hS hmay hlen
  have HS := hid hS
  have HL := hid hlen
  clear hS hlen
  have Hs0 : Hid ((st0 Z).a = [] ∧ tot (st0 Z).p = 1000) := by
    have h1 := txt_len (st0_wf (l := Z) (by rw [HL.out]; omega)).lies
    have h2 := st0_txt Z
    unfold St.t at h2
    rw [h2, HL.out] at h1
    exact ⟨rfl, h1.symm⟩
  go_enter Try.func8, Try.ntmps8
  cases hs : sgn put with
  | true =>
    have hmp : Hid (may [put] = true) := by simp [Hid, may, hs]
    have hpr : Hid (-2147483648 ≤ (put : Int) ∧ (put : Int) ≤ 2147483647) := hput
    go_wp2_with (go_at_call 31; (with_reducible refine (rsign_c _ _).mono ?_); rintro e w' ⟨rfl, rfl⟩)
    have hn := new_t (some ⟨W.heap.size, 0, none⟩) 1000 Z _ HS.out hmay.out (by rw [HL.out]; omega)
    rw [HL.out] at hn
    refine hn.mono ?_
    rintro e w1 ⟨pt, rfl, ht, hb1⟩
    have L1 := hid (Lv.new (W := W) (bal (Below.refl _ _) _) ht hb1)
    have hsz : (W.alloc (.cells (madeCells #[.int .i32 0] 1000) 21)).heap.size = W.heap.size + 1 := by simp
    generalize hV0 : W.alloc (.cells (madeCells #[.int .i32 0] 1000) 21) = V0 at HS ht hb1 L1 hsz
    have K1 : Hid (Below V0.heap.size V0 w1) := hb1
    clear hn ht hb1 hV0
    go_wp2_with fail
    have n2 := new_full (some ⟨w1.heap.size, 0, none⟩) 1001 (List.replicate 1001 0) _ (Sl.made w1 1001 21 (by omega)) (may_zero 1001) (by rw [List.length_replicate]; omega)
    rw [List.length_replicate] at n2
    refine n2.mono ?_
    rintro e w' ⟨rfl, rfl⟩
    clear n2
    go_wp2_with fail
    have i1 := index_c k 1000 (w1.alloc (.cells (madeCells #[.int .i32 0] 1001) 21)) (by omega) (by omega)
    refine i1.mono ?_
    rintro e w' ⟨⟨at_, hat, rfl⟩, rfl⟩
    clear i1
    go_wp2_with fail
    have p1 : splE (st0 Z) at_ 0 [put] = 3 := splE_ovr (by have := Hs0.out.2; simp [wth, this]; omega) hmp.out (by have := Hs0.out.2; simp [ovr, this])
    refine (L1.out.splice (by (repeat' (first | exact Below.refl _ _ | assumption | refine bdrewN ?_ _ | refine Below.drew ?_ | refine bal ?_ _ | refine bthen ?_ (by assumption)))) at_ 0 (some ⟨w1.heap.size + 1, 0, none⟩) 1 [put] (Sl.lit' _ [put] _ _ (by simp) (by simp) (rng_one hpr.out) _ rfl) (by intro ad ha; simp only [Option.some.injEq] at ha; subst ha; right; simp) (by omega) p1 (splS_bad (by rw [p1]; omega))).mono ?_
    rintro e w3 ⟨rfl, hL3, hb3⟩
    have L3 := hid hL3
    have K3 : Hid (Below V0.heap.size V0 w3) := ((K1.out.alloc K1.out.size _).alloc (by have := K1.out.size; simp; omega) _).trans hb3
    clear hL3 hb3 p1
    go_wp2_with fail
    have f2 : fits (st0 Z) at_ 1 [put] := ⟨by have := Hs0.out.2; omega, by have := Hs0.out.2; simp; omega, by rw [Hs0.out.1]; simp⟩
    have p2 := spl_ok f2 hmp.out (by simp)
    have t2 := spl_tot (st0_wf (l := Z) (by rw [HL.out]; omega)) f2
    have u2 := spl_alen (st0 Z) at_ 1 [put]
    rw [Hs0.out.2] at t2
    rw [Hs0.out.1] at u2
    generalize hst1 : spl (st0 Z) at_ 1 [put] = st1 at p2 t2 u2
    simp only [List.length_cons, List.length_nil] at t2 u2
    have p2a := p2.1
    have p2b := p2.2
    rw [show ((1 : Nat) : Int) = 1 from rfl] at p2a p2b
    refine (L3.out.splice (by (repeat' (first | exact Below.refl _ _ | assumption | refine bdrewN ?_ _ | refine Below.drew ?_ | refine bal ?_ _ | refine bthen ?_ (by assumption)))) at_ 1 (some ⟨w3.heap.size, 0, none⟩) 1 [put] (Sl.lit' _ [put] _ _ (by simp) (by simp) (rng_one hpr.out) _ rfl) (by intro ad ha; simp only [Option.some.injEq] at ha; subst ha; right; simp) (by omega) p2a p2b).mono ?_
    rintro e w4 ⟨rfl, hL4, hb4⟩
    have L4 := hid hL4
    have K4 : Hid (Below V0.heap.size V0 w4) := (K3.out.alloc K3.out.size _).trans hb4
    have T4 : Hid (tot st1.p = 1000 ∧ st1.a.length = 1) := ⟨by omega, by omega⟩
    clear hL4 hb4 p2 p2a p2b t2 u2 f2 hst1
    go_wp2_with fail
    refine L4.out.len.mono ?_
    rintro e w5 ⟨rfl, hb5⟩
    rw [T4.out.1]
    have L5 := hid (L4.out.on hb5)
    have K5 : Hid (Below V0.heap.size V0 w5) := bthen K4.out hb5
    clear hb5
    go_wp2_with fail
    refine L5.out.added.mono ?_
    rintro e w' ⟨rfl, rfl⟩
    rw [T4.out.2]
    go_wp2
    go_loopw [11] (fun i wr => ∃ (n : Nat) (st : St), n ≤ 19 ∧ i = .int .i64 n ∧ Hid (Lv W V0.heap.size wr pt st) ∧ Hid (tot st.p = 1000 ∧ st.a.length = 1 + 1000 * n) ∧ Hid (Below V0.heap.size V0 wr)) (fun i _ => 19 - (intOf i).toNat)
    case atStart => exact ⟨0, st1, by omega, rfl, L5, T4, K5⟩
    case round =>
      obtain ⟨n, st, hn, rfl, LL, TT, KK⟩ := hrel
      by_cases hlt : n < 19
      · go_wp2_with fail
        have f6 : fits st 0 1000 Z := ⟨by have := TT.out.1; omega, by have := TT.out.1; rw [HL.out]; omega, by have := TT.out.2; rw [HL.out]; omega⟩
        have p6 := spl_ok f6 hmay.out (by simp)
        have t6 := spl_tot LL.out.wf f6
        have u6 := spl_alen st 0 1000 Z
        rw [TT.out.1, HL.out] at t6
        rw [TT.out.2, HL.out] at u6
        have h6 := LL.out.splice (w := wr) (Below.refl _ _) 0 1000 (some ⟨W.heap.size, 0, none⟩) 1000 Z (HS.out.below KK.out (Nat.le_refl _)) (by intro ad ha; simp only [Option.some.injEq] at ha; subst ha; left; simp; omega) (by omega) p6.1 p6.2
        rw [HL.out] at h6
        refine h6.mono ?_
        rintro e w7 ⟨rfl, hL7, hb7⟩
        have L7 := hid hL7
        have K7 : Hid (Below V0.heap.size V0 w7) := KK.out.trans hb7
        have T7' : tot (spl st 0 1000 Z).p = 1000 ∧ (spl st 0 1000 Z).a.length = 1 + 1000 * (n + 1) := by constructor <;> omega
        have T7 := hid T7'
        clear T7'
        generalize spl st 0 1000 Z = st7 at L7 T7
        clear hL7 hb7 h6 p6 t6 u6 f6
        go_wp2
        go_round
        case rel => exact ⟨n + 1, st7, by omega, by go_num, L7, T7, K7⟩
        case measure => simp [intOf]; omega
      · have hn19 : n = 19 := by omega
        subst hn19
        have T19 : Hid (tot st.p = 1000 ∧ st.a.length = 19001) := ⟨TT.out.1, by have := TT.out.2; omega⟩
        clear TT hlt
        go_wp2_with fail
        refine LL.out.added.mono ?_
        rintro e w' ⟨rfl, rfl⟩
        rw [T19.out.2]
        go_wp2_with fail
        have hZl : (Z.take 999).length = 999 := by rw [List.length_take, HL.out]; rfl
        have f6 : fits st 0 1000 (Z.take 999) := ⟨by have := T19.out.1; omega, by have := T19.out.1; rw [hZl]; omega, by have := T19.out.2; rw [hZl]; omega⟩
        have p6 := spl_ok f6 (may_take hmay.out 999) (by simp)
        have t6 := spl_tot LL.out.wf f6
        have u6 := spl_alen st 0 1000 (Z.take 999)
        rw [T19.out.1, hZl] at t6
        rw [T19.out.2, hZl] at u6
        have h6 := LL.out.splice (w := wr) (Below.refl _ _) 0 1000 (some ⟨W.heap.size, 0, none⟩) 1000 (Z.take 999) ((HS.out.below KK.out (Nat.le_refl _)).take 999) (by intro ad ha; simp only [Option.some.injEq] at ha; subst ha; left; simp; omega) (by omega) p6.1 p6.2
        rw [hZl] at h6
        refine h6.mono ?_
        rintro e w7 ⟨rfl, hL7, hb7⟩
        have L7 := hid hL7
        have T7 : Hid (tot (spl st 0 1000 (Z.take 999)).p = 999 ∧ (spl st 0 1000 (Z.take 999)).a.length = 20000) := ⟨by omega, by omega⟩
        generalize spl st 0 1000 (Z.take 999) = st7 at L7 T7
        clear hL7 hb7 h6 p6 t6 u6 f6 hZl
        go_wp2_with fail
        have p8 : splE st7 0 0 [put] = 3 := splE_ovr (by have := T7.out.1; simp [wth, this]) hmp.out (by have := T7.out.1; have := T7.out.2; simp [ovr, *])
        refine (L7.out.splice (by (repeat' (first | exact Below.refl _ _ | assumption | refine bdrewN ?_ _ | refine Below.drew ?_ | refine bal ?_ _ | refine bthen ?_ (by assumption)))) 0 0 (some ⟨w7.heap.size, 0, none⟩) 1 [put] (Sl.lit' _ [put] _ _ (by simp) (by simp) (rng_one hpr.out) _ rfl) (by intro ad ha; simp only [Option.some.injEq] at ha; subst ha; right; simp) (by omega) p8 (splS_bad (by rw [p8]; omega))).mono ?_
        rintro e w8 ⟨rfl, hL8, -⟩
        have L8 := hid hL8
        clear hL8 p8
        go_wp2_with fail
        have f9 : fits st7 0 1 [] := ⟨by have := T7.out.1; omega, by have := T7.out.1; simp; omega, by have := T7.out.2; simp; omega⟩
        have p9 := spl_ok f9 rfl (by simp)
        have t9 := spl_tot L8.out.wf f9
        rw [T7.out.1] at t9
        have h9 := L8.out.splice (w := w8) (Below.refl _ _) 0 1 none 0 [] (Sl.nil _ _) (by intro ad ha; cases ha) (by omega) p9.1 p9.2
        refine h9.mono ?_
        rintro e w9 ⟨rfl, hL9, -⟩
        have L9 := hid hL9
        have T9 : Hid (tot (spl st7 0 1 []).p = 998) := t9
        generalize spl st7 0 1 [] = st9 at L9 T9
        clear hL9 h9 p9 t9 f9
        go_wp2_with fail
        refine L9.out.len.mono ?_
        rintro e w10 ⟨rfl, hb10⟩
        rw [T9.out]
        have L10 := hid (L9.out.on hb10)
        clear hb10
        go_wp2_with fail
        refine (known_c w10).mono ?_
        rintro e w11 ⟨rfl, hb11⟩
        go_wp2
        go_ret
        exact ⟨rfl, bthen L10.out.bel hb11⟩
  | false =>
    have hmp : Hid (may [112] = true) := rfl
    have hpr : Hid (-2147483648 ≤ (112 : Int) ∧ (112 : Int) ≤ 2147483647) := by unfold Hid; omega
    go_wp2_with (go_at_call 31; (with_reducible refine (rsign_c _ _).mono ?_); rintro e w' ⟨rfl, rfl⟩)
    have hn := new_t (some ⟨W.heap.size, 0, none⟩) 1000 Z _ HS.out hmay.out (by rw [HL.out]; omega)
    rw [HL.out] at hn
    refine hn.mono ?_
    rintro e w1 ⟨pt, rfl, ht, hb1⟩
    have L1 := hid (Lv.new (W := W) (bal (Below.refl _ _) _) ht hb1)
    have hsz : (W.alloc (.cells (madeCells #[.int .i32 0] 1000) 21)).heap.size = W.heap.size + 1 := by simp
    generalize hV0 : W.alloc (.cells (madeCells #[.int .i32 0] 1000) 21) = V0 at HS ht hb1 L1 hsz
    have K1 : Hid (Below V0.heap.size V0 w1) := hb1
    clear hn ht hb1 hV0
    go_wp2_with fail
    have n2 := new_full (some ⟨w1.heap.size, 0, none⟩) 1001 (List.replicate 1001 0) _ (Sl.made w1 1001 21 (by omega)) (may_zero 1001) (by rw [List.length_replicate]; omega)
    rw [List.length_replicate] at n2
    refine n2.mono ?_
    rintro e w' ⟨rfl, rfl⟩
    clear n2
    go_wp2_with fail
    have i1 := index_c k 1000 (w1.alloc (.cells (madeCells #[.int .i32 0] 1001) 21)) (by omega) (by omega)
    refine i1.mono ?_
    rintro e w' ⟨⟨at_, hat, rfl⟩, rfl⟩
    clear i1
    go_wp2_with fail
    have p1 : splE (st0 Z) at_ 0 [112] = 3 := splE_ovr (by have := Hs0.out.2; simp [wth, this]; omega) hmp.out (by have := Hs0.out.2; simp [ovr, this])
    refine (L1.out.splice (by (repeat' (first | exact Below.refl _ _ | assumption | refine bdrewN ?_ _ | refine Below.drew ?_ | refine bal ?_ _ | refine bthen ?_ (by assumption)))) at_ 0 (some ⟨w1.heap.size + 1, 0, none⟩) 1 [112] (Sl.lit' _ [112] _ _ (by simp) (by simp) (rng_one hpr.out) _ rfl) (by intro ad ha; simp only [Option.some.injEq] at ha; subst ha; right; simp) (by omega) p1 (splS_bad (by rw [p1]; omega))).mono ?_
    rintro e w3 ⟨rfl, hL3, hb3⟩
    have L3 := hid hL3
    have K3 : Hid (Below V0.heap.size V0 w3) := ((K1.out.alloc K1.out.size _).alloc (by have := K1.out.size; simp; omega) _).trans hb3
    clear hL3 hb3 p1
    go_wp2_with fail
    have f2 : fits (st0 Z) at_ 1 [112] := ⟨by have := Hs0.out.2; omega, by have := Hs0.out.2; simp; omega, by rw [Hs0.out.1]; simp⟩
    have p2 := spl_ok f2 hmp.out (by simp)
    have t2 := spl_tot (st0_wf (l := Z) (by rw [HL.out]; omega)) f2
    have u2 := spl_alen (st0 Z) at_ 1 [112]
    rw [Hs0.out.2] at t2
    rw [Hs0.out.1] at u2
    generalize hst1 : spl (st0 Z) at_ 1 [112] = st1 at p2 t2 u2
    simp only [List.length_cons, List.length_nil] at t2 u2
    have p2a := p2.1
    have p2b := p2.2
    rw [show ((1 : Nat) : Int) = 1 from rfl] at p2a p2b
    refine (L3.out.splice (by (repeat' (first | exact Below.refl _ _ | assumption | refine bdrewN ?_ _ | refine Below.drew ?_ | refine bal ?_ _ | refine bthen ?_ (by assumption)))) at_ 1 (some ⟨w3.heap.size, 0, none⟩) 1 [112] (Sl.lit' _ [112] _ _ (by simp) (by simp) (rng_one hpr.out) _ rfl) (by intro ad ha; simp only [Option.some.injEq] at ha; subst ha; right; simp) (by omega) p2a p2b).mono ?_
    rintro e w4 ⟨rfl, hL4, hb4⟩
    have L4 := hid hL4
    have K4 : Hid (Below V0.heap.size V0 w4) := (K3.out.alloc K3.out.size _).trans hb4
    have T4 : Hid (tot st1.p = 1000 ∧ st1.a.length = 1) := ⟨by omega, by omega⟩
    clear hL4 hb4 p2 p2a p2b t2 u2 f2 hst1
    go_wp2_with fail
    refine L4.out.len.mono ?_
    rintro e w5 ⟨rfl, hb5⟩
    rw [T4.out.1]
    have L5 := hid (L4.out.on hb5)
    have K5 : Hid (Below V0.heap.size V0 w5) := bthen K4.out hb5
    clear hb5
    go_wp2_with fail
    refine L5.out.added.mono ?_
    rintro e w' ⟨rfl, rfl⟩
    rw [T4.out.2]
    go_wp2
    go_loopw [11] (fun i wr => ∃ (n : Nat) (st : St), n ≤ 19 ∧ i = .int .i64 n ∧ Hid (Lv W V0.heap.size wr pt st) ∧ Hid (tot st.p = 1000 ∧ st.a.length = 1 + 1000 * n) ∧ Hid (Below V0.heap.size V0 wr)) (fun i _ => 19 - (intOf i).toNat)
    case atStart => exact ⟨0, st1, by omega, rfl, L5, T4, K5⟩
    case round =>
      obtain ⟨n, st, hn, rfl, LL, TT, KK⟩ := hrel
      by_cases hlt : n < 19
      · go_wp2_with fail
        have f6 : fits st 0 1000 Z := ⟨by have := TT.out.1; omega, by have := TT.out.1; rw [HL.out]; omega, by have := TT.out.2; rw [HL.out]; omega⟩
        have p6 := spl_ok f6 hmay.out (by simp)
        have t6 := spl_tot LL.out.wf f6
        have u6 := spl_alen st 0 1000 Z
        rw [TT.out.1, HL.out] at t6
        rw [TT.out.2, HL.out] at u6
        have h6 := LL.out.splice (w := wr) (Below.refl _ _) 0 1000 (some ⟨W.heap.size, 0, none⟩) 1000 Z (HS.out.below KK.out (Nat.le_refl _)) (by intro ad ha; simp only [Option.some.injEq] at ha; subst ha; left; simp; omega) (by omega) p6.1 p6.2
        rw [HL.out] at h6
        refine h6.mono ?_
        rintro e w7 ⟨rfl, hL7, hb7⟩
        have L7 := hid hL7
        have K7 : Hid (Below V0.heap.size V0 w7) := KK.out.trans hb7
        have T7' : tot (spl st 0 1000 Z).p = 1000 ∧ (spl st 0 1000 Z).a.length = 1 + 1000 * (n + 1) := by constructor <;> omega
        have T7 := hid T7'
        clear T7'
        generalize spl st 0 1000 Z = st7 at L7 T7
        clear hL7 hb7 h6 p6 t6 u6 f6
        go_wp2
        go_round
        case rel => exact ⟨n + 1, st7, by omega, by go_num, L7, T7, K7⟩
        case measure => simp [intOf]; omega
      · have hn19 : n = 19 := by omega
        subst hn19
        have T19 : Hid (tot st.p = 1000 ∧ st.a.length = 19001) := ⟨TT.out.1, by have := TT.out.2; omega⟩
        clear TT hlt
        go_wp2_with fail
        refine LL.out.added.mono ?_
        rintro e w' ⟨rfl, rfl⟩
        rw [T19.out.2]
        go_wp2_with fail
        have hZl : (Z.take 999).length = 999 := by rw [List.length_take, HL.out]; rfl
        have f6 : fits st 0 1000 (Z.take 999) := ⟨by have := T19.out.1; omega, by have := T19.out.1; rw [hZl]; omega, by have := T19.out.2; rw [hZl]; omega⟩
        have p6 := spl_ok f6 (may_take hmay.out 999) (by simp)
        have t6 := spl_tot LL.out.wf f6
        have u6 := spl_alen st 0 1000 (Z.take 999)
        rw [T19.out.1, hZl] at t6
        rw [T19.out.2, hZl] at u6
        have h6 := LL.out.splice (w := wr) (Below.refl _ _) 0 1000 (some ⟨W.heap.size, 0, none⟩) 1000 (Z.take 999) ((HS.out.below KK.out (Nat.le_refl _)).take 999) (by intro ad ha; simp only [Option.some.injEq] at ha; subst ha; left; simp; omega) (by omega) p6.1 p6.2
        rw [hZl] at h6
        refine h6.mono ?_
        rintro e w7 ⟨rfl, hL7, hb7⟩
        have L7 := hid hL7
        have T7 : Hid (tot (spl st 0 1000 (Z.take 999)).p = 999 ∧ (spl st 0 1000 (Z.take 999)).a.length = 20000) := ⟨by omega, by omega⟩
        generalize spl st 0 1000 (Z.take 999) = st7 at L7 T7
        clear hL7 hb7 h6 p6 t6 u6 f6 hZl
        go_wp2_with fail
        have p8 : splE st7 0 0 [112] = 3 := splE_ovr (by have := T7.out.1; simp [wth, this]) hmp.out (by have := T7.out.1; have := T7.out.2; simp [ovr, *])
        refine (L7.out.splice (by (repeat' (first | exact Below.refl _ _ | assumption | refine bdrewN ?_ _ | refine Below.drew ?_ | refine bal ?_ _ | refine bthen ?_ (by assumption)))) 0 0 (some ⟨w7.heap.size, 0, none⟩) 1 [112] (Sl.lit' _ [112] _ _ (by simp) (by simp) (rng_one hpr.out) _ rfl) (by intro ad ha; simp only [Option.some.injEq] at ha; subst ha; right; simp) (by omega) p8 (splS_bad (by rw [p8]; omega))).mono ?_
        rintro e w8 ⟨rfl, hL8, -⟩
        have L8 := hid hL8
        clear hL8 p8
        go_wp2_with fail
        have f9 : fits st7 0 1 [] := ⟨by have := T7.out.1; omega, by have := T7.out.1; simp; omega, by have := T7.out.2; simp; omega⟩
        have p9 := spl_ok f9 rfl (by simp)
        have t9 := spl_tot L8.out.wf f9
        rw [T7.out.1] at t9
        have h9 := L8.out.splice (w := w8) (Below.refl _ _) 0 1 none 0 [] (Sl.nil _ _) (by intro ad ha; cases ha) (by omega) p9.1 p9.2
        refine h9.mono ?_
        rintro e w9 ⟨rfl, hL9, -⟩
        have L9 := hid hL9
        have T9 : Hid (tot (spl st7 0 1 []).p = 998) := t9
        generalize spl st7 0 1 [] = st9 at L9 T9
        clear hL9 h9 p9 t9 f9
        go_wp2_with fail
        refine L9.out.len.mono ?_
        rintro e w10 ⟨rfl, hb10⟩
        rw [T9.out]
        have L10 := hid (L9.out.on hb10)
        clear hb10
        go_wp2_with fail
        refine (known_c w10).mono ?_
        rintro e w11 ⟨rfl, hb11⟩
        go_wp2
        go_ret
        exact ⟨rfl, bthen L10.out.bel hb11⟩
end Go.Proofs.Ytogodddkbnkeiaa
