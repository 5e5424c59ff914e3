/- TabsParts: its walk. -/
import Derived.Test.YthkkpcfmifhllaaTbf
import Derived.Deep.RegionLaw
import Derived.Deep.DeepCutAuto
namespace Go.Proofs.Ythkkpcfmifhllaa
open Go.RowKit Go.ChangeShapes

theorem up_gt {l : List Fl} {k t : Nat} (ht : t < (ordF l).length) : ((ordI l).map fun x => if (k : Int) ≤ x then x + 1 else x).take (t + 1) = ((ordI l).map fun x => if (k : Int) ≤ x then x + 1 else x).take t ++ [if (k : Int) ≤ gt (ordI l) t then gt (ordI l) t + 1 else gt (ordI l) t] := by
  have h : t < ((ordI l).map fun x => if (k : Int) ≤ x then x + 1 else x).length := by rw [List.length_map, ordI_len]; exact ht
  rw [take_succ h, gt_get h]
  congr 2
  rw [List.getElem_map, gt_get (by rw [ordI_len]; exact ht)]
theorem ordI_more {l : List Fl} {k : Nat} (hk : k ≤ l.length) {m : Fl} (hm : stopF m = false) : ordI (l.take k ++ [m] ++ l.drop k) = (ordI l).map fun x => if (k : Int) ≤ x then x + 1 else x := by
  unfold ordI
  rw [List.append_assoc, List.singleton_append, ord_more hk hm, List.map_map, List.map_map]
  refine List.map_congr_left fun i _ => ?_
  show ((upF k i : Nat) : Int) = if (k : Int) ≤ (i : Int) then (i : Int) + 1 else (i : Int)
  unfold upF
  by_cases h : k ≤ i
  · rw [if_pos h, if_pos (by omega)]; rfl
  · rw [if_neg h, if_neg (by omega)]
set_option maxRecDepth 20000 in
set_option maxHeartbeats 16000000 in
theorem parts18_w (a : Option Addr) (c : Nat) (l : List Fl) (at_ num : Int) (w : World) (hl : RSl encFl w a l) :
    Calls Try.prog 5 #[.slice a l.length c, .int .i64 at_, .int .i64 num] w fun e w' => e = .returned (.bool true) ∧ Below w.heap.size w w' := by
  have HL := hid hl
  go_enter Try.func5, Try.ntmps5
  clear hl
  go_wp2_with fail
  refine (few_c w a c l HL.out).mono ?_
  rintro _ w1 ⟨a2, c2, M, rfl, o2, hM, hM2, hok2, b1⟩
  have O2 := hid o2; have HOK := hid hok2; have B1 := hid b1
  clear o2 hok2 b1 HL hM2
  have hix := kindex_c at_ (M.length + 1) w1 (by omega) (by omega)
  have HIX := hid hix; clear hix
  go_wp2_with fail
  refine (HIX.out).mono ?_
  rintro _ w2 ⟨⟨k, hk, rfl⟩, rfl⟩
  clear HIX
  obtain ⟨p, hp⟩ : ∃ p, bits .and .i64 num 7 = p := ⟨_, rfl⟩
  have b7 : 0 ≤ p ∧ p ≤ 7 := by rw [← hp]; exact bandle num 7 (by decide)
  obtain ⟨a3, j1, D1, HD1, s1, hD1, r1⟩ := rslice_to Try.tyFl O2.out.sl k c2 (by omega) O2.out.cap
  obtain ⟨a4, j2, D2, HD2, s2, hD2, r2⟩ := rslice_from Try.tyFl O2.out.sl k c2 (by omega) O2.out.cap
  have l1 : D1.length ≤ 40 := by rw [HD1.out, List.length_take]; omega
  have l2 : D2.length ≤ 40 := by rw [HD2.out, List.length_drop]; omega
  have l3 : Hid ((M.take k ++ [flN 2 p] ++ M.drop k).length = M.length + 1) := by show _ = _; simp; omega
  have S1 : Hid (∀ w', Below w1.heap.size w1 w' → RSl encFl w' a3 D1) := hid fun w' hb => s1.bel hb
  have S2 : Hid (∀ w', Below w1.heap.size w1 w' → RSl encFl w' a4 D2) := hid fun w' hb => s2.bel hb
  have HL1 := hid l1; have HL2 := hid l2
  have hz := B1.out.size
  clear s1 s2
  go_upto_region 3 with fail
  go_cut [8] (fun v wx => ∃ (a7 : Option Addr) (c7 : Nat), v = .slice a7 (M.take k ++ [flN 2 p] ++ M.drop k).length c7 ∧ Hid (RSl encFl wx a7 (M.take k ++ [flN 2 p] ++ M.drop k)) ∧ Hid (Below w1.heap.size w1 wx))
  case first =>
    go_region_law
      (first
        | (((refine step_rapp Try.tyFl rfl ((.const (.slice none 0 0))) (.tmp 21) rfl w1.heap.size none a3 0 D1.length 0 j1 [] D1 (by first | (simp [Act.eval]; done) | (simp [Act.eval, Act.put]; done)) (by first | rfl | simp | omega) (ROwn.nil _ _) (by first | (simp [Act.eval]; done) | (simp [Act.eval, Act.put]; done)) (by first | rfl | simp | omega) (S1.out _ (by (repeat' (first | exact Below.refl _ _ | assumption | refine bdrewN ?_ _ | refine Below.drew ?_ | refine bal ?_ _ | refine bthen ?_ (by assumption))))) (by show _ ≤ 1099511627776; first | omega | (simp; omega)) (by first | exact Nat.le_refl _ | (simp; done)) ?_); intro a5 c5 w5 L5 Hl5 ho5 hb5 hk5 hA5; have HA5 := hid hA5; clear hA5; have Ho5 := hid ho5; clear ho5; have Hk5 := hid hk5; clear hk5; have hz5 := hb5.size); have X5 : Below w1.heap.size w1 w5 := (Below.trans (by (repeat' (first | exact Below.refl _ _ | assumption | refine bdrewN ?_ _ | refine Below.drew ?_ | refine bal ?_ _ | refine bthen ?_ (by assumption)))) hb5); have X5z := X5.size; have l5 : L5.length ≤ 40 := (by rw [Hl5.out]; simpa using HL1.out))
        | (((refine step_rapp Try.tyFl rfl (.tmp 22) (.tmp 26) rfl w1.heap.size a5 (some ⟨w5.heap.size, 0, none⟩) L5.length 1 c5 1 L5 [flN 2 p] (by first | (simp [Act.eval]; done) | (simp [Act.eval, Act.put]; done)) (by first | rfl | simp | omega) (by first | exact Ho5.out | exact Ho5.out.grow (by (repeat' (first | exact Below.refl _ _ | assumption | refine bdrewN ?_ _ | refine Below.drew ?_ | refine bal ?_ _ | refine bthen ?_ (by assumption))))) (by first | (simp [Act.eval]; done) | (simp [Act.eval, Act.put]; done)) (by first | rfl | simp | omega) (by first | exact (RSl.lit (E := encFl) _ (flN 2 p) 33 _ rfl #[.int .i64 2, .int .i64 p, .int .i64 0, .int .i64 0, .int .i64 0, .int .i64 0, .slice none 0 0, .slice none 0 0, .slice none 0 0, .bool false, .bool false] rfl (by decide)) | exact (RSl.lit (E := encFl) _ (flN 2 p) 33 _ rfl #[.int .i64 2, .int .i64 p, .int .i64 0, .int .i64 0, .int .i64 0, .int .i64 0, .slice none 0 0, .slice none 0 0, .slice none 0 0, .bool false, .bool false] rfl (by decide)).drew) (by show _ ≤ 1099511627776; first | omega | (simp; omega)) (by first | omega | (simp; omega)) ?_); intro a6 c6 w6 L6 Hl6 ho6 hb6 hk6 hA6; have HA6 := hid hA6; clear hA6; have Ho6 := hid ho6; clear ho6; have Hk6 := hid hk6; clear hk6; have hz6 := hb6.size); have X6 : Below w1.heap.size w1 w6 := (X5.trans (Below.trans (by first | exact Below.refl _ _ | exact (Below.refl _ _).drew | exact (Below.refl _ _).alloc (by omega) _ | exact ((Below.refl _ _).alloc (by omega) _).drew) hb6)); have X6z := X6.size; have l6 : L6.length ≤ 41 := (by rw [Hl6.out]; simpa using l5))
        | (((refine step_rapp Try.tyFl rfl (.tmp 22) (.tmp 26) rfl w1.heap.size a5 (some ⟨w1.heap.size, 0, none⟩) L5.length 1 c5 1 L5 [flN 2 p] (by first | (simp [Act.eval]; done) | (simp [Act.eval, Act.put]; done)) (by first | rfl | simp | omega) Ho5.out (by first | (simp [Act.eval]; done) | (simp [Act.eval, Act.put]; done)) (by first | rfl | simp | omega) (by first | exact RSl.kpt (RSl.lit (E := encFl) _ (flN 2 p) 33 _ rfl #[.int .i64 2, .int .i64 p, .int .i64 0, .int .i64 0, .int .i64 0, .int .i64 0, .slice none 0 0, .slice none 0 0, .slice none 0 0, .bool false, .bool false] rfl (by decide)) (fun _ _ ⟨_, h, _⟩ => by cases h) Hk5.out | exact RSl.kpt (RSl.lit (E := encFl) _ (flN 2 p) 33 _ rfl #[.int .i64 2, .int .i64 p, .int .i64 0, .int .i64 0, .int .i64 0, .int .i64 0, .slice none 0 0, .slice none 0 0, .slice none 0 0, .bool false, .bool false] rfl (by decide)).drew (fun _ _ ⟨_, h, _⟩ => by cases h) Hk5.out) (by show _ ≤ 1099511627776; first | omega | (simp; omega)) (by first | omega | (simp; omega)) ?_); intro a6 c6 w6 L6 Hl6 ho6 hb6 hk6 hA6; have HA6 := hid hA6; clear hA6; have Ho6 := hid ho6; clear ho6; have Hk6 := hid hk6; clear hk6; have hz6 := hb6.size); have X6 : Below w1.heap.size w1 w6 := (X5.trans (Below.trans (by first | exact Below.refl _ _ | exact (Below.refl _ _).drew) hb6)); have X6z := X6.size; have l6 : L6.length ≤ 41 := (by rw [Hl6.out]; simpa using l5))
        | (((refine step_rapp Try.tyFl rfl (.tmp 27) (.tmp 30) rfl w1.heap.size a6 a4 L6.length D2.length c6 j2 L6 D2 (by first | (simp [Act.eval]; done) | (simp [Act.eval, Act.put]; done)) (by first | rfl | simp | omega) (by first | exact Ho6.out | exact Ho6.out.grow (by (repeat' (first | exact Below.refl _ _ | assumption | refine bdrewN ?_ _ | refine Below.drew ?_ | refine bal ?_ _ | refine bthen ?_ (by assumption))))) (by first | (simp [Act.eval]; done) | (simp [Act.eval, Act.put]; done)) (by first | rfl | simp | omega) (S2.out _ (by (repeat' (first | exact Below.refl _ _ | assumption | refine bdrewN ?_ _ | refine Below.drew ?_ | refine bal ?_ _ | refine bthen ?_ (by assumption))))) (by show _ ≤ 1099511627776; omega) (by first | omega | (simp; omega)) ?_); intro a7 c7 w7 L7 Hl7 ho7 hb7 hk7 hA7; have HA7 := hid hA7; clear hA7; have Ho7 := hid ho7; clear ho7; have Hk7 := hid hk7; clear hk7; have hz7 := hb7.size); have X7 : Below w1.heap.size w1 w7 := X6.trans hb7))
    all_goals go_wp2_with fail
    all_goals go_meet
    all_goals
      have hL : Hid (L7 = M.take k ++ [flN 2 p] ++ M.drop k) := (by show _ = _; rw [Hl7.out, Hl6.out, Hl5.out, List.nil_append, HD1.out, HD2.out])
      rw [← hL.out]
      exact ⟨a7, c7, rfl, (by first | exact Ho7.out.sl | exact Ho7.out.sl.drew), (by first | exact X7 | exact X7.drew)⟩
  case rest =>
    obtain ⟨a7, c7, rfl, HM7, B7⟩ := hcut
    have BW : Hid (Below w.heap.size w wc) := B1.out.trans (B7.out.mono hz)
    have HMw : Hid (RSl encFl wc a2 M) := O2.out.sl.bel B7.out
    have HOK7 : Hid (OkF (M.take k ++ [flN 2 p] ++ M.drop k)) := fun m hm => by
      rcases List.mem_append.1 hm with h | h
      · rcases List.mem_append.1 h with h | h
        · exact HOK.out m (List.mem_of_mem_take h)
        · rw [List.mem_singleton.1 h]; exact ⟨by show _ ≤ (2 : Int) ∧ (2 : Int) ≤ _; omega, by show _ ≤ p ∧ p ≤ _; omega⟩
      · exact HOK.out m (List.mem_of_mem_drop h)
    have hmore : Hid (ordI (M.take k ++ [flN 2 p] ++ M.drop k) = (ordI M).map fun x => if (k : Int) ≤ x then x + 1 else x) := ordI_more (by omega) rfl
    obtain ⟨R, hR⟩ : ∃ R, R = M.take k ++ [flN 2 p] ++ M.drop k := ⟨_, rfl⟩
    rw [← hR] at HM7 HOK7 hmore l3
    rw [← hR]
    clear hR
    have hil := hid (ordI_len M)
    have hol : (ordI M).length ≤ 40 := by rw [ordI_len]; have := ordF_len M; omega
    obtain ⟨W, hW⟩ : ∃ W, W = (ordI M).map fun x => if (k : Int) ≤ x then x + 1 else x := ⟨_, rfl⟩
    have HWl : Hid (W.length = (ordI M).length) := by show _ = _; rw [hW]; simp
    have HWs : Hid (∀ t, t < (ordF M).length → W.take (t + 1) = W.take t ++ [if (k : Int) ≤ gt (ordI M) t then gt (ordI M) t + 1 else gt (ordI M) t]) := fun t ht => by rw [hW]; exact up_gt ht
    rw [← hW] at hmore
    clear hW
    have HXm := order_c wc a2 c2 M HMw.out HOK.out (by omega)
    have HXm' := hid HXm; clear HXm
    go_wp2_with fail
    refine HXm'.out.mono ?_
    rintro _ w3 ⟨a8, c8, rfl, o8, b8⟩
    have O8 := hid o8; have B8 := hid b8
    clear o8 b8 HXm'
    go_wp2
    go_loopw [35, 9] (fun v o wr => ∃ (t c9 : Nat) (a9 : Option Addr), t ≤ (ordI M).length ∧ v = .int .i64 t ∧ o = .slice a9 (W.take t).length c9 ∧ Hid (I.Own wr w3.heap.size a9 c9 (W.take t)) ∧ Hid (Below w3.heap.size w3 wr)) (fun v _ _ => (ordI M).length - (intOf v).toNat)
    case atStart => exact ⟨0, 0, none, Nat.zero_le _, rfl, rfl, hid (I.Own.nil _ _), hid (Below.refl _ _)⟩
    case round =>
      obtain ⟨t, c9, a9, ht, rfl, rfl, HO9, HB9⟩ := hrel
      have hwt : (W.take t).length ≤ 40 := by rw [List.length_take]; omega
      by_cases hlt : t < (ordI M).length
      · have HOr : Hid (I.Own wr wc.heap.size a8 c8 (ordI M)) := O8.out.grow HB9.out
        obtain ⟨b, o, rfl, hc⟩ := HOr.out.sl.at hlt
        have ct := hc t hlt
        have hst := HWs.out t (by have := hil.out; omega)
        obtain ⟨x, hx⟩ : ∃ x, x = gt (ordI M) t := ⟨_, rfl⟩
        have hxr : 0 ≤ x ∧ x < 80 := by
          rw [hx, ordI_gt M (by have := hil.out; omega)]
          have h1 := ordF_at (l := M) (k := t) (by have := hil.out; omega)
          have e1 : (ordF M).getD t 0 = (ordF M)[t]'(by have := hil.out; omega) := by simp [List.getD, List.getElem?_eq_getElem (show t < (ordF M).length by have := hil.out; omega)]
          rw [e1]; omega
        rw [← hx] at ct hst
        clear hx hc
        have z9 : w3.heap.size ≤ wr.heap.size := HB9.out.size
        by_cases hkx : (k : Int) ≤ x
        · have z1 : decide (x ≥ (k : Int)) = true := decide_eq_true hkx
          rw [if_pos hkx] at hst
          have Hst := hid hst; clear hst
          have hwx : IntKind.i64.wrap (x + 1) = x + 1 := by rw [IntKind.wrap_i64]; omega
          go_wp2_with ((at_builtin; (refine I.wpL_appn rfl (.tmp 44) (.tmp 46) rfl w3.heap.size a9 (some ⟨wr.heap.size, 0, none⟩) (W.take t).length 1 c9 1 (W.take t) [x + 1] rfl (by first | rfl | simp | omega) (HO9.out.grow ((Below.refl _ _).alloc (Nat.le_refl _) _)) rfl (by first | rfl | simp | omega) (I.Sl.lit' wr [x + 1] _ _ rfl (by simp) (I.rng_one (by omega)) _ rfl) (by simp; omega) (by simp; omega) ?_); intro a5 c5 w5 L5 Hl5 ho5 hb5 hk5 hA5; have HA5 := hid hA5; clear hA5; have Ho5 := hid ho5; clear ho5; have Hk5 := hid hk5; clear hk5; have hz5 := hb5.size))
          go_round
          case rel => exact ⟨t + 1, c5, a5, hlt, by go_num, by rw [Hst.out, ← Hl5.out], by rw [Hst.out, ← Hl5.out]; exact Ho5.out, HB9.out.trans ((((Below.refl _ _).alloc (Nat.le_refl _) _).mono z9).trans hb5)⟩
          case measure => simp [intOf]; omega
        · have z1 : decide (x ≥ (k : Int)) = false := decide_eq_false hkx
          rw [if_neg hkx] at hst
          have Hst := hid hst; clear hst
          go_wp2_with ((at_builtin; (refine I.wpL_appn rfl (.tmp 44) (.tmp 46) rfl w3.heap.size a9 (some ⟨wr.heap.size, 0, none⟩) (W.take t).length 1 c9 1 (W.take t) [x] rfl (by first | rfl | simp | omega) (HO9.out.grow ((Below.refl _ _).alloc (Nat.le_refl _) _)) rfl (by first | rfl | simp | omega) (I.Sl.lit' wr [x] _ _ rfl (by simp) (I.rng_one (by omega)) _ rfl) (by simp; omega) (by simp; omega) ?_); intro a5 c5 w5 L5 Hl5 ho5 hb5 hk5 hA5; have HA5 := hid hA5; clear hA5; have Ho5 := hid ho5; clear ho5; have Hk5 := hid hk5; clear hk5; have hz5 := hb5.size))
          go_round
          case rel => exact ⟨t + 1, c5, a5, hlt, by go_num, by rw [Hst.out, ← Hl5.out], by rw [Hst.out, ← Hl5.out]; exact Ho5.out, HB9.out.trans ((((Below.refl _ _).alloc (Nat.le_refl _) _).mono z9).trans hb5)⟩
          case measure => simp [intOf]; omega
      · obtain rfl : t = (ordI M).length := by omega
        have eW : Hid (W.take (ordI M).length = W) := by show _ = _; rw [← HWl.out, List.take_length]
        rw [eW.out] at HO9 hwt
        rw [eW.out]
        have Bx : Hid (Below wc.heap.size wc wr) := B8.out.trans (HB9.out.mono B8.out.size)
        have hX2 := order_c wr a7 c7 R (HM7.out.bel Bx.out) HOK7.out (by have := l3.out; omega)
        rw [hmore.out] at hX2
        have HX2 := hid hX2; clear hX2
        go_wp2_with fail
        refine HX2.out.mono ?_
        rintro _ w4 ⟨a10, c10, rfl, o10, b10⟩
        have O10 := hid o10
        have O9 := hid (HO9.out.grow b10)
        have B10 : Hid (Below wc.heap.size wc w4) := Bx.out.trans (b10.mono Bx.out.size)
        clear o10 b10 HX2
        go_wp2_with fail
        refine (sameInts_c a10 a9 c10 c9 W W w4 O10.out.sl O9.out.sl).mono ?_
        rintro _ w5 ⟨rfl, n5, rfl⟩
        rw [eqM_self]
        have B11 : Hid (Below wc.heap.size wc (w4.drewN n5)) := bdrewN B10.out n5
        generalize w4.drewN n5 = w5 at B11 ⊢
        go_wp2_with fail
        refine (known18_c w5).mono ?_
        rintro _ w6 ⟨rfl, b6⟩
        have B12 : Hid (Below wc.heap.size wc w6) := B11.out.trans (b6.mono B11.out.size)
        clear b6
        go_wp2
        go_ret
        exact ⟨rfl, BW.out.trans (B12.out.mono BW.out.size)⟩
end Go.Proofs.Ythkkpcfmifhllaa
