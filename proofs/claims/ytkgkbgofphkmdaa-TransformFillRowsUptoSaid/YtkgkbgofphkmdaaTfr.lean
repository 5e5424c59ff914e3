/- TransformFillRows: the walk. -/
import Derived.Test.YtkgkbgofphkmdaaFsX
import Derived.Test.YtkgkbgofphkmdaaKeepR
import Derived.Test.YtkgkbgofphkmdaaFoo
namespace Go.Proofs.Ytkgkbgofphkmdaa
open Go.RowKit FmM

theorem tape_new {W V : World} {a0 : Option Addr} {l0 : List Int} {c0 : Nat} (hV : V = W.alloc (.cells #[.slice a0 l0.length c0, .int .i64 0] 42)) : TapeAt V W.heap.size a0 l0 c0 0 := by
  subst hV
  exact ⟨by simp, by rw [cell_alloc_new]; rfl, by rw [cell_alloc_new]; rfl, by simp, by omega⟩
/-- what a format off a tape leaves: the format's text with a sign behind it, then the scan -/
theorem fillC_app {L M : List Fp} {Gs : List Tx} (h : mayF (L ++ M) = true) (hl : mayF L = true) (hm : mayF M = true) : fillC (L ++ M) Gs = fillC L Gs ++ fillC M Gs := by
  unfold fillC
  rw [if_pos h, if_pos hl, if_pos hm, fillF_app]
theorem fillC_len {L : List Fo} {Gs : List Tx} {K : Nat} (h : ∀ m, m ∈ L → m.text.length ≤ K ∧ m.els.length ≤ K) (hG : ∀ m, m ∈ Gs → m.l.length ≤ K) : (fillC (fps L) Gs).length ≤ L.length * K := by
  unfold fillC
  split
  · rw [← fps_len]
    refine fillF_len _ _ fun f hf => ?_
    obtain ⟨m, hm, rfl⟩ := List.mem_map.1 hf
    exact ⟨(h m hm).1, (h m hm).2, gtx_len hG _⟩
  · simp
set_option maxRecDepth 20000 in
set_option maxHeartbeats 60000000 in
theorem fillrows_w (a0 : Option Addr) (c0 : Nat) (l0 : List Int) (a1 : Option Addr) (c1 : Nat) (l1 : List Int) (a2 : Option Addr) (c2 : Nat) (Gs : List Tx) (W : World) (h0 : I.Sl W a0 l0) (h1 : I.Sl W a1 l1) (h2 : TSl W a2 Gs ∧ Txs W Gs ∧ ∀ m, m ∈ Gs → m.l.length ≤ 1048576) :
    Calls Try.prog 4 #[.slice a0 l0.length c0, .slice a1 l1.length c1, .slice a2 Gs.length c2] W fun e w' => e = .returned (.bool true) ∧ Below W.heap.size W w' := by
  obtain ⟨V, hV⟩ : ∃ V, V = W.alloc (.cells #[.slice a0 l0.length c0, .int .i64 0] 42) := ⟨_, rfl⟩
  have tV := tape_new hV
  have bV : Below W.heap.size W V := by subst hV; (repeat' (first | exact Below.refl _ _ | assumption | refine bdrewN ?_ _ | refine Below.drew ?_ | refine bal ?_ _ | refine bthen ?_ (by assumption)))
  have zV : V.heap.size = W.heap.size + 1 := by subst hV; simp
  have C := hid (format_c W.heap.size a0 l0 c0 V ⟨_, tV⟩ fun w' hb => h0.bel (bV.trans hb))
  have H1 := hid h1
  have H2 := hid h2
  have BV := hid bV
  clear tV h0 h1 h2 bV
  go_enter Try.func4, Try.ntmps4
  go_wp2_with fail
  rw [← hV]; clear hV
  refine C.out.mono ?_
  rintro _ w1 ⟨aF, cF, F, rfl, ho, hl, -, hk⟩
  have B1 := hid (BV.out.trans (hk.belowp (by omega)))
  have O1 := hid ho
  have L1 := hid hl
  have z1 := hk.size
  clear ho hl hk C
  go_wp2_with (at_builtin; (refine wpL_appn rfl (.tmp 19) (.tmp 20) rfl V.heap.size aF (some ⟨w1.heap.size, 0, none⟩) F.length 1 cF 1 F [47] rfl (by first | rfl | simp | omega) (O1.out.grow (by (repeat' (first | exact Below.refl _ _ | assumption | refine bdrewN ?_ _ | refine Below.drew ?_ | refine bal ?_ _ | refine bthen ?_ (by assumption))))) rfl (by first | rfl | simp | omega) (Sl.lit' _ [47] _ _ (by simp) (by simp) (by simp [rng]) _ rfl) (by have := L1.out; simp; omega) (by simp; omega) ?_); intro a5 c5 w5 L5 Hl5 ho5 hb5 hk5 hA5; have HA5 := hid hA5; clear hA5; have Ho5 := hid ho5; clear ho5; have Hk5 := hid hk5; clear hk5; have hz5 := hb5.size)
  have B5 : Hid (Below W.heap.size W w5) := hid (B1.out.trans ((((Below.refl V.heap.size w1).alloc z1 _).trans hb5).mono (by omega)))
  have l5 : L5.length ≤ 61 := by rw [Hl5.out, List.length_append]; have := L1.out; simp; omega
  have SC := hid (fscan_c a5 c5 L5 w5 Ho5.out.sl (by omega))
  refine SC.out.mono ?_
  rintro _ w6 ⟨af, cf, LA, on, b, rfl, hsc, hl6, b6⟩
  have FA := hid (hsc.fml (by omega) (by omega))
  have B6 := hid (B5.out.trans (b6.mono B5.out.size))
  have z6 := B6.out.size
  clear hsc b6 SC Hl5 hb5 Hk5 HA5 Ho5 hz5 l5 B5 B1 O1 L1 z1 hl6
  obtain ⟨V7, hV7⟩ : ∃ V, V = w6.alloc (.cells #[.slice a1 l1.length c1, .int .i64 0] 42) := ⟨_, rfl⟩
  have tV := tape_new hV7
  have bV7 : Below w6.heap.size w6 V7 := by subst hV7; (repeat' (first | exact Below.refl _ _ | assumption | refine bdrewN ?_ _ | refine Below.drew ?_ | refine bal ?_ _ | refine bthen ?_ (by assumption)))
  have zV7 : V7.heap.size = w6.heap.size + 1 := by subst hV7; simp
  have B7 := hid (B6.out.trans (bV7.mono z6))
  have C := hid (format_c w6.heap.size a1 l1 c1 V7 ⟨_, tV⟩ fun w' hb => H1.out.bel (B7.out.trans (hb.mono z6)))
  have BV7 := hid bV7
  clear tV bV7
  go_wp2_with fail
  rw [← hV7]; clear hV7
  refine C.out.mono ?_
  rintro _ w8 ⟨aF, cF, F, rfl, ho, hl, -, hk⟩
  have b8 : Below w6.heap.size V7 w8 := hk.belowp (by omega)
  have B8 := hid (B7.out.trans (b8.mono z6))
  have b68 := hid (BV7.out.trans b8)
  have O8 := hid ho
  have L8 := hid hl
  have z8 := hk.size
  clear ho hl hk C b8
  go_wp2_with (at_builtin; (refine wpL_appn rfl (.tmp 30) (.tmp 31) rfl V7.heap.size aF (some ⟨w8.heap.size, 0, none⟩) F.length 1 cF 1 F [47] rfl (by first | rfl | simp | omega) (O8.out.grow (by (repeat' (first | exact Below.refl _ _ | assumption | refine bdrewN ?_ _ | refine Below.drew ?_ | refine bal ?_ _ | refine bthen ?_ (by assumption))))) rfl (by first | rfl | simp | omega) (Sl.lit' _ [47] _ _ (by simp) (by simp) (by simp [rng]) _ rfl) (by have := L8.out; simp; omega) (by simp; omega) ?_); intro a9 c9 w9 L9 Hl9 ho9 hb9 hk9 hA9; have HA9 := hid hA9; clear hA9; have Ho9 := hid ho9; clear ho9; have Hk9 := hid hk9; clear hk9; have hz9 := hb9.size)
  have b9 : Below V7.heap.size w8 w9 := ((Below.refl V7.heap.size w8).alloc z8 _).trans hb9
  have b69 := hid (b68.out.trans (b9.mono (by omega)))
  have l9 : L9.length ≤ 61 := by rw [Hl9.out, List.length_append]; have := L8.out; simp; omega
  have SC := hid (fscan_c a9 c9 L9 w9 Ho9.out.sl (by omega))
  refine SC.out.mono ?_
  rintro _ w10 ⟨ag, cg, LB, on2, bb, rfl, hsc, hl6, b10⟩
  have FB := hid (hsc.fml (by omega) (by omega))
  have b610 := b69.out.trans (b10.mono b69.out.size)
  have FA10 := hid (FA.out.bel b610)
  have B10 := hid (B6.out.trans (b610.mono z6))
  have z10 := B10.out.size
  clear hsc b10 SC Hl9 hb9 Hk9 HA9 Ho9 hz9 l9 b9 b69 b68 O8 L8 z8 hl6 b610 B8 B7 BV7 FA H1 zV7 zV z6
  have hA := FA10.out.len
  have hB := FB.out.len
  go_wp2_with (first
    | (at_builtin; (refine wpL_rapp Try.tyFo rfl (.const (.slice none 0 0)) (.tmp 37) rfl w10.heap.size none af 0 LA.length 0 cf [] LA rfl (by first | rfl | simp | omega) (ROwn.nil _ _) rfl (by first | rfl | simp | omega) FA10.out.sl (by show _ ≤ 1099511627776; simp; omega) (by exact Nat.le_refl _) ?_); intro a11 c11 w11 L11 Hl11 ho11 hb11 hk11 hA11; have HA11 := hid hA11; clear hA11; have Ho11 := hid ho11; clear ho11; have Hk11 := hid hk11; clear hk11; have hz11 := hb11.size)
    | (at_builtin; (refine wpL_rapp Try.tyFo rfl (.tmp 38) (.tmp 39) rfl w10.heap.size a11 ag L11.length LB.length c11 cg L11 LB rfl (by first | rfl | simp | omega) Ho11.out rfl (by first | rfl | simp | omega) ((FB.out.sl.same fun ad ha hl => hb11.block _ hl)) (by show _ ≤ 1099511627776; rw [Hl11.out]; simp; omega) (by omega) ?_); intro a13 c13 w13 L13 Hl13 ho13 hb13 hk13 hA13; have HA13 := hid hA13; clear hA13; have Ho13 := hid ho13; clear ho13; have Hk13 := hid hk13; clear hk13; have hz13 := hb13.size))
  have B13 := hid (B10.out.trans ((hb11.trans hb13).mono z10))
  have b1013 : Below w10.heap.size w10 w13 := hb11.trans hb13
  have FA13 := hid (FA10.out.bel b1013)
  have FB13 := hid (FB.out.bel b1013)
  have hL13 : L13 = LA ++ LB := by rw [Hl13.out, Hl11.out]; rfl
  have HO13 := hid Ho13.out
  have H2c := hid (show TSl w13 a2 Gs ∧ Txs w13 Gs ∧ ∀ m, m ∈ Gs → m.l.length ≤ 1048576 from ⟨H2.out.1.bel B13.out, H2.out.2.1.bel B13.out, H2.out.2.2⟩)
  subst hL13
  have hz13 := B13.out.size
  clear Hl13 Hl11 Ho13 Ho11 hb11 hb13 Hk11 Hk13 HA11 HA13 hz11 b1013 FA10 FB B10 z10 H2
  have HF13 := hid (show Fos w13 (fun _ => False) (LA ++ LB) from FA13.out.fos.app FB13.out.fos)
  have MC := hid (fmay_c a13 c13 (LA ++ LB) (fun _ => False) w13 HO13.out.sl HF13.out)
  have TA : Hid (∀ w', Below w13.heap.size w13 w' → Calls Try.prog 12 #[.slice af LA.length cf, .slice a2 Gs.length c2] w' (Makes w' (fillC (fps LA) Gs))) := hid fun w' b => tfill_c af cf LA a2 c2 Gs 1048576 w' (FA13.out.sl.bel b) (FA13.out.fos.bel b) (H2c.out.1.bel b) (H2c.out.2.1.bel b) (fun m hm => by have := FA13.out.tx m hm; omega) H2c.out.2.2 (by have := Nat.mul_le_mul_right 1048576 hA; omega)
  have TB : Hid (∀ w', Below w13.heap.size w13 w' → Calls Try.prog 12 #[.slice ag LB.length cg, .slice a2 Gs.length c2] w' (Makes w' (fillC (fps LB) Gs))) := hid fun w' b => tfill_c ag cg LB a2 c2 Gs 1048576 w' (FB13.out.sl.bel b) (FB13.out.fos.bel b) (H2c.out.1.bel b) (H2c.out.2.1.bel b) (fun m hm => by have := FB13.out.tx m hm; omega) H2c.out.2.2 (by have := Nat.mul_le_mul_right 1048576 hB; omega)
  have hAB : (LA ++ LB).length ≤ 122 := by simp; omega
  have TC : Hid (∀ w', Below w13.heap.size w13 w' → Calls Try.prog 12 #[.slice a13 (LA ++ LB).length c13, .slice a2 Gs.length c2] w' (Makes w' (fillC (fps (LA ++ LB)) Gs))) := hid fun w' b => tfill_c a13 c13 (LA ++ LB) a2 c2 Gs 1048576 w' (HO13.out.sl.bel b) (HF13.out.bel b) (H2c.out.1.bel b) (H2c.out.2.1.bel b) (fun m hm => by
    rcases List.mem_append.1 hm with hm | hm
    · have := FA13.out.tx m hm; omega
    · have := FB13.out.tx m hm; omega) H2c.out.2.2 (by have := Nat.mul_le_mul_right 1048576 hAB; omega)
  have lA := hid (fillC_len (L := LA) (Gs := Gs) (K := 1048576) (fun m hm => by have := FA13.out.tx m hm; omega) H2c.out.2.2)
  have lB := hid (fillC_len (L := LB) (Gs := Gs) (K := 1048576) (fun m hm => by have := FB13.out.tx m hm; omega) H2c.out.2.2)
  have mA := hid FA13.out.may
  have mB := hid FB13.out.may
  obtain ⟨N, hN⟩ : ∃ N, N = (LA ++ LB).length := ⟨_, rfl⟩
  rw [← hN] at MC TC ⊢
  clear hN hAB
  obtain ⟨bm, hbm⟩ : ∃ b, b = mayF (fps (LA ++ LB)) := ⟨_, rfl⟩
  have Hbm := hid hbm
  rw [← hbm] at MC
  obtain ⟨X, hX⟩ : ∃ X, X = fillC (fps LA) Gs := ⟨_, rfl⟩
  obtain ⟨Y, hY⟩ : ∃ Y, Y = fillC (fps LB) Gs := ⟨_, rfl⟩
  obtain ⟨Z, hZ⟩ : ∃ Z, Z = fillC (fps (LA ++ LB)) Gs := ⟨_, rfl⟩
  have HXY : Hid (bm = true → Z = X ++ Y) := hid fun h => by
    rw [hX, hY, hZ, fps_app]
    exact fillC_app (by rw [← fps_app, ← hbm]; exact h) mA.out mB.out
  have HZ0 : Hid (bm = false → Z = []) := hid fun h => by
    rw [hZ]; unfold fillC
    rw [if_neg (by rw [← hbm, h]; decide)]
  rw [← hX] at TA lA
  rw [← hY] at TB lB
  rw [← hZ] at TC
  have hlA := Nat.mul_le_mul_right 1048576 hA
  have hlB := Nat.mul_le_mul_right 1048576 hB
  have HXl := hid (show X.length + Y.length ≤ 35184373137408 by have := lA.out; have := lB.out; omega)
  clear hlA hlB lA lB hX hY hZ hbm FA13 FB13 HO13 HF13 H2c mA mB hA hB
  refine MC.out.mono ?_
  rintro _ w14 ⟨rfl, b14⟩
  have B14 := hid b14
  have BW14 := hid (B13.out.trans (b14.mono hz13))
  clear b14 MC
  cases bm with
  | false =>
    obtain rfl := HZ0.out rfl
    go_wp2_with fail
    refine (TC.out w14 B14.out).mono ?_
    rintro _ w15 ⟨a15, c15, rfl, -, b15⟩
    have BW15 := hid (BW14.out.trans (b15.mono BW14.out.size))
    clear b15
    go_wp2_with fail
    refine (known12_c w15).mono ?_
    rintro _ w16 ⟨rfl, b16⟩
    have BW16 := hid (BW15.out.trans (b16.mono BW15.out.size))
    clear b16
    go_wp2_with fail
    go_ret
    exact ⟨rfl, BW16.out⟩
  | true =>
    go_wp2_with fail
    refine (TA.out w14 B14.out).mono ?_
    rintro _ w15 ⟨a15, c15, rfl, o15, b15⟩
    have O15 := hid o15
    have B15 := hid (B14.out.trans (b15.mono B14.out.size))
    clear o15 b15
    go_wp2_with fail
    refine (TB.out w15 B15.out).mono ?_
    rintro _ w16 ⟨a16, c16, rfl, o16, b16⟩
    have O16 := hid o16
    have O15' := hid (O15.out.grow b16)
    have B16 := hid (B15.out.trans (b16.mono B15.out.size))
    have JC := hid (join_c a15 a16 c15 c16 X Y w16 O15'.out.sl O16.out.sl HXl.out)
    rw [← HXY.out (by first | rfl | trivial)] at JC
    clear o16 b16
    go_wp2_with fail
    refine JC.out.mono ?_
    rintro _ w17 ⟨a17, c17, rfl, o17, b17⟩
    have O17 := hid o17
    have B17 := hid (B16.out.trans (b17.mono B16.out.size))
    clear o17 b17 JC
    go_wp2_with fail
    refine (TC.out w17 B17.out).mono ?_
    rintro _ w18 ⟨a18, c18, rfl, o18, b18⟩
    have B18 := hid (B17.out.trans (b18.mono B17.out.size))
    have SC := hid (rsame_c a18 a17 c18 c17 Z Z w18 o18.sl (O17.out.grow b18).sl)
    clear o18 b18
    go_wp2_with fail
    refine SC.out.mono ?_
    rintro _ _ ⟨rfl, n19, rfl⟩
    rw [eqM_self]
    have BW19 : Hid (Below W.heap.size W (w18.drewN n19)) := hid (bdrewN (B13.out.trans (B18.out.mono hz13)) _)
    clear SC
    go_wp2_with fail
    refine (known12_c _).mono ?_
    rintro _ w20 ⟨rfl, b20⟩
    have BW20 := hid (BW19.out.trans (b20.mono BW19.out.size))
    clear b20
    go_wp2_with fail
    go_ret
    exact ⟨rfl, BW20.out⟩
end Go.Proofs.Ytkgkbgofphkmdaa
