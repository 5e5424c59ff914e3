/- LexParted: the walk. -/
import Derived.Test.YtefgjicegbhcaaaLxK
namespace Go.Proofs.Ytefgjicegbhcaaa
open Go.RowKit

theorem cov_le {l : List Int} : ∀ {L : List Tk} {t : Nat} {pk : Int}, Cov l t pk L → ∀ x, x ∈ L → x.fr ≤ l.length ∧ x.to ≤ l.length := by
  intro L
  induction L with
  | nil => intro t pk _ x hx; cases hx
  | cons y L ih =>
    intro t pk h x hx
    obtain ⟨e1, h2, h3, _, _, _, h7⟩ := h
    rcases List.mem_cons.1 hx with rfl | hx
    · exact ⟨by omega, h3⟩
    · exact ih h7 x hx
theorem sign_at (m : Nat) (hm : m ≤ 7) : ∃ r : Int, mrk r = true ∧ ∀ w', (Instr.index 42 (.agg #[.int .i32 36, .int .i32 123, .int .i32 125, .int .i32 58, .int .i32 124, .int .i32 44, .int .i32 47, .int .i32 92]) (.int .i64 m)).run Try.prog w' = .ok (.int .i32 r) w' := by
  rcases m with _ | _ | _ | _ | _ | _ | _ | _ | m
  · exact ⟨36, rfl, fun _ => rfl⟩
  · exact ⟨123, rfl, fun _ => rfl⟩
  · exact ⟨125, rfl, fun _ => rfl⟩
  · exact ⟨58, rfl, fun _ => rfl⟩
  · exact ⟨124, rfl, fun _ => rfl⟩
  · exact ⟨44, rfl, fun _ => rfl⟩
  · exact ⟨47, rfl, fun _ => rfl⟩
  · exact ⟨92, rfl, fun _ => rfl⟩
  · omega
set_option maxRecDepth 20000 in
set_option maxHeartbeats 20000000 in
theorem parted_w (a0 : Option Addr) (c0 : Nat) (l0 : List Int) (a1 : Option Addr) (c1 : Nat) (l1 : List Int) (x2 : Int) (W : World) (hlc0 : l0.length ≤ c0) (hlc1 : l1.length ≤ c1) (h0 : Sl W a0 l0) (h1 : Sl W a1 l1) :
    Calls Try.prog 5 #[.slice a0 l0.length c0, .slice a1 l1.length c1, .int .i64 x2] W fun e w' => e = .returned (.bool true) ∧ Below W.heap.size W w' := by
  have CU := hid (cut_c a0 c0 l0 250 W h0 hlc0 (by omega))
  have H1 := hid h1
  have hb := band_le x2 7 (by decide)
  rw [show ((7 : Nat) : Int) = 7 from rfl] at hb
  obtain ⟨m, hm⟩ := Int.eq_ofNat_of_zero_le hb.1
  rw [hm] at hb
  obtain ⟨r, hr, hix⟩ := sign_at m (by omega)
  have hrg := mrk_ge hr
  have HR := hid hr
  clear h0 h1 hb hr
  go_enter Try.func5, Try.ntmps5
  go_wp2_with fail
  refine CU.out.mono ?_
  rintro _ _ ⟨aA, cA, LA, rfl, HLA, sA, hcA, rfl⟩
  obtain ⟨A, hA⟩ : ∃ A, A = cln LA := ⟨_, rfl⟩
  have CC := clean_c aA cA LA W sA
  rw [← hA] at CC
  have HMA : Hid (may A = true) := hid (by rw [hA]; exact cln_may _)
  have hA2 : A.length ≤ 250 := by rw [hA, cln_len, HLA.out]; simp; omega
  clear hA CU hcA sA
  go_wp2_with fail
  refine CC.mono ?_
  rintro _ w2 ⟨a2, c2, rfl, o2, b2⟩
  have CU := hid (cut_c a1 c1 l1 250 w2 (H1.out.bel b2) hlc1 (by omega))
  have O2 := hid o2
  have B2 := hid b2
  clear o2 b2 CC H1
  go_wp2_with fail
  refine CU.out.mono ?_
  rintro _ _ ⟨aB, cB, LB, rfl, HLB, sB, hcB, rfl⟩
  obtain ⟨B, hB⟩ : ∃ B, B = cln LB := ⟨_, rfl⟩
  have CC := clean_c aB cB LB w2 sB
  rw [← hB] at CC
  have HMB : Hid (may B = true) := hid (by rw [hB]; exact cln_may _)
  have hB2 : B.length ≤ 250 := by rw [hB, cln_len, HLB.out]; simp; omega
  clear hB CU hcB sB
  go_wp2_with fail
  refine CC.mono ?_
  rintro _ w3 ⟨a3, c3, rfl, o3, b3⟩
  have SA := hid (O2.out.sl.bel b3)
  have SB := hid o3.sl
  have B3 := hid (B2.out.trans (b3.mono B2.out.size))
  obtain ⟨TA, hTA⟩ : ∃ T, T = toks A := ⟨_, rfl⟩
  have LE := lexL_may HMA.out (by omega)
  have TC := tokens_c a2 c2 A w3 SA.out
  unfold LexP at TC
  rw [LE.1, LE.2, ← hTA] at TC
  have hTAl : TA.length ≤ 250 := by rw [hTA]; exact Nat.le_trans (toks_len A) hA2
  have TC := hid TC
  have HTA := hid hTA
  clear o3 b3 LE hTA CC O2 B2
  go_wp2_with fail
  refine TC.out.mono ?_
  rintro _ w4 ⟨b4, a4, c4, rfl, o4⟩
  obtain ⟨V5, hV5⟩ : ∃ V, V = w4.alloc (.cells #[.int .i64 0, .int .i64 0] 37) := ⟨_, rfl⟩
  have b5 : Below w4.heap.size w4 V5 := by subst hV5; (repeat' (first | exact Below.refl _ _ | assumption | refine bdrewN ?_ _ | refine Below.drew ?_ | refine bal ?_ _ | refine bthen ?_ (by assumption)))
  have F5 : Hid (FtC V5 w4.heap.size 0 0) := by subst hV5; exact FtC.new _ _ _ _ _ rfl
  have b35 := b4.trans (b5.mono b4.size)
  have SA5 := hid (SA.out.bel b35)
  have SB5 := hid (SB.out.bel b35)
  have B5 := hid (B3.out.trans (b35.mono B3.out.size))
  have X5 := hid (o4.grow b5)
  obtain ⟨TB, hTB⟩ : ∃ T, T = toks B := ⟨_, rfl⟩
  have LE := lexL_may HMB.out (by omega)
  have TC := tokens_c a3 c3 B V5 SB5.out
  unfold LexP at TC
  rw [LE.1, LE.2, ← hTB] at TC
  have hTBl : TB.length ≤ 250 := by rw [hTB]; exact Nat.le_trans (toks_len B) hB2
  have TC := hid TC
  have HTB := hid hTB
  have HBL : Hid (∀ x, x ∈ TB → x.fr ≤ B.length ∧ x.to ≤ B.length) := hid (by rw [hTB]; exact cov_le (toks_cov B))
  clear b4 b5 o4 b35 SA SB B3 LE hTB
  go_upto_region 4 with fail
  rw [← hV5]; clear hV5
  go_wp2_with fail
  refine TC.out.mono ?_
  rintro _ w6 ⟨b6, a6, c6, rfl, o6⟩
  obtain ⟨V7, hV7⟩ : ∃ V, V = w6.alloc (.cells #[.int .i64 0, .int .i64 0] 37) := ⟨_, rfl⟩
  have b7 : Below w6.heap.size w6 V7 := by subst hV7; (repeat' (first | exact Below.refl _ _ | assumption | refine bdrewN ?_ _ | refine Below.drew ?_ | refine bal ?_ _ | refine bthen ?_ (by assumption)))
  have F7 : Hid (FtC V7 w6.heap.size 0 0) := by subst hV7; exact FtC.new _ _ _ _ _ rfl
  have b57 := b6.trans (b7.mono b6.size)
  have SA7 := hid (SA5.out.bel b57)
  have SB7 := hid (SB5.out.bel b57)
  have B7 := hid (B5.out.trans (b57.mono B5.out.size))
  have X7 := hid (X5.out.grow b57)
  have F57 := hid (F5.out.bel b57)
  have Y7 := hid (o6.grow b7)
  clear b6 b7 o6 b57 SA5 SB5 B5 X5 F5 TC
  go_upto_region 5 with fail
  rw [← hV7]; clear hV7
  go_wp2_with (first
    | (at_builtin; (refine wpL_appn rfl ((.const (.slice none 0 0))) (.tmp 37) rfl V7.heap.size none a2 0 A.length 0 c2 [] A rfl (by first | rfl | simp | omega) (Own.nil _ _) rfl (by first | rfl | simp | omega) SA7.out (by simp; omega) (Nat.le_refl _) ?_); intro a8 c8 w8 L8 Hl8 ho8 hb8 hk8 hA8; have HA8 := hid hA8; clear hA8; have Ho8 := hid ho8; clear ho8; have Hk8 := hid hk8; clear hk8; have hz8 := hb8.size)
    | ((at_builtin; (refine wpL_appn rfl (.tmp 38) (.tmp 40) rfl V7.heap.size a8 (some ⟨w8.heap.size, 0, none⟩) L8.length 1 c8 1 L8 [r] rfl (by first | rfl | simp | omega) (Ho8.out.alloc _) rfl (by first | rfl | simp | omega) (Sl.lit' _ [r] _ _ (by simp) (by simp) (by simp [rng]; omega) _ rfl) (by rw [Hl8.out]; simp; omega) (by simp; omega) ?_); intro a9 c9 w9 L9 Hl9 ho9 hb9 hk9 hA9; have HA9 := hid hA9; clear hA9; have Ho9 := hid ho9; clear ho9; have Hk9 := hid hk9; clear hk9; have hz9 := hb9.size); have bb9 : Below V7.heap.size V7 w9 := (hb8.alloc hb8.size _).trans hb9)
    | (at_builtin; (refine wpL_appn rfl (.tmp 41) (.tmp 42) rfl V7.heap.size a9 a3 L9.length B.length c9 c3 L9 B rfl (by first | rfl | simp | omega) Ho9.out rfl (by first | rfl | simp | omega) (SB7.out.bel bb9) (by rw [Hl9.out, Hl8.out]; simp; omega) bb9.size ?_); intro a10 c10 w10 L10 Hl10 ho10 hb10 hk10 hA10; have HA10 := hid hA10; clear hA10; have Ho10 := hid ho10; clear ho10; have Hk10 := hid hk10; clear hk10; have hz10 := hb10.size))
  have eD : L10 = A ++ r :: B := by rw [Hl10.out, Hl9.out, Hl8.out]; simp
  have HMD : may L10 = true := by
    have h1 : sgn r = true := by simp only [sgn, decide_eq_true_eq]; omega
    rw [eD]
    have ha := HMA.out
    have hb := HMB.out
    simp only [may, List.all_append, List.all_cons, Bool.and_eq_true] at ha hb ⊢
    exact ⟨ha, h1, hb⟩
  have hDl : L10.length = A.length + (B.length + 1) := by rw [eD]; simp
  have LE := lexL_may HMD (by omega)
  obtain ⟨TZ, hTZ⟩ : ∃ T, T = TA ++ ⟨r, A.length, A.length + 1⟩ :: TB.map (Tk.by (A.length + 1)) := ⟨_, rfl⟩
  have eZ : lexL L10 = TZ := by rw [LE.1, eD, toks_mid HR.out, hTZ, HTA.out, HTB.out]
  have TC := tokens_c a10 c10 L10 w10 Ho10.out.sl
  unfold LexP at TC
  rw [eZ, LE.2] at TC
  have hTZl : TZ.length = TA.length + 1 + TB.length := by rw [hTZ]; simp; omega
  have HTZ := hid hTZ
  have HTZl := hid hTZl
  have B10 := hid (B7.out.trans ((bb9.trans hb10).mono B7.out.size))
  have b710 := hid (bb9.trans hb10)
  clear hb8 hb9 hb10 Ho8 Ho9 Ho10 HA8 HA9 HA10 Hk8 Hk9 Hk10 LE eZ HMD eD hDl hTZ bb9
  refine TC.mono ?_
  rintro _ w11 ⟨b11, a11, c11, rfl, o11⟩
  obtain ⟨V, hV⟩ : ∃ V, V = w11.alloc (.cells #[.int .i64 0, .int .i64 0] 37) := ⟨_, rfl⟩
  have b12 : Below w11.heap.size w11 V := by subst hV; (repeat' (first | exact Below.refl _ _ | assumption | refine bdrewN ?_ _ | refine Below.drew ?_ | refine bal ?_ _ | refine bthen ?_ (by assumption)))
  have FV : FtC V w11.heap.size 0 0 := by subst hV; exact FtC.new _ _ _ _ _ rfl
  have b7V := b710.out.trans ((b11.trans (b12.mono b11.size)).mono b710.out.size)
  have XV := hid (ROwn.sl (X7.out.grow b7V))
  have YV := hid (ROwn.sl (Y7.out.grow b7V))
  have hcZ : TZ.length ≤ c11 := ROwn.cap o11
  have ZV := hid (ROwn.sl (o11.grow b12))
  have f0 := FV.c0
  have f1 := (F57.out.bel b7V).c0
  have f2 := (F7.out.bel b7V).c0
  have BV := hid (B10.out.trans ((b11.trans (b12.mono b11.size)).mono B10.out.size))
  have e1 : Hid (TZ.take TA.length = TA) := hid (by rw [HTZ.out]; simp)
  obtain ⟨a12, c12, D, HD, sD, hDc, hsl⟩ := rslice_to Try.tyTk ZV.out TA.length c11 (by omega) hcZ
  obtain rfl : D = TA := by rw [HD.out, e1.out]
  have q1 : ((TZ.length : Int) != (D.length : Int) + 1 + (TB.length : Int)) = false := by rw [bne_eq_false_iff_eq]; omega
  have ST := hid ((sameTokens_c a12 a4 c12 c4 D D V sD XV.out (by omega) (by omega)).mono fun _ _ h => (⟨h.1.trans (by simp), h.2⟩ : _ = Ending.returned (.bool true) ∧ _))
  clear hTZl b11 b12 FV b7V X7 Y7 o11 F57 F7 SA7 SB7 B7 b710 B10 TC sD HD e1 hDc HTA HTB
  go_upto_region 6 with fail
  rw [← hV]; clear hV
  go_wp2_with fail
  refine ST.out.mono ?_
  rintro _ _ ⟨rfl, n13, rfl⟩
  generalize hV1 : V.drewN n13 = V1
  have hB1 : Below V.heap.size V V1 := by rw [← hV1]; exact bdrewN (Below.refl _ _) _
  clear hV1 f0 f1 f2
  have hZn : 0 < TZ.length := by have := HTZl.out; omega
  obtain ⟨bz, oz, rfl, hcz⟩ := (ZV.out.bel hB1).at hZn
  have eR : rgt TZ D.length = ⟨r, A.length, A.length + 1⟩ := by rw [HTZ.out]; simp [rgt]
  obtain ⟨p0, p1, p2⟩ := rec_tk (hcz D.length (by have := HTZl.out; omega))
  rw [show encTk.k = 3 from rfl, eR] at p0 p1 p2
  dsimp only at p0 p1 p2
  have hzb : (D.length : Int) < (TZ.length : Int) := by have := HTZl.out; omega
  have hA1 : IntKind.i64.wrap ((A.length : Int) + 1) = (A.length : Int) + 1 := by rw [IntKind.wrap_i64]; omega
  clear hcz eR ST hsl q1
  go_wp2_with fail
  go_loopw [14, 15, 96] (fun _ _ iv wr => ∃ k : Nat, k ≤ TB.length ∧ iv = .int .i64 k ∧ Hid (Below V.heap.size V wr)) (fun _ _ iv _ => TB.length - (intOf iv).toNat)
  case atStart => exact ⟨0, Nat.zero_le _, rfl, hid hB1⟩
  case round =>
    obtain ⟨k, hk, rfl, BR⟩ := hrel
    by_cases hlt : k < TB.length
    · obtain ⟨b', o', hbo, hcz⟩ := (ZV.out.bel BR.out).at hZn
      simp only [Option.some.injEq, Addr.mk.injEq, and_true] at hbo
      obtain ⟨rfl, rfl⟩ := hbo
      obtain ⟨by_, oy, rfl, hcy⟩ := (YV.out.bel BR.out).at hlt
      obtain ⟨⟨kd, fr, to⟩, hx⟩ : ∃ x, rgt TB k = x := ⟨_, rfl⟩
      obtain ⟨y0, y1, y2⟩ := rec_tk (hcy k hlt)
      rw [show encTk.k = 3 from rfl, hx] at y0 y1 y2
      have eR : rgt TZ (D.length + 1 + k) = ⟨kd, fr + (A.length + 1), to + (A.length + 1)⟩ := by
        have h1 : rgt TZ (D.length + 1 + k) = (rgt TB k).by (A.length + 1) := by
          rw [HTZ.out, rgt_get (by simp; omega), rgt_get hlt]
          rw [List.getElem_append_right (by omega)]
          simp only [show D.length + 1 + k - D.length = k + 1 by omega, List.getElem_cons_succ, List.getElem_map]
        rw [h1, hx]; rfl
      have hin : D.length + 1 + k < TZ.length := by have := HTZl.out; omega
      obtain ⟨p0, p1, p2⟩ := rec_tk (hcz (D.length + 1 + k) hin)
      rw [show encTk.k = 3 from rfl, eR] at p0 p1 p2
      dsimp only at p0 p1 p2 y0 y1 y2
      rw [show ((fr + (A.length + 1) : Nat) : Int) = (fr : Int) + (A.length : Int) + 1 by omega] at p1
      rw [show ((to + (A.length + 1) : Nat) : Int) = (to : Int) + (A.length : Int) + 1 by omega] at p2
      have hle := HBL.out _ (rgt_mem hlt)
      rw [hx] at hle
      obtain ⟨hl1, hl2⟩ := hle
      dsimp only at hl1 hl2
      have hw1 : IntKind.i64.wrap ((fr : Int) + (A.length : Int)) = (fr : Int) + (A.length : Int) := by rw [IntKind.wrap_i64]; omega
      have hw2 : IntKind.i64.wrap ((fr : Int) + (A.length : Int) + 1) = (fr : Int) + (A.length : Int) + 1 := by rw [IntKind.wrap_i64]; omega
      have hw3 : IntKind.i64.wrap ((to : Int) + (A.length : Int)) = (to : Int) + (A.length : Int) := by rw [IntKind.wrap_i64]; omega
      have hw4 : IntKind.i64.wrap ((to : Int) + (A.length : Int) + 1) = (to : Int) + (A.length : Int) + 1 := by rw [IntKind.wrap_i64]; omega
      have hr1 : IntKind.i64.wrap ((D.length : Int) + 1 + (k : Int)) = ((D.length + 1 + k : Nat) : Int) := by rw [IntKind.wrap_i64]; omega
      have hzb : ((D.length + 1 + k : Nat) : Int) < (TZ.length : Int) := by omega
      obtain ⟨V4, hV4⟩ : ∃ V4, V4 = wr.alloc (.cells #[.int .i64 kd, .int .i64 ((fr : Int) + (A.length : Int) + 1), .int .i64 ((to : Int) + (A.length : Int) + 1)] 41) := ⟨_, rfl⟩
      have T4 : TkC V4 wr.heap.size kd ((fr : Int) + (A.length : Int) + 1) ((to : Int) + (A.length : Int) + 1) := by subst hV4; exact TkC.new _ _ _ _ _ _ rfl
      have m0 := T4.c0
      have m1 := T4.c1
      have m2 := T4.c2
      have b4 : Below wr.heap.size wr V4 := by subst hV4; (repeat' (first | exact Below.refl _ _ | assumption | refine bdrewN ?_ _ | refine Below.drew ?_ | refine bal ?_ _ | refine bthen ?_ (by assumption)))
      have w0 := (b4.cell (World.block_lt_of_cell? wr _ y0)).trans y0
      have w1 := (b4.cell (World.block_lt_of_cell? wr _ y1)).trans y1
      have w2' := (b4.cell (World.block_lt_of_cell? wr _ y2)).trans y2
      have B4 := hid (BR.out.trans (b4.mono BR.out.size))
      clear hcz hcy eR T4 b4
      go_upto_region 14 with fail
      rw [← hV4]; clear hV4 p0 p1 p2 y0 y1 y2
      go_quiet (fail)
      go_wp2_with fail
      go_roundw
      case rel => exact ⟨k + 1, by omega, by go_num, hid (bdrewN B4.out _)⟩
      case measure => simp [intOf]; omega
    · have B9 := hid (BV.out.trans (BR.out.mono BV.out.size))
      go_wp2_with (go_at_call 10; refine (known13_c _).mono ?_; rintro _ w9 ⟨rfl, b9⟩)
      go_ret
      exact ⟨rfl, B9.out.trans (b9.mono B9.out.size)⟩
end Go.Proofs.Ytefgjicegbhcaaa
