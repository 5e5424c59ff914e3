/- LexCovers: the walk. -/
import Derived.Test.YtefgjicegbhcaaaLxK
namespace Go.Proofs.Ytefgjicegbhcaaa
open Go.RowKit

theorem cov_cons {l : List Int} {t : Nat} {pk : Int} {x : Tk} {L : List Tk} (h : Cov l t pk (x :: L)) : x.fr = t ∧ t < x.to ∧ x.to ≤ l.length ∧ 0 ≤ x.kd ∧ (2 < x.kd → x.to = t + 1 ∧ x.kd = gt l t) ∧ (x.kd ≤ 2 → x.kd ≠ pk) ∧ Cov l x.to x.kd L := h
set_option maxRecDepth 20000 in
set_option maxHeartbeats 20000000 in
theorem covers_w (a0 : Option Addr) (c0 : Nat) (l0 : List Int) (W : World) (hlc : l0.length ≤ c0) (h0 : Sl W a0 l0) :
    Calls Try.prog 4 #[.slice a0 l0.length c0] W fun e w' => e = .returned (.bool true) ∧ Below W.heap.size W w' := by
  have CU := hid (cut_c a0 c0 l0 600 W h0 hlc (by omega))
  go_enter Try.func4, Try.ntmps4
  go_wp2_with fail
  refine CU.out.mono ?_
  rintro _ _ ⟨a1, c1, L1, rfl, HL1, s1, hc1, rfl⟩
  obtain ⟨S, hS⟩ : ∃ S, S = cln L1 := ⟨_, rfl⟩
  have CC := clean_c a1 c1 L1 W s1
  rw [← hS] at CC
  have HM : Hid (may S = true) := hid (by rw [hS]; exact cln_may _)
  have hS6 : S.length ≤ 600 := by rw [hS, cln_len, HL1.out]; simp; omega
  clear hS CU hc1 s1
  go_wp2_with fail
  refine CC.mono ?_
  rintro _ w2 ⟨a2, c2, rfl, o2, b2⟩
  obtain ⟨T, hT⟩ : ∃ T, T = toks S := ⟨_, rfl⟩
  have LE := lexL_may HM.out hS6
  have TC := tokens_c a2 c2 S w2 o2.sl
  unfold LexP at TC
  rw [LE.1, LE.2, ← hT] at TC
  have hTl : T.length ≤ 600 := by rw [hT]; exact Nat.le_trans (toks_len S) hS6
  have HV : Hid (Cov S 0 (-1) T) := hid (by rw [hT]; exact toks_cov S)
  have O2 := hid o2
  have B2 := hid b2
  have TC := hid TC
  clear CC LE hT o2 b2
  go_wp2_with fail
  refine TC.out.mono ?_
  rintro _ w3 ⟨b3, a3, c3, rfl, o3⟩
  obtain ⟨V, hV⟩ : ∃ V, V = w3.alloc (.cells #[.int .i64 0, .int .i64 0] 37) := ⟨_, rfl⟩
  have b4 : Below w3.heap.size w3 V := by subst hV; (repeat' (first | exact Below.refl _ _ | assumption | refine bdrewN ?_ _ | refine Below.drew ?_ | refine bal ?_ _ | refine bthen ?_ (by assumption)))
  have F4 : FtC V w3.heap.size 0 0 := by subst hV; exact FtC.new _ _ _ _ _ rfl
  have f0 := F4.c0
  have ST := hid (ROwn.sl (o3.grow b4))
  have SS := hid ((O2.out.sl.bel b3).bel b4)
  have B4 := hid (B2.out.trans ((b3.trans (b4.mono b3.size)).mono B2.out.size))
  clear b3 b4 o3 F4 O2 B2 TC
  go_upto_region 3 with fail
  rw [← hV]; clear hV
  go_wp2_with fail
  clear f0
  go_loopw [5, 6, 7, 21] (fun tv _ _ iv wr => ∃ (k t : Nat) (pk : Int), k ≤ T.length ∧ iv = .int .i64 k ∧ tv = .int .i64 t ∧ Hid (Cov S t pk (T.drop k)) ∧ Hid (0 < k → pk = (rgt T (k - 1)).kd) ∧ Hid (Below V.heap.size V wr)) (fun _ _ _ iv _ => T.length - (intOf iv).toNat)
  case atStart => exact ⟨0, 0, -1, Nat.zero_le _, rfl, rfl, HV, hid (fun h => by omega), hid (Below.refl _ _)⟩
  case round =>
    obtain ⟨k, t, pk, hk, rfl, rfl, HC, HP, BR⟩ := hrel
    by_cases hlt : k < T.length
    · have h1 := HC.out
      rw [rgt_drop hlt] at h1
      obtain ⟨⟨kd, fr, to⟩, hx⟩ : ∃ x, rgt T k = x := ⟨_, rfl⟩
      obtain ⟨b, o, rfl, hc⟩ := (ST.out.bel BR.out).at hlt
      obtain ⟨p0, p1, p2⟩ := rec_tk (hc k hlt)
      rw [show encTk.k = 3 from rfl, hx] at p0 p1 p2
      rw [hx] at h1
      obtain ⟨e1, h2, h3, h4, h5, h6, h7⟩ := cov_cons h1
      dsimp only at e1 h2 h3 h4 h5 h6 h7 p0 p1 p2
      subst e1
      have H7 := hid h7
      obtain ⟨V4, hV4⟩ : ∃ V4, V4 = wr.alloc (.cells #[.int .i64 kd, .int .i64 fr, .int .i64 to] 41) := ⟨_, rfl⟩
      have T4 : TkC V4 wr.heap.size kd fr to := by subst hV4; exact TkC.new _ _ _ _ _ _ rfl
      have m0 := T4.c0
      have m1 := T4.c1
      have m2 := T4.c2
      have b4 : Below wr.heap.size wr V4 := by subst hV4; (repeat' (first | exact Below.refl _ _ | assumption | refine bdrewN ?_ _ | refine Below.drew ?_ | refine bal ?_ _ | refine bthen ?_ (by assumption)))
      have q1 : decide ((to : Int) ≤ (fr : Int)) = false := decide_eq_false (by omega)
      have q2 : decide ((S.length : Int) < (to : Int)) = false := decide_eq_false (by omega)
      have q3 : decide (kd < 0) = false := decide_eq_false (by omega)
      have B5 := hid (BR.out.trans (b4.mono BR.out.size))
      have S5 := SS.out.bel B5.out
      have T5 := ST.out.bel B5.out
      obtain ⟨sb, so, rfl, hcs⟩ := S5.at (i := fr) (by omega)
      have r0 := hcs fr (by omega)
      have hrn := rng_gt S5.rng (i := fr) (by omega)
      clear hcs hc h1 h7 T4 b4 S5
      go_upto_region 9 with fail
      rw [← hV4]; clear hV4
      have hfa : IntKind.i64.wrap ((fr : Int) + 1) = (fr : Int) + 1 := by rw [IntKind.wrap_i64]; omega
      by_cases hk2 : 2 < kd
      · obtain ⟨e1, e2⟩ := h5 hk2
        have q4 : decide (2 < kd) = true := decide_eq_true hk2
        have q5 : decide (kd ≤ 2) = false := decide_eq_false (by omega)
        have q6 : ((to : Int) != (fr : Int) + 1) = false := by rw [bne_eq_false_iff_eq]; omega
        subst e2
        clear h5 h6
        cases k with
        | zero =>
          have q7 : decide ((0 : Int) < ((0 : Nat) : Int)) = false := by decide
          go_wp2_with fail
          go_quiet (fail)
          go_wp2_with fail
          go_roundw
          case rel => exact ⟨1, to, gt S fr, by omega, rfl, congrArg (Value.int .i64) (by omega), H7, hid (fun _ => by rw [hx]), hid (bdrewN B5.out _)⟩
          case measure => simp [intOf]; omega
        | succ j =>
          have hj : j < T.length := by omega
          obtain ⟨b', o', hbo, hcj⟩ := T5.at hj
          simp only [Option.some.injEq, Addr.mk.injEq, and_true] at hbo
          obtain ⟨rfl, rfl⟩ := hbo
          obtain ⟨w0, -, -⟩ := rec_tk (hcj j hj)
          rw [show encTk.k = 3 from rfl] at w0
          obtain ⟨pk', hpk⟩ : ∃ pk', pk' = (rgt T j).kd := ⟨_, rfl⟩
          rw [← hpk] at w0
          have hsub : IntKind.i64.wrap (((j + 1 : Nat) : Int) - 1) = (j : Int) := by rw [IntKind.wrap_i64]; omega
          have q7 : decide ((0 : Int) < ((j + 1 : Nat) : Int)) = true := decide_eq_true (by omega)
          clear hcj hpk
          cases hb : (gt S fr == pk') with
          | true =>
            go_wp2_with fail
            go_quiet (fail)
            go_wp2_with fail
            go_roundw
            case rel => exact ⟨j + 1 + 1, to, gt S fr, by omega, by go_num, congrArg (Value.int .i64) (by omega), H7, hid (fun _ => by rw [Nat.add_sub_cancel, hx]), hid (bdrewN B5.out _)⟩
            case measure => simp [intOf]; omega
          | false =>
            go_wp2_with fail
            go_quiet (fail)
            go_wp2_with fail
            go_roundw
            case rel => exact ⟨j + 1 + 1, to, gt S fr, by omega, by go_num, congrArg (Value.int .i64) (by omega), H7, hid (fun _ => by rw [Nat.add_sub_cancel, hx]), hid (bdrewN B5.out _)⟩
            case measure => simp [intOf]; omega
      · have q4 : decide (2 < kd) = false := decide_eq_false hk2
        have q5 : decide (kd ≤ 2) = true := decide_eq_true (by omega)
        have h8 := h6 (by omega)
        clear h5 h6
        cases k with
        | zero =>
          have q7 : decide ((0 : Int) < ((0 : Nat) : Int)) = false := by decide
          go_wp2_with fail
          go_quiet (fail)
          go_wp2_with fail
          go_roundw
          case rel => exact ⟨1, to, kd, by omega, rfl, rfl, H7, hid (fun _ => by rw [hx]), hid (bdrewN B5.out _)⟩
          case measure => simp [intOf]; omega
        | succ j =>
          have hj : j < T.length := by omega
          obtain ⟨b', o', hbo, hcj⟩ := T5.at hj
          simp only [Option.some.injEq, Addr.mk.injEq, and_true] at hbo
          obtain ⟨rfl, rfl⟩ := hbo
          obtain ⟨w0, -, -⟩ := rec_tk (hcj j hj)
          rw [show encTk.k = 3 from rfl] at w0
          obtain ⟨pk', hpk⟩ : ∃ pk', pk' = (rgt T j).kd := ⟨_, rfl⟩
          have hpp : pk = pk' := by rw [hpk]; have := HP.out (by omega); simpa using this
          rw [← hpk] at w0
          have hsub : IntKind.i64.wrap (((j + 1 : Nat) : Int) - 1) = (j : Int) := by rw [IntKind.wrap_i64]; omega
          have q7 : decide ((0 : Int) < ((j + 1 : Nat) : Int)) = true := decide_eq_true (by omega)
          have hb : (kd == pk') = false := by rw [beq_eq_false_iff_ne, ← hpp]; exact h8
          clear hcj hpk hpp HP h8
          go_wp2_with fail
          go_quiet (fail)
          go_wp2_with fail
          go_roundw
          case rel => exact ⟨j + 1 + 1, to, kd, by omega, by go_num, rfl, H7, hid (fun _ => by rw [Nat.add_sub_cancel, hx]), hid (bdrewN B5.out _)⟩
          case measure => simp [intOf]; omega
    · have hkl : k = T.length := by omega
      have h1 := HC.out
      rw [hkl, List.drop_length] at h1
      have ht : t = S.length := h1
      have q8 : ((t : Int) == (S.length : Int)) = true := by rw [beq_iff_eq]; omega
      have B5 := hid (B4.out.trans (BR.out.mono B4.out.size))
      clear h1 ht
      go_wp2_with (go_at_call 10; refine (known13_c _).mono ?_; rintro _ w9 ⟨rfl, b9⟩)
      go_ret
      exact ⟨rfl, B5.out.trans (b9.mono B5.out.size)⟩
end Go.Proofs.Ytefgjicegbhcaaa
