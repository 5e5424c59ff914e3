/- RematchLeast: the walk. -/
import Derived.Test.YtffppeapiiipfaaMtD
import Derived.Test.YtffppeapiiipfaaMtE
import Derived.Test.YtffppeapiiipfaaPlb
import Derived.Deep.CutBlock
import Derived.Deep.DeepCutAuto
import Derived.Deep.QuietTactic
import Derived.BigQuiet
namespace Go.Proofs.Ytffppeapiiipfaa
open Go.RowKit ReM

theorem mgroups_v (w : World) (M : Nat) (G : Nat) (h : w.cell? ⟨M, 1, none⟩ = some (.int .i64 (G : Int))) :
    Calls Try.prog 21 #[.pointer (some ⟨M, 0, none⟩)] w fun e' w' => e' = .returned (.int .i64 (G : Int)) ∧ w' = w := (mgroups_c w M G h).mono fun _ _ h => ⟨h.1, h.2.symm⟩
set_option maxRecDepth 100000 in
set_option maxHeartbeats 60000000 in
theorem least_w (a0 : Option Addr) (c0 : Nat) (l0 : List Int) (x1 : Int) (x2 : Bool) (W : World) (h0 : I.Sl W a0 l0) :
    Calls Try.prog 5 #[.slice a0 l0.length c0, .int .i64 x1, .bool x2] W fun e w' => e = .returned (.bool true) ∧ Below W.heap.size W w' := by
  obtain ⟨V, hV⟩ : ∃ V, V = W.alloc (.cells #[.slice a0 l0.length c0, .int .i64 0] 26) := ⟨_, rfl⟩
  have tV : TapeAt V W.heap.size a0 l0 c0 0 := by
    subst hV
    exact ⟨by simp, by rw [cell_alloc_new]; rfl, by rw [cell_alloc_new]; rfl, by simp, by omega⟩
  have bV : Below W.heap.size W V := by subst hV; (repeat' (first | exact Below.refl _ _ | assumption | refine bdrewN ?_ _ | refine Below.drew ?_ | refine bal ?_ _ | refine bthen ?_ (by assumption)))
  have zV : V.heap.size = W.heap.size + 1 := by subst hV; simp
  have SV : ∀ w', Below W.heap.size V w' → I.Sl w' a0 l0 := fun w' hb => h0.bel (bV.trans hb)
  have HSV := hid SV
  have C := hid (pattern_all W.heap.size a0 l0 c0 2 (by omega) V ⟨_, tV⟩ SV)
  have BV := hid bV
  clear tV SV h0 bV
  go_enter Try.func5, Try.ntmps5
  go_wp2_with fail
  rw [← hV]; clear hV
  refine C.out.mono ?_
  rintro _ w1 ⟨aP, cP, p, rfl, ho, -, hpl, htp, hk⟩
  have BV1 := hid (hk.belowp (by omega))
  have B1 := hid (BV.out.trans BV1.out)
  have hpc : p.length ≤ cP := by rcases ho.shape with ⟨_, _, h⟩ | ⟨_, _, _, _, h⟩; simp [h]; exact h
  have PC := hid (new_c aP cP p x2 w1 ho.sl hpc)
  have zw1 := hk.size
  have HT1 := hid htp
  clear ho hk C hpl hpc htp
  go_wp2_with fail
  refine PC.out.mono ?_
  rintro _ w2 ⟨b2, hor⟩
  have B2 := hid (B1.out.trans (b2.mono (by omega)))
  have BV2 := hid (BV1.out.trans (b2.mono (by omega)))
  have HT2 : Hid (∃ i, TapeAt w2 W.heap.size a0 l0 c0 i) := by
    obtain ⟨i, ht⟩ := HT1.out
    exact hid ⟨i, ht.below b2 (by omega)⟩
  have zw2 := b2.size
  clear b2 PC B1 BV1 HT1
  rcases hor with ⟨e, f, -, he, rfl⟩ | ⟨M, pa, pc, L, G, hN, rfl⟩
  · have b1 : (e != 0) = true := by simpa using he
    obtain ⟨V3, hV3⟩ : ∃ V3, V3 = w2.alloc (.cells #[.int .i64 e, .int .i64 f] 39) := ⟨_, rfl⟩
    have F3 : FtC V3 w2.heap.size e f := by rw [hV3]; exact FtC.new _ _ _ _ _ rfl
    have bV3 : Below w2.heap.size w2 V3 := by rw [hV3]; (repeat' (first | exact Below.refl _ _ | assumption | refine bdrewN ?_ _ | refine Below.drew ?_ | refine bal ?_ _ | refine bthen ?_ (by assumption)))
    have B3 := hid (B2.out.trans (bV3.mono B2.out.size))
    have BV3 := hid (BV2.out.trans (bV3.mono (by omega)))
    obtain ⟨i3, ht3⟩ : ∃ i, TapeAt V3 W.heap.size a0 l0 c0 i := by
      obtain ⟨i, ht⟩ := HT2.out
      exact ⟨i, ht.below bV3 (by omega)⟩
    have TC := hid (text_k W.heap.size a0 l0 c0 i3 20 V3 ht3 (hid fun w' hb => HSV.out w' (BV3.out.trans hb)) (by omega))
    have zV3 := bV3.size
    clear ht3 bV3 B2 BV2 HT2 he
    as_aux_lemma =>
    go_upto_region 3 with fail
    rw [← hV3]; clear hV3
    go_wp2_with fail
    refine TC.out.mono ?_
    rintro _ w4 ⟨aS, cS, s, rfl, hsl, -, -, hk⟩
    have f0 := hk.cell F3.c0 (by show w2.heap.size ≠ W.heap.size; omega)
    have B4 := hid (B3.out.trans (hk.belowp (by have := B3.out.size; omega)))
    clear hk F3 B3 TC
    go_wp2_with fail
    refine (known10_c w4).mono ?_
    rintro _ w5 ⟨rfl, b5⟩
    have B5 := hid (B4.out.trans (b5.mono B4.out.size))
    clear b5 B4
    go_wp2_with fail
    go_ret
    exact ⟨rfl, B5.out⟩
  · have HN := hid hN
    obtain ⟨V3, hV3⟩ : ∃ V3, V3 = w2.alloc (.cells #[.int .i64 0, .int .i64 0] 39) := ⟨_, rfl⟩
    have F3 : FtC V3 w2.heap.size 0 0 := by rw [hV3]; exact FtC.new _ _ _ _ _ rfl
    have bV3 : Below w2.heap.size w2 V3 := by rw [hV3]; (repeat' (first | exact Below.refl _ _ | assumption | refine bdrewN ?_ _ | refine Below.drew ?_ | refine bal ?_ _ | refine bthen ?_ (by assumption)))
    have B3 := hid (B2.out.trans (bV3.mono B2.out.size))
    have BV3 := hid (BV2.out.trans (bV3.mono (by omega)))
    have N3 := hid (hN.bel bV3)
    obtain ⟨i3, ht3⟩ : ∃ i, TapeAt V3 W.heap.size a0 l0 c0 i := by
      obtain ⟨i, ht⟩ := HT2.out
      exact ⟨i, ht.below bV3 (by omega)⟩
    have TC := hid (text_k W.heap.size a0 l0 c0 i3 20 V3 ht3 (hid fun w' hb => HSV.out w' (BV3.out.trans hb)) (by omega))
    have zV3 := bV3.size
    clear ht3 bV3 B2 BV2 HT2 hN HN
    go_upto_region 3 with fail
    rw [← hV3]; clear hV3
    go_wp2_with fail
    refine TC.out.mono ?_
    rintro _ w4 ⟨aS, cS, s, rfl, hsl, ho, -, hk⟩
    have f0 := hk.cell F3.c0 (by show w2.heap.size ≠ W.heap.size; omega)
    have B4 := hid (B3.out.trans (hk.belowp (by have := B3.out.size; omega)))
    have N4 := hid (N3.out.kr hk (by omega))
    have zw4 := hk.size
    have hsc : s.length ≤ cS := by rcases ho.shape with ⟨_, _, h⟩ | ⟨_, _, _, _, h⟩; simp [h]; exact h
    have HSl := hid ho.sl
    have Hsc := hid hsc
    obtain ⟨n, hn⟩ : ∃ n, n = s.length := ⟨_, rfl⟩
    rw [← hn] at hsl ⊢
    have Hn := hid hn
    have e1 : IntKind.i64.wrap ((n : Int) + 1) = ((n + 1 : Nat) : Int) := by rw [IntKind.wrap_i64]; omega
    clear hk F3 B3 TC N3 ho hsc hn
    go_wp2_with fail
    rw [show (n : Int) + 1 = ((n + 1 : Nat) : Int) from by omega]
    refine (index_c x1 (n + 1) w4 (by omega) (by omega)).mono ?_
    rintro _ _ ⟨⟨f, hf, rfl⟩, rfl⟩
    have FX := hid (fun w' (b : Below w4.heap.size w4 w') => show FxOk w' ⟨M, pa, pc, L, G, x2, aS, cS, s⟩ from N4.out.fx b (HSl.out.bel b) Hsc.out (by show s.length ≤ 1000; rw [← Hn.out]; omega))
    have FC := hid (fun w' (b : Below w4.heap.size w4 w') (k : Nat) (hk : k ≤ n) => find_c w' ⟨M, pa, pc, L, G, x2, aS, cS, s⟩ (FX.out w' b) N4.out.made.ok k (by show k ≤ s.length; rw [← Hn.out]; exact hk))
    dsimp only at FC
    rw [← Hn.out] at FC
    have AC := hid (fun w' (b : Below w4.heap.size w4 w') => all_c10 w' ⟨M, pa, pc, L, G, x2, aS, cS, s⟩ (FX.out w' b) N4.out.made)
    dsimp only at AC
    rw [← Hn.out] at AC
    clear f0
    have hfn : f ≤ n := by omega
    go_wp2_with fail
    refine (FC.out w4 (Below.refl _ _) f hfn).mono ?_
    rintro e5 w5 ⟨b5, hor⟩
    have B5 := hid b5
    obtain ⟨b, ga, lr, gc, rfl, hb⟩ : ∃ b ga lr gc, e5 = .returned (.tuple #[.slice ga lr gc, .bool b]) ∧ (b = true → ∃ r g, ga = some ⟨g, 0, none⟩ ∧ lr = r.length ∧ FindR (mch (inss L) s x2) (List.replicate (2 * G + 2) (-1)) f (some r) ∧ I.Own w5 w4.heap.size ga gc r) := by
      rcases hor with ⟨-, rfl⟩ | ⟨r, g, c, h, rfl, ho⟩
      · exact ⟨false, none, 0, 0, rfl, fun h => by cases h⟩
      · exact ⟨true, _, _, c, rfl, fun _ => ⟨r, g, rfl, rfl, h, ho⟩⟩
    have HB := hid hb
    clear b5 hor hb
    go_upto_if 56 with fail
    go_cut [] (fun wc => Below w4.heap.size w4 wc)
    case first =>
      cases b with
      | false =>
        go_wp2_with fail
        go_meet
        exact B5.out
      | true =>
        obtain ⟨r, g, hga, hlr, hyes, ho⟩ := HB.out (by first | rfl | trivial)
        subst hga
        obtain ⟨bp, u, hb1, hb2, h1, -, -⟩ := FindR.at N4.out.made hyes
        have hlen := h1.len
        have hr0 := h1.fst
        have hr1 := h1.snd
        have hall := h1.all
        rw [← hlr] at hlen
        rw [← Hn.out] at hb2 hr1
        obtain ⟨e, he⟩ : ∃ e : Nat, gt r 1 = e := ⟨(gt r 1).toNat, by omega⟩
        rw [he] at hr1 hall
        obtain ⟨gb, go, hge, hgc⟩ := ho.sl.at (i := 0) (by omega)
        cases hge
        have KC := hid (fun w' (bw : Below w5.heap.size w5 w') (k : Nat) (hk : k < lr) => show w'.cell? ⟨g, k, none⟩ = some (.int .i64 (gt r k)) from by
          have := hgc k (by rw [← hlr]; exact hk)
          rw [Nat.zero_add] at this
          exact (bw.cell (World.block_lt_of_cell? w5 _ this)).trans this)
        have HAll := hid (fun (k : Nat) (hk : k < lr) => show gt r k = -1 ∨ ((bp : Int) ≤ gt r k ∧ gt r k ≤ (e : Int)) from by
          exact hall k (by rw [← hlr]; exact hk))
        have HY := hid hyes
        have HOw := hid ho
        have HLr := hid hlr
        have HR0 := hid hr0
        have HR1 := hid he
        have hG9 := N4.out.G9
        have q0 := KC.out w5 (Below.refl _ _) 0 (by omega)
        have q1 := KC.out w5 (Below.refl _ _) 1 (by omega)
        rw [hr0] at q0
        rw [he] at q1
        have m1 := (B5.out.cell (World.block_lt_of_cell? w4 _ N4.out.mt.c1)).trans N4.out.mt.c1
        have hM := hid m1
        have e3 : IntKind.i64.wrap (2 * (G : Int)) = 2 * (G : Int) := by rw [IntKind.wrap_i64]; omega
        have e4 : IntKind.i64.wrap (2 * (G : Int) + 2) = (lr : Int) := by rw [IntKind.wrap_i64]; omega
        have i0 : (0 : Int) < (lr : Int) := by omega
        have i1 : (1 : Int) < (lr : Int) := by omega
        have i0' : 0 < lr := by omega
        have i1' : 1 < lr := by omega
        have t1 : ((lr : Int) != (lr : Int)) = false := by simp
        have t1' : (lr != lr) = false := by simp
        have t2 : decide ((bp : Int) < (f : Int)) = false := decide_eq_false (by omega)
        have t2' : decide (bp < f) = false := decide_eq_false (by omega)
        have t3 : decide ((e : Int) < (bp : Int)) = false := decide_eq_false (by omega)
        have t3' : decide (e < bp) = false := decide_eq_false (by omega)
        have t4 : decide ((n : Int) < (e : Int)) = false := decide_eq_false (by omega)
        have t4' : decide (n < e) = false := decide_eq_false (by omega)
        have hbe : bp ≤ e ∧ e ≤ n := by omega
        have hlr2 : lr = 2 * G + 2 := hlen
        have HL2 := hid hlr2
        have hlr20 : lr ≤ 20 := by omega
        clear hgc hall hyes ho hlr hr0 hr1 he h1 hlen m1 hlr2 HB
        go_upto_region 9 with fail
        go_quiet (first | (go_at_call 21; (with_reducible refine Calls.quiet_of_same (mgroups_v _ M G ?_)); exact hM.out))
        clear t1 t1' t2 t2' t3 t3' t4 t4' e3 e4 hM
        go_wp2_with fail
        go_loopw [13] (fun kv wr => ∃ k : Nat, kv = .int .i64 k ∧ Hid (k % 2 = 0) ∧ k ≤ lr ∧ Hid (Below w5.heap.size w5 wr)) (fun kv _ => lr - (intOf kv).toNat)
        case atStart => exact ⟨2, rfl, hid rfl, by omega, hid (bdrewN (Below.refl _ _) _)⟩
        case round =>
          obtain ⟨k, rfl, Hk2, hk, HBk⟩ := hrel
          have wk : IntKind.i64.wrap ((k : Int) + 1) = ((k + 1 : Nat) : Int) := by rw [IntKind.wrap_i64]; omega
          by_cases hkl : k + 1 < lr
          · have bz : decide (((k + 1 : Nat) : Int) < (lr : Int)) = true := decide_eq_true (by omega)
            have bz1 : decide ((k : Int) + 1 < (lr : Int)) = true := decide_eq_true (by omega)
            have bz2 : decide (k + 1 < lr) = true := decide_eq_true hkl
            have c0' := KC.out wr HBk.out 0 (by omega)
            have c1' := KC.out wr HBk.out 1 (by omega)
            have ck := KC.out wr HBk.out k (by omega)
            have ck1 := KC.out wr HBk.out (k + 1) hkl
            have a0 := HAll.out k (by omega)
            have a1 := HAll.out (k + 1) hkl
            rw [HR0.out] at c0'
            rw [HR1.out] at c1'
            obtain ⟨u0, hu0⟩ : ∃ u, u = gt r k := ⟨_, rfl⟩
            obtain ⟨u1, hu1⟩ : ∃ u, u = gt r (k + 1) := ⟨_, rfl⟩
            rw [← hu0] at ck a0
            rw [← hu1] at ck1 a1
            have kz0 : (0 : Int) ≤ (k : Int) := by omega
            have kz1 : (k : Int) < (lr : Int) := by omega
            have kz2 : (0 : Int) ≤ ((k + 1 : Nat) : Int) := by omega
            have kz3 : ((k + 1 : Nat) : Int) < (lr : Int) := by omega
            have kz4 : (0 : Int) ≤ (k : Int) + 1 := by omega
            have kz5 : (k : Int) + 1 < (lr : Int) := by omega
            have fin : Hid (∀ m, ∃ k' : Nat, Value.int .i64 ((k : Int) + 2) = .int .i64 k' ∧ Hid (k' % 2 = 0) ∧ k' ≤ lr ∧ Hid (Below w5.heap.size w5 (wr.drewN m))) := hid fun m => ⟨k + 2, by go_num, hid (by have := Hk2.out; omega), by have := Hk2.out; have := HL2.out; omega, hid (bdrewN HBk.out _)⟩
            clear hu0 hu1
            by_cases p0 : u0 = -1
            · have s0 : (u0 != -1) = false := by simpa using p0
              by_cases p1 : u1 = -1
              · have s1 : (u1 != -1) = false := by simpa using p1
                clear p0 p1 a0 a1
                as_aux_lemma =>
                go_upto_region 14 with fail
                go_quiet (fail)
                go_wp2_with fail
                exact ⟨fin.out _, by simp [intOf] <;> omega⟩
              · have s1 : (u1 != -1) = true := by simpa using p1
                have v1 : decide (u1 < (bp : Int)) = false := decide_eq_false (by omega)
                have v2 : decide ((e : Int) < u1) = false := decide_eq_false (by omega)
                clear p0 p1 a0 a1
                as_aux_lemma =>
                go_upto_region 14 with fail
                go_quiet (fail)
                go_wp2_with fail
                exact ⟨fin.out _, by simp [intOf] <;> omega⟩
            · have s0 : (u0 != -1) = true := by simpa using p0
              have y1 : decide (u0 < (bp : Int)) = false := decide_eq_false (by omega)
              have y2 : decide ((e : Int) < u0) = false := decide_eq_false (by omega)
              by_cases p1 : u1 = -1
              · have s1 : (u1 != -1) = false := by simpa using p1
                clear p0 p1 a0 a1
                as_aux_lemma =>
                go_upto_region 14 with fail
                go_quiet (fail)
                go_wp2_with fail
                exact ⟨fin.out _, by simp [intOf] <;> omega⟩
              · have s1 : (u1 != -1) = true := by simpa using p1
                have v1 : decide (u1 < (bp : Int)) = false := decide_eq_false (by omega)
                have v2 : decide ((e : Int) < u1) = false := decide_eq_false (by omega)
                clear p0 p1 a0 a1
                as_aux_lemma =>
                go_upto_region 14 with fail
                go_quiet (fail)
                go_wp2_with fail
                exact ⟨fin.out _, by simp [intOf] <;> omega⟩
          · have bz : decide (((k + 1 : Nat) : Int) < (lr : Int)) = false := decide_eq_false (by omega)
            have bz1 : decide ((k : Int) + 1 < (lr : Int)) = false := decide_eq_false (by omega)
            have bz2 : decide (k + 1 < lr) = false := decide_eq_false hkl
            go_wp2_with fail
            go_loopw [14, 15, 16] (fun kv _ _ wx => ∃ k : Nat, kv = .int .i64 k ∧ f ≤ k ∧ k ≤ bp + 1 ∧ Hid (Below w5.heap.size w5 wx)) (fun kv _ _ _ => bp + 1 - (intOf kv).toNat)
            case atStart => exact ⟨f, rfl, Nat.le_refl _, by omega, HBk⟩
            case round =>
              obtain ⟨kk, rfl, hk1, hk2, HBx⟩ := hrel
              have c0' := KC.out wr HBx.out 0 (by omega)
              rw [HR0.out] at c0'
              by_cases hkb : kk ≤ bp
              · have cz : decide ((kk : Int) ≤ (bp : Int)) = true := decide_eq_true (by omega)
                have cz' : decide (kk ≤ bp) = true := decide_eq_true hkb
                have B4x := hid (B5.out.trans (HBx.out.mono B5.out.size))
                have FK := hid (FC.out wr B4x.out kk (by omega))
                as_aux_lemma =>
                go_wp2_with fail
                refine FK.out.mono ?_
                rintro _ w8 ⟨b8, hor⟩
                have B8 := hid (HBx.out.trans (b8.mono HBx.out.size))
                rcases hor with ⟨h2, -⟩ | ⟨r2, g2, c2', h2, rfl, ho2⟩
                · have := FindR.same N4.out.made HY.out hk1 (by rw [HR0.out]; omega) h2
                  cases this
                · obtain rfl : r2 = r := by
                    have := FindR.same N4.out.made HY.out hk1 (by rw [HR0.out]; omega) h2
                    simpa using this
                  have SI := sameInts_c (some ⟨g2, 0, none⟩) (some ⟨g, 0, none⟩) c2' gc r2 r2 w8 ho2.sl ((HOw.out.grow B8.out).sl)
                  rw [eqM_self, ← HLr.out] at SI
                  rw [← HLr.out]
                  have HSI := hid SI
                  clear SI ho2 h2 b8 FK
                  go_wp2_with fail
                  refine HSI.out.mono ?_
                  rintro _ _ ⟨rfl, n9, rfl⟩
                  have B9 := hid (bdrewN B8.out n9)
                  go_wp2_with fail
                  exact ⟨⟨kk + 1, by go_num, by omega, by omega, B9⟩, by simp [intOf] <;> omega⟩
              · have cz : decide ((kk : Int) ≤ (bp : Int)) = false := decide_eq_false (by omega)
                have cz' : decide (kk ≤ bp) = false := decide_eq_false hkb
                go_wp2_with fail
                go_meet
                exact B5.out.trans (HBx.out.mono B5.out.size)
    case rest =>
      rename_i wc _
      have BC := hid hcut
      clear hcut B5 HB FC hfn
      have AC2 := hid (AC.out wc BC.out)
      go_wp2_with fail
      refine AC2.out.mono ?_
      rintro _ w6 ⟨qa, qc, Q, rfl, hq, hl, hA, b6, hQl⟩
      have B6 := hid (BC.out.trans (b6.mono BC.out.size))
      have HQ := hid hq
      have HL := hid hl
      have HA := hid hA
      clear hq hl hA b6 BC AC2
      go_wp2_with fail
      go_loopw [177, 17, 19] (fun iv av _ wr => ∃ (j : Nat) (at_ : Int) (a : Nat), iv = .int .i64 j ∧ av = .int .i64 at_ ∧ j ≤ Q.length ∧ -1 ≤ at_ ∧ at_ ≤ 1002 ∧ Hid (at_ ≤ a) ∧ Hid (AllR (mch (inss L) s x2) (List.replicate (2 * G + 2) (-1)) a ((Q.map Lt.l).drop j)) ∧ Hid (Below w6.heap.size w6 wr)) (fun iv _ _ _ => Q.length - (intOf iv).toNat)
      case atStart => exact ⟨0, -1, 0, rfl, rfl, Nat.zero_le _, by omega, by omega, hid (by omega), HA, hid (Below.refl _ _)⟩
      case round =>
        obtain ⟨j, at_, a, rfl, rfl, hj, hat1, hat2, Hat, HAj, HBj⟩ := hrel
        by_cases hjl : j < Q.length
        · have bz : decide ((j : Int) < (Q.length : Int)) = true := decide_eq_true (by omega)
          have bz2 : decide (j < Q.length) = true := decide_eq_true hjl
          have hdr : (Q.map Lt.l).drop j = (rgt Q j).l :: (Q.map Lt.l).drop (j + 1) := by
            rw [← List.map_drop, rgt_drop hjl, List.map_cons, List.map_drop]
          have hAj := HAj.out
          rw [hdr] at hAj
          obtain ⟨qb, qo, hqa, hqc⟩ := HQ.out.sl.at hjl
          subst hqa
          have kq := rec_lt (hqc j hjl)
          have hown := HL.out (rgt Q j) (rgt_mem hjl)
          obtain ⟨⟨da, dl, dc⟩, hd⟩ : ∃ d, d = rgt Q j := ⟨_, rfl⟩
          rw [← hd] at kq hown hAj
          change World.cell? _ ⟨qb, qo + j * 1, none⟩ = some (.slice da dl.length dc) at kq
          rw [Nat.mul_one] at kq
          change I.Own w6 _ da dc dl at hown
          change AllR _ _ _ (dl :: _) at hAj
          cases hAj with
          | more hfi hal =>
            obtain ⟨bp, u, hb1, hb2, h1, -, -⟩ := FindR.at N4.out.made hfi
            have hlen := h1.len
            have hr0 := h1.fst
            have hr1 := h1.snd
            rw [← Hn.out] at hb2 hr1
            obtain ⟨g, hga, k0, k1⟩ : ∃ (g : Nat), da = some ⟨g, 0, none⟩ ∧ w6.cell? ⟨g, 0, none⟩ = some (.int .i64 (gt dl 0)) ∧ w6.cell? ⟨g, 1, none⟩ = some (.int .i64 (gt dl 1)) := by
              rcases hown.shape with ⟨_, _, h0⟩ | ⟨g, h0, _⟩
              · rw [h0] at hlen; simp at hlen
              · obtain ⟨gb, go, hge, hgc⟩ := hown.sl.at (i := 0) (by omega)
                rw [h0] at hge
                cases hge
                refine ⟨g, h0, ?_, ?_⟩
                · simpa using hgc 0 (by omega)
                · simpa using hgc 1 (by omega)
            subst hga
            obtain ⟨e, he⟩ : ∃ e : Nat, gt dl 1 = e := ⟨(gt dl 1).toNat, by omega⟩
            rw [hr0] at k0
            rw [he] at k1 hr1
            have hnx : nextF dl = if bp = e then e + 1 else e := by
              unfold nextF
              rw [hr0, he]
              by_cases hbe : bp = e
              · rw [if_pos (by omega), if_pos hbe]; omega
              · rw [if_neg (by omega), if_neg hbe]; omega
            have bW := HBj.out
            have q0 := (bW.cell (World.block_lt_of_cell? w6 _ kq)).trans kq
            have q1 := (bW.cell (World.block_lt_of_cell? w6 _ k0)).trans k0
            have q2 := (bW.cell (World.block_lt_of_cell? w6 _ k1)).trans k1
            obtain ⟨ld, hld⟩ : ∃ ld, ld = dl.length := ⟨_, rfl⟩
            rw [← hld] at q0 hlen
            have hbe : bp ≤ e ∧ e ≤ 20 := by omega
            have hab := Hat.out
            have hab2 : at_ ≤ (bp : Int) := by omega
            have HX := hid hnx
            have HAl := hid hal
            have ld2 : 2 ≤ ld := by omega
            have i0 : (0 : Int) < (ld : Int) := by omega
            have i1 : (1 : Int) < (ld : Int) := by omega
            have i0' : 0 < ld := by omega
            have i1' : 1 < ld := by omega
            have t1 : decide ((ld : Int) < 2) = false := decide_eq_false (by omega)
            have t1' : decide (ld < 2) = false := decide_eq_false (by omega)
            have t2 : decide ((bp : Int) < at_) = false := decide_eq_false (by omega)
            have t3 : decide ((e : Int) < (bp : Int)) = false := decide_eq_false (by omega)
            have t3' : decide (e < bp) = false := decide_eq_false (by omega)
            have wz : IntKind.i64.wrap ((bp : Int) + 1) = ((bp + 1 : Nat) : Int) := by rw [IntKind.wrap_i64]; omega
            have jz : (j : Int) < (Q.length : Int) := by omega
            have jz0 : (0 : Int) ≤ (j : Int) := by omega
            have hQn : Q.length ≤ 1001 := hQl
            clear hqc hown hd hr0 hr1 he hnx hfi hal h1 hlen kq k0 k1 hdr bW hab hld hb1 hb2 ld2
            go_upto_region 26 with fail
            go_quiet (fail)
            go_upto_region 28 with fail
            go_quiet (fail)
            go_wp2_with fail
            refine ⟨⟨j + 1, _, nextF dl, by go_num, rfl, hjl, ?_, ?_, hid ?_, HAl, hid (bdrewN HBj.out _)⟩, by simp [intOf] <;> omega⟩
            · split <;> omega
            · split <;> omega
            · rw [HX.out]
              split <;> split <;> omega
        · obtain rfl : j = Q.length := by omega
          have bz : decide ((Q.length : Int) < (Q.length : Int)) = false := decide_eq_false (by omega)
          have bz2 : decide (Q.length < Q.length) = false := decide_eq_false (by omega)
          go_wp2_with fail
          refine (known10_c wr).mono ?_
          rintro _ w9 ⟨rfl, b9⟩
          have B9 := hid (B4.out.trans ((B6.out.trans ((HBj.out.trans (b9.mono HBj.out.size)).mono B6.out.size)).mono B4.out.size))
          go_wp2_with fail
          go_ret
          exact ⟨rfl, B9.out⟩
end Go.Proofs.Ytffppeapiiipfaa
