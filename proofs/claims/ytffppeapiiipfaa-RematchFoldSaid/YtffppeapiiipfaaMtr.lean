/- RematchFold: the walk. -/
import Derived.Test.YtffppeapiiipfaaMtD
import Derived.Test.YtffppeapiiipfaaMtE
import Derived.Test.YtffppeapiiipfaaPlb
import Derived.Deep.CutBlock
import Derived.Deep.DeepCutAuto
namespace Go.Proofs.Ytffppeapiiipfaa
open Go.RowKit ReM

namespace ReM
def foldS (s : List Int) (x : Int) : Bool := inR s x || (true && (inR s (up x) || inR s (lo x)))
theorem up_or_lo (x : Int) : x = up x ∨ x = lo x := by
  unfold up lo
  by_cases h : sml x = true
  · right; rw [if_neg]; simp [sml, cpt] at *; omega
  · left; rw [if_neg h]
theorem foldS_eq (s : List Int) (x : Int) : foldS s x = (inR s (up x) || inR s (lo x)) := by
  unfold foldS
  rw [Bool.true_and]
  rcases up_or_lo x with h | h
  · rw [← h]; cases inR s x <;> simp
  · rw [← h]; cases inR s x <;> simp
theorem up_up (x : Int) : up (up x) = up x := by
  unfold up
  by_cases h : sml x = true
  · rw [if_pos h, if_neg]; simp [sml] at *; omega
  · rw [if_neg h, if_neg h]
theorem lo_lo (x : Int) : lo (lo x) = lo x := by
  unfold lo
  by_cases h : cpt x = true
  · rw [if_pos h, if_neg]; simp [cpt] at *; omega
  · rw [if_neg h, if_neg h]
theorem lo_up (x : Int) : lo (up x) = lo x := by
  unfold lo up
  by_cases h : sml x = true
  · rw [if_pos h, if_pos (by simp [sml, cpt] at *; omega), if_neg (by simp [sml, cpt] at *; omega)]; omega
  · rw [if_neg h]
theorem up_lo (x : Int) : up (lo x) = up x := by
  unfold lo up
  by_cases h : cpt x = true
  · rw [if_pos h, if_pos (by simp [sml, cpt] at *; omega), if_neg (by simp [sml, cpt] at *; omega)]; omega
  · rw [if_neg h]
/-- elements that a folding matcher takes for one another -/
def fe (x y : Int) : Prop := up x = up y ∧ lo x = lo y
theorem fe_in {x y : Int} (h : fe x y) (q : Ins) : inW true q x = inW true q y := by
  have : foldS q.set x = foldS q.set y := by rw [foldS_eq, foldS_eq, h.1, h.2]
  show (foldS q.set x != q.not) = (foldS q.set y != q.not)
  rw [this]
theorem mch_fe {P : List Ins} {s t : List Int} (hl : s.length = t.length) (h : ∀ j, j < s.length → fe (gt s j) (gt t j)) : mch P s true = mch P t true := by
  unfold mch
  rw [hl]
  congr 1
  funext i a
  by_cases ha : a < t.length
  · rw [fe_in (h a (by omega))]
  · rw [decide_eq_false ha, Bool.false_and, Bool.false_and]
end ReM
set_option maxRecDepth 20000 in
set_option maxHeartbeats 60000000 in
theorem fold_w (a0 : Option Addr) (c0 : Nat) (l0 : List Int) (a1 : Option Addr) (c1 : Nat) (l1 : List Bool) (W : World) (h0 : I.Sl W a0 l0) (h1 : BSl W a1 l1) :
    Calls Try.prog 7 #[.slice a0 l0.length c0, .slice a1 l1.length c1] W fun e w' => e = .returned (.bool true) ∧ Below W.heap.size W w' := by
  obtain ⟨V, hV⟩ : ∃ V, V = W.alloc (.cells #[.slice a0 l0.length c0, .int .i64 0] 26) := ⟨_, rfl⟩
  have tV : TapeAt V W.heap.size a0 l0 c0 0 := by
    subst hV
    exact ⟨by simp, by rw [cell_alloc_new]; rfl, by rw [cell_alloc_new]; rfl, by simp, by omega⟩
  have bV : Below W.heap.size W V := by subst hV; (repeat' (first | exact Below.refl _ _ | assumption | refine bdrewN ?_ _ | refine Below.drew ?_ | refine bal ?_ _ | refine bthen ?_ (by assumption)))
  have zV : V.heap.size = W.heap.size + 1 := by subst hV; simp
  have SV : ∀ w', Below W.heap.size V w' → I.Sl w' a0 l0 := fun w' hb => h0.bel (bV.trans hb)
  have HSV := hid SV
  have BS := hid h1
  have C := hid (pattern_all W.heap.size a0 l0 c0 2 (by omega) V ⟨_, tV⟩ SV)
  have BV := hid bV
  have hl1 := h1.1
  clear tV SV h0 h1 bV
  go_enter Try.func7, Try.ntmps7
  go_wp2_with fail
  rw [← hV]; clear hV
  refine C.out.mono ?_
  rintro _ w1 ⟨aP, cP, p, rfl, ho, -, hpl, htp, hk⟩
  have BV1 := hid (hk.belowp (by omega))
  have B1 := hid (BV.out.trans BV1.out)
  have hpc : p.length ≤ cP := by rcases ho.shape with ⟨_, _, h⟩ | ⟨_, _, _, _, h⟩; simp [h]; exact h
  have PC := hid (new_c aP cP p true w1 ho.sl hpc)
  have zw1 := hk.size
  have HT1 := hid htp
  clear ho hk C hpl hpc htp
  go_wp2_with fail
  refine PC.out.mono ?_
  rintro _ w2 ⟨b2, hor⟩
  have B2 := hid (B1.out.trans (b2.mono (by omega)))
  have BV2 := hid (BV1.out.trans (b2.mono (by omega)))
  have HT2 : Hid (∃ i, TapeAt w2 W.heap.size a0 l0 c0 i) := by
    obtain ⟨i, ht⟩ := HT1.out
    exact hid ⟨i, ht.below b2 (by omega)⟩
  have zw2 := b2.size
  clear b2 PC B1 BV1 HT1
  rcases hor with ⟨e, f, -, he, rfl⟩ | ⟨M, pa, pc, L, G, hN, rfl⟩
  · have b1 : (e != 0) = true := by simpa using he
    obtain ⟨V3, hV3⟩ : ∃ V3, V3 = w2.alloc (.cells #[.int .i64 e, .int .i64 f] 39) := ⟨_, rfl⟩
    have F3 : FtC V3 w2.heap.size e f := by rw [hV3]; exact FtC.new _ _ _ _ _ rfl
    have bV3 : Below w2.heap.size w2 V3 := by rw [hV3]; (repeat' (first | exact Below.refl _ _ | assumption | refine bdrewN ?_ _ | refine Below.drew ?_ | refine bal ?_ _ | refine bthen ?_ (by assumption)))
    have B3 := hid (B2.out.trans (bV3.mono B2.out.size))
    have BV3 := hid (BV2.out.trans (bV3.mono (by omega)))
    obtain ⟨i3, ht3⟩ : ∃ i, TapeAt V3 W.heap.size a0 l0 c0 i := by
      obtain ⟨i, ht⟩ := HT2.out
      exact ⟨i, ht.below bV3 (by omega)⟩
    have TC := hid (text_k W.heap.size a0 l0 c0 i3 20 V3 ht3 (hid fun w' hb => HSV.out w' (BV3.out.trans hb)) (by omega))
    have zV3 := bV3.size
    clear ht3 bV3 B2 BV2 HT2 he
    as_aux_lemma =>
    go_upto_region 3 with fail
    rw [← hV3]; clear hV3
    go_wp2_with fail
    refine TC.out.mono ?_
    rintro _ w4 ⟨aS, cS, s, rfl, hsl, -, -, hk⟩
    have f0 := hk.cell F3.c0 (by show w2.heap.size ≠ W.heap.size; omega)
    have B4 := hid (B3.out.trans (hk.belowp (by have := B3.out.size; omega)))
    clear hk F3 B3 TC
    go_wp2_with fail
    refine (known10_c w4).mono ?_
    rintro _ w5 ⟨rfl, b5⟩
    have B5 := hid (B4.out.trans (b5.mono B4.out.size))
    clear b5 B4
    go_wp2_with fail
    go_ret
    exact ⟨rfl, B5.out⟩
  · have HN := hid hN
    obtain ⟨V3, hV3⟩ : ∃ V3, V3 = w2.alloc (.cells #[.int .i64 0, .int .i64 0] 39) := ⟨_, rfl⟩
    have F3 : FtC V3 w2.heap.size 0 0 := by rw [hV3]; exact FtC.new _ _ _ _ _ rfl
    have bV3 : Below w2.heap.size w2 V3 := by rw [hV3]; (repeat' (first | exact Below.refl _ _ | assumption | refine bdrewN ?_ _ | refine Below.drew ?_ | refine bal ?_ _ | refine bthen ?_ (by assumption)))
    have B3 := hid (B2.out.trans (bV3.mono B2.out.size))
    have BV3 := hid (BV2.out.trans (bV3.mono (by omega)))
    have N3 := hid (hN.bel bV3)
    obtain ⟨i3, ht3⟩ : ∃ i, TapeAt V3 W.heap.size a0 l0 c0 i := by
      obtain ⟨i, ht⟩ := HT2.out
      exact ⟨i, ht.below bV3 (by omega)⟩
    have TC := hid (text_k W.heap.size a0 l0 c0 i3 20 V3 ht3 (hid fun w' hb => HSV.out w' (BV3.out.trans hb)) (by omega))
    have zV3 := bV3.size
    clear ht3 bV3 B2 BV2 HT2 hN HN
    as_aux_lemma =>
    go_upto_region 3 with fail
    rw [← hV3]; clear hV3
    go_wp2_with fail
    refine TC.out.mono ?_
    rintro _ w4 ⟨aS, cS, s, rfl, hsl, ho, -, hk⟩
    have f0 := hk.cell F3.c0 (by show w2.heap.size ≠ W.heap.size; omega)
    have B4 := hid (B3.out.trans (hk.belowp (by have := B3.out.size; omega)))
    have N4 := hid (N3.out.kr hk (by omega))
    have HO4 := hid ho
    have zw4 := hk.size
    have hsc : s.length ≤ cS := by rcases ho.shape with ⟨_, _, h⟩ | ⟨_, _, _, _, h⟩; simp [h]; exact h
    have Hsc := hid hsc
    clear hk F3 B3 TC N3 ho hsc
    go_wp2_with (at_builtin; go_loud (refine wpL_appn rfl (.const (.slice none 0 0)) (.tmp 38) rfl w4.heap.size none aS 0 s.length 0 cS [] s rfl (by first | rfl | simp | omega) (Own.nil _ _) rfl (by first | rfl | simp | omega) HO4.out.sl (by simp; omega) (by exact Nat.le_refl _) ?_); intro a5 c5 w5 L5 Hl5 ho5 hb5 hk5 hA5; have HA5 := hid hA5; clear hA5; have Ho5 := hid ho5; clear ho5; have Hk5 := hid hk5; clear hk5; have hz5 := hb5.size)
    obtain ⟨n, hn⟩ : ∃ n, n = s.length := ⟨_, rfl⟩
    have Hn := hid hn
    have hL5 : L5 = s := by simpa using Hl5.out
    subst hL5
    rw [← hn]
    have B5 := hid (B4.out.trans (hb5.mono B4.out.size))
    have Hb5 := hid hb5
    have hn20 : n ≤ 20 := by omega
    clear hn hsl HA5 Hk5 Hl5 hb5
    go_loopw [42, 10] (fun iv _ wr => ∃ (k : Nat) (U : List Int), iv = .int .i64 k ∧ k ≤ n ∧ Hid (U.length = n ∧ Own wr w4.heap.size a5 c5 U ∧ ∀ j, j < n → fe (gt U j) (gt L5 j)) ∧ Hid (Below w4.heap.size w4 wr)) (fun iv _ _ => n - (intOf iv).toNat)
    case atStart => exact ⟨0, L5, rfl, Nat.zero_le _, hid ⟨Hn.out.symm, Ho5.out, fun j _ => ⟨rfl, rfl⟩⟩, Hb5⟩
    case round =>
      obtain ⟨k, U, rfl, hk, HU, HB⟩ := hrel
      have hul := HU.out.1
      by_cases hkn : k < n
      · have bz : decide ((k : Int) < (n : Int)) = true := decide_eq_true (by omega)
        obtain ⟨g, hg⟩ : ∃ g, a5 = some ⟨g, 0, none⟩ := by
          rcases HU.out.2.1.shape with ⟨_, _, h0⟩ | ⟨g, h0, _⟩
          · rw [h0] at hul; simp at hul; omega
          · exact ⟨g, h0⟩
        subst hg
        obtain ⟨gb, go, hge, hgc⟩ := HU.out.2.1.sl.at (i := k) (by omega)
        cases hge
        have kc := hgc k (by omega)
        rw [Nat.zero_add] at kc
        have hrg := rng_gt HU.out.2.1.2.1 (i := k) (by omega)
        have kf : wr.frozen? ⟨g, k, none⟩ = false := HU.out.2.1.free k
        have hg4 : w4.heap.size ≤ g := (HU.out.2.1.1.lt g rfl).1
        have k1 : (k : Int) < (n : Int) := by omega
        have Hst := hid (fun (y : Int) (hy : y = up (gt U k) ∨ y = lo (gt U k)) => show Hid ((U.set k y).length = n ∧ Own (wr.setCell ⟨g, k, none⟩ (.int .i32 y)) w4.heap.size (some ⟨g, 0, none⟩) c5 (U.set k y) ∧ ∀ j, j < n → fe (gt (U.set k y) j) (gt L5 j)) from by
          refine hid ⟨by rw [List.length_set]; exact hul, HU.out.2.1.stored k y ?_, fun j hj => ?_⟩
          · rcases hy with rfl | rfl
            · exact up_rng hrg
            · exact lo_rng hrg
          · by_cases hkj : k = j
            · subst hkj
              rw [gt_set_self (by omega)]
              have := HU.out.2.2 k hj
              rcases hy with rfl | rfl
              · exact ⟨by rw [up_up]; exact this.1, by rw [lo_up]; exact this.2⟩
              · exact ⟨by rw [up_lo]; exact this.1, by rw [lo_lo]; exact this.2⟩
            · rw [gt_set_ne hkj]; exact HU.out.2.2 j hj)
        clear hgc hul
        by_cases hkl : k < l1.length
        · have bk : decide ((k : Int) < (l1.length : Int)) = true := decide_eq_true (by omega)
          have bk2 : decide (k < l1.length) = true := decide_eq_true hkl
          obtain ⟨bb, bo, hba, hbc⟩ := BS.out.at hkl
          subst hba
          have bc := hbc k hkl
          have bc2 := ((B4.out.trans (HB.out.mono B4.out.size)).cell (World.block_lt_of_cell? W _ bc)).trans bc
          have kl1 : (k : Int) < (l1.length : Int) := by omega
          have kl0 : (0 : Int) ≤ (k : Int) := by omega
          clear hbc bc
          cases hbv : bgt l1 k with
          | true =>
            rw [hbv] at bc2
            clear hbv
            go_wp2_with fail
            refine (rupper_c (gt U k) wr hrg).mono ?_
            rintro _ _ ⟨rfl, rfl⟩
            go_wp2_with fail
            go_roundw
            case rel => exact ⟨k + 1, U.set k (up (gt U k)), by go_num, by omega, Hst.out _ (Or.inl rfl), HB.out.setCell (by omega) _⟩
            case measure => simp [intOf] <;> omega
          | false =>
            rw [hbv] at bc2
            clear hbv
            go_wp2_with fail
            refine (rlower_c (gt U k) wr hrg).mono ?_
            rintro _ _ ⟨rfl, rfl⟩
            go_wp2_with fail
            go_roundw
            case rel => exact ⟨k + 1, U.set k (lo (gt U k)), by go_num, by omega, Hst.out _ (Or.inr rfl), HB.out.setCell (by omega) _⟩
            case measure => simp [intOf] <;> omega
        · have bk : decide ((k : Int) < (l1.length : Int)) = false := decide_eq_false (by omega)
          have bk2 : decide (k < l1.length) = false := decide_eq_false hkl
          go_wp2_with fail
          refine (rlower_c (gt U k) wr hrg).mono ?_
          rintro _ _ ⟨rfl, rfl⟩
          go_wp2_with fail
          go_roundw
          case rel => exact ⟨k + 1, U.set k (lo (gt U k)), by go_num, by omega, Hst.out _ (Or.inr rfl), HB.out.setCell (by omega) _⟩
          case measure => simp [intOf] <;> omega
      · obtain rfl : k = n := by omega
        have bz : decide ((k : Int) < (k : Int)) = false := decide_eq_false (by omega)
        have hkL : L5.length = k := Hn.out.symm
        have b4 : Below w4.heap.size w4 wr := HB.out
        have Nr := hid (N4.out.bel b4)
        have x1 : FxOk wr ⟨M, pa, pc, L, G, true, aS, cS, L5⟩ := Nr.out.fx (Below.refl _ _) (HO4.out.sl.bel b4) Hsc.out (by omega)
        have F1 := find_c wr ⟨M, pa, pc, L, G, true, aS, cS, L5⟩ x1 Nr.out.made.ok 0 (Nat.zero_le _)
        have huc : U.length ≤ c5 := by rcases HU.out.2.1.shape with ⟨_, _, h⟩ | ⟨_, _, _, _, h⟩; simp [h]; exact h
        have F2 := hid (fun w' (b : Below wr.heap.size wr w') => find_c w' ⟨M, pa, pc, L, G, true, a5, c5, U⟩ (Nr.out.fx b (HU.out.2.1.sl.bel b) huc (by show U.length ≤ 1000; rw [hul]; omega)) Nr.out.made.ok 0 (Nat.zero_le _))
        dsimp only at F1 F2
        rw [hkL] at F1
        rw [hul] at F2
        have HF1 := hid F1
        have hmc : mch (inss L) U true = mch (inss L) L5 true := mch_fe (by rw [hul, hkL]) fun j hj => HU.out.2.2 j (by rw [← hul]; exact hj)
        have HMc := hid hmc
        have BW := hid (B4.out.trans (b4.mono B4.out.size))
        clear F1 x1 hmc hkL hul huc b4 HU HB N4 HO4 Hsc B5 Hb5 BS B4
        as_aux_lemma =>
        go_wp2_with fail
        refine HF1.out.mono ?_
        rintro _ w6 ⟨b6, hor1⟩
        have B6 := hid (BW.out.trans (b6.mono BW.out.size))
        have FC2 := hid (F2.out w6 b6)
        have H1 := hid hor1
        clear b6 BW HF1 F2 hor1
        rcases H1.out with ⟨h1, rfl⟩ | ⟨r1, g1, c1', h1, rfl, ho1⟩
        · have G1 := hid h1
          clear h1 H1
          go_wp2_with fail
          refine FC2.out.mono ?_
          rintro _ w7 ⟨b7, hor2⟩
          have B7 := hid (B6.out.trans (b7.mono B6.out.size))
          rcases hor2 with ⟨h2, rfl⟩ | ⟨r2, g2, c2', h2, -, -⟩
          · clear h2 b7 FC2 B6
            go_wp2_with fail
            refine (sameInts_c none none 0 0 [] [] w7 (I.Sl.nil _ _) (I.Sl.nil _ _)).mono ?_
            rintro _ _ ⟨rfl, n8, rfl⟩
            rw [eqM_self]
            go_wp2_with fail
            refine (known10_c _).mono ?_
            rintro _ w9 ⟨rfl, b9⟩
            have B9 := hid (B7.out.trans (Below.mono (Below.trans (show Below w7.heap.size w7 (w7.drewN n8) from bdrewN (Below.refl _ _) _) b9) B7.out.size))
            go_wp2_with fail
            go_ret
            exact ⟨rfl, B9.out⟩
          · change FindR (mch (inss L) U true) _ _ _ at h2
            rw [HMc.out] at h2
            have := FindR.one G1.out h2
            cases this
        · have G1 := hid h1
          have O1 := hid ho1
          clear h1 ho1 H1
          go_wp2_with fail
          refine FC2.out.mono ?_
          rintro _ w7 ⟨b7, hor2⟩
          have B7 := hid (B6.out.trans (b7.mono B6.out.size))
          have O7 := hid (O1.out.grow b7)
          rcases hor2 with ⟨h2, -⟩ | ⟨r2, g2, c2', h2, rfl, ho2⟩
          · change FindR (mch (inss L) U true) _ _ _ at h2
            rw [HMc.out] at h2
            have := FindR.one G1.out h2
            cases this
          · obtain rfl : r1 = r2 := by
              change FindR (mch (inss L) U true) _ _ _ at h2
              rw [HMc.out] at h2
              have := FindR.one G1.out h2
              simpa using this
            have O8 := hid ho2
            clear h2 b7 FC2 B6 ho2 O1
            go_wp2_with fail
            refine (sameInts_c (some ⟨g1, 0, none⟩) (some ⟨g2, 0, none⟩) c1' c2' r1 r1 w7 O7.out.sl O8.out.sl).mono ?_
            rintro _ _ ⟨rfl, n8, rfl⟩
            rw [eqM_self]
            go_wp2_with fail
            refine (known10_c _).mono ?_
            rintro _ w9 ⟨rfl, b9⟩
            have B9 := hid (B7.out.trans (Below.mono (Below.trans (show Below w7.heap.size w7 (w7.drewN n8) from bdrewN (Below.refl _ _) _) b9) B7.out.size))
            go_wp2_with fail
            go_ret
            exact ⟨rfl, B9.out⟩
end Go.Proofs.Ytffppeapiiipfaa
