/- The code's reader: a member of a class, with its range (member). -/
import Derived.Test.YtefgjicegbhcaaaGreatRxd
namespace Go.Proofs.YtefgjicegbhcaaaGreat
open Go.RowKit ReM

def MemP (m : Mc) (B : Nat) (w : World) (r : Nat) (a : Option Addr) (c : Nat) (p : List Int) (i x y : Nat) (e' : Ending) (w' : World) : Prop := match m with
  | .ok l s' => ∃ a2 c2 L, e' = .returned (.slice a2 L.length c2) ∧ l.length ≤ 20 ∧ SetK r w l a2 c2 L w' ∧ ∃ j, i < j ∧ j ≤ p.length ∧ s' = p.drop j ∧ Rdr B w' r a c p j x y 0 0
  | .bad k => ∃ l a2 c2 L, e' = .returned (.slice a2 L.length c2) ∧ l.length ≤ 20 ∧ SetK r w l a2 c2 L w' ∧ Rdr B w' r a c p p.length x y 5 k
theorem Own.at0 {w : World} {base b o c : Nat} {l : List Int} (h : Own w base (some ⟨b, o, none⟩) c l) (hl : 0 < l.length) : w.cell? ⟨b, o, none⟩ = some (.int .i32 (gt l 0)) := by
  obtain ⟨b', o', he, hc⟩ := h.sl.at hl
  cases he
  have := hc 0 hl
  rwa [Nat.add_zero] at this
set_option maxHeartbeats 8000000 in
theorem member_c (B : Nat) (w : World) (r : Nat) (a : Option Addr) (c : Nat) (p : List Int) (i x y : Nat) (h : Rdr B w r a c p i x y 0 0) (hi : i < p.length) (hT : Txt1 p) (hn : nx p i ≠ 93) :
    Calls Tryz.prog 143 #[.pointer (some ⟨r, 0, none⟩)] w (MemP (memC CC p.length (p.drop i)) B w r a c p i x y) := by
  have hat := at_drop p i (by omega)
  have hB := h.Bw
  have hrB := h.rB
  have hrw : r < w.heap.size := by omega
  have hl1 := hT.1
  have C := hid (part_c B w r a c p i x y h hi hT hn)
  cases hm : member CC i (p.drop i) with
  | bad k =>
    have em : memC CC p.length (p.drop i) = .bad k := by unfold memC; rw [hat, hm]
    rw [em]
    unfold MemP
    clear em hat
    (have c0 := h.c0; have c1 := h.c1; have c2 := h.c2; have c3 := h.c3; have c4 := h.c4; have c5 := h.c5; have f1 := h.fz 1; have f2 := h.fz 2; have f3 := h.fz 3; have f4 := h.fz 4; have f5 := h.fz 5; have rl := h.lt; have Hh := hid h; clear h)
    go_enter Tryz.func143, Tryz.ntmps143
    go_wp2_with fail
    refine C.out.mono ?_
    rintro _ w1 he
    unfold PartE at he
    rw [hm] at he
    obtain ⟨l, a2, d2, L, rfl, h1, h8, ⟨hL, ho, k1⟩, h2⟩ := he
    have hs := ho.sl
    have Hx := hid (And.intro ho (And.intro k1 h2))
    rw [← hL.out] at h1
    have H8 := hid h8
    clear hm C ho k1 h2 h8
    clear rl c0 c1 c2 c3 c4 c5 f1 f2 f3 f4 f5
    go_wp2_with fail
    refine (single_c a2 d2 L w1 hs).mono ?_
    rintro _ w2 ⟨rfl, n, rfl⟩
    rw [h1]
    clear hs
    go_wp2_with fail
    go_ret
    exact ⟨l, a2, d2, L, rfl, by have := H8.out; omega, ⟨hL, Hx.out.1.drewN _, Hx.out.2.1.drewN _⟩, Hx.out.2.2.drewN _⟩
  | ok l o s' =>
    have ho1 := hid (member_one hm).symm
    have h8 := hid (member_lt hm)
    cases o with
    | false =>
      have em : memC CC p.length (p.drop i) = .ok l s' := by unfold memC; rw [hat, hm]; rfl
      rw [em]
      unfold MemP
      clear em hat
      (have c0 := h.c0; have c1 := h.c1; have c2 := h.c2; have c3 := h.c3; have c4 := h.c4; have c5 := h.c5; have f1 := h.fz 1; have f2 := h.fz 2; have f3 := h.fz 3; have f4 := h.fz 4; have f5 := h.fz 5; have rl := h.lt; have Hh := hid h; clear h)
      go_enter Tryz.func143, Tryz.ntmps143
      go_wp2_with fail
      refine C.out.mono ?_
      rintro _ w1 he
      unfold PartE at he
      rw [hm] at he
      obtain ⟨a2, d2, L, rfl, -, ⟨hL, ho, k1⟩, j, hij, hj, hs', h2⟩ := he
      have hs := ho.sl
      have Hx := hid (And.intro ho (And.intro k1 h2))
      have h1l : one L = false := by rw [hL.out]; exact ho1.out
      have Hs' := hid hs'
      clear hm C ho k1 h2 hs'
      clear rl c0 c1 c2 c3 c4 c5 f1 f2 f3 f4 f5
      go_wp2_with fail
      refine (single_c a2 d2 L w1 hs).mono ?_
      rintro _ w2 ⟨rfl, n, rfl⟩
      rw [h1l]
      clear hs
      go_wp2_with fail
      go_ret
      exact ⟨a2, d2, L, rfl, by have := h8.out; omega, ⟨hL, Hx.out.1.drewN _, Hx.out.2.1.drewN _⟩, j, hij, hj, Hs'.out, Hx.out.2.2.drewN _⟩
    | true =>
      obtain ⟨u, rfl⟩ := one_is ho1.out
      clear ho1 h8
      have hj0 : ∃ j, i < j ∧ j ≤ p.length ∧ s' = p.drop j := by
        have hl := member_len hm
        have hs : s'.length < (p.drop i).length := hl
        simp only [List.length_drop] at hs
        unfold member at hm
        rw [drop_nx hi] at hm
        by_cases h92 : nx p i = 92
        · simp only [h92, if_true] at hm
          rcases Nat.lt_or_ge (i + 1) p.length with h1 | h1
          · rw [drop_nx h1] at hm
            dsimp only at hm
            split at hm
            · simp only [Mb.ok.injEq] at hm; exact ⟨i + 2, by omega, by omega, hm.2.2.symm⟩
            · cases hm
          · rw [drop_end h1] at hm; cases hm
        · simp only [if_neg h92, if_neg hn] at hm
          cases hm; exact ⟨i + 1, by omega, by omega, rfl⟩
      obtain ⟨j, hij, hj, rfl⟩ := hj0
      by_cases h45 : nx p j = 45
      · have hjl : j < p.length := by
          rcases Nat.lt_or_ge j p.length with h1 | h1
          · exact h1
          · rw [nx_end h1] at h45; cases h45
        by_cases h93 : nx p (j + 1) = 93 ∨ p.length ≤ j + 1
        · have em : memC CC p.length (p.drop i) = .ok [u, u, 45, 45] (p.drop (j + 1)) := by
            unfold memC; rw [hat, hm, drop_nx hjl, h45]
            simp only [Bool.true_eq_false, if_false]
            rcases Nat.lt_or_ge (j + 1) p.length with h1 | h1
            · rcases h93 with h | h
              · rw [drop_nx h1, h]; rfl
              · omega
            · rw [drop_end h1]; rfl
          rw [em]
          unfold MemP
          clear em hat
          (have c0 := h.c0; have c1 := h.c1; have c2 := h.c2; have c3 := h.c3; have c4 := h.c4; have c5 := h.c5; have f1 := h.fz 1; have f2 := h.fz 2; have f3 := h.fz 3; have f4 := h.fz 4; have f5 := h.fz 5; have rl := h.lt; have Hh := hid h; clear h)
          go_enter Tryz.func143, Tryz.ntmps143
          go_wp2_with fail
          refine C.out.mono ?_
          rintro _ w1 he
          unfold PartE at he
          rw [hm] at he
          obtain ⟨a2, d2, L, rfl, -, ⟨hL, ho, k1⟩, j', hij', hj', hs', h2⟩ := he
          obtain rfl : j' = j := by
            have := congrArg List.length hs'
            simp only [List.length_drop] at this
            omega
          have hs := ho.sl
          have Ho := hid ho
          have hk := k1.size
          have Hx := hid (And.intro k1 h2)
          have h1l : one L = true := by rw [hL.out]; exact one_same u
          have hl2 := hid (show L.length = 2 by rw [hL.out]; rfl)
          have H93 := hid h93
          clear hm C ho k1 h2 hs' h93
          clear rl c0 c1 c2 c3 c4 c5 f1 f2 f3 f4 f5
          go_wp2_with fail
          refine (single_c a2 d2 L w1 hs).mono ?_
          rintro _ w2 ⟨rfl, n, rfl⟩
          rw [h1l]
          clear hs
          go_wp2_with fail
          refine (takes_yes 45 B _ r a c p j' x y 0 0 (Hx.out.2.drewN _) hjl hl1 h45).mono ?_
          rintro _ w3 ⟨rfl, h3, k3⟩
          have H3 := hid h3
          have K3 := hid k3
          have hk3 := k3.size
          clear h3 k3 h45
          have hq : nx p (j' + 1) = 93 ∨ ((nx p (j' + 1) == 93) = false ∧ nx p (j' + 1) = -1) := by
            rcases H93.out with h | h
            · exact .inl h
            · exact .inr ⟨by rw [nx_end h]; rfl, nx_end h⟩
          have N := hid (fun w h => next_o B w r a c p (j' + 1) x y 0 0 h (by omega))
          generalize nx p (j' + 1) = q at *
          simp at hk3
          have hwz : w.heap.size ≤ w3.heap.size := by omega
          rcases hq with rfl | ⟨hq1, rfl⟩
          · go_wp2_with fail
            refine (N.out _ H3.out).mono ?_
            rintro _ w4 ⟨rfl, h4, k4⟩
            have H4 := hid h4
            have K4 := hid k4
            have hk4 := k4.size
            clear h4 k4
            go_wp2_with fail
            refine (only_c 45 _ (by omega)).mono ?_
            rintro _ w5 ⟨a5, d5, L5, rfl, hL5, ho5, b5⟩
            have HO := hid ((((Ho.out.drewN n).kr K3.out hrw).kr K4.out hrw).grow b5)
            have HK := hid ((((Hx.out.1.drewN n).tr K3.out).tr K4.out).bel b5 (by omega))
            have HR := hid (H4.out.bel b5)
            have hk5 := b5.size
            have Hs5 := hid ho5.sl
            have hll := hid (show L.length + L5.length = 4 by rw [hL.out, hL5.out]; rfl)
            clear ho5 b5
            go_wp2_with (at_builtin; (refine wpL_appn rfl (.tmp 29) (.tmp 30) rfl w.heap.size a2 a5 L.length L5.length d2 d5 L L5 rfl (by first | rfl | simp | omega) HO.out rfl (by first | rfl | simp | omega) Hs5.out (by rw [hll.out]; decide) (by omega) ?_); intro a6 c6 w6 L6 Hl6 ho6 hb6 hk6 hA6; have HA6 := hid hA6; clear hA6; have Ho6 := hid ho6; clear ho6; have Hk6 := hid hk6; clear hk6; have hz6 := hb6.size)
            go_ret
            exact ⟨a6, c6, L6, rfl, by simp, ⟨by rw [Hl6.out, hL.out, hL5.out]; rfl, Ho6.out, HK.out.bel hb6 (Nat.le_refl _)⟩, j' + 1, by omega, by omega, rfl, HR.out.below hb6 hB⟩
          · go_wp2_with fail
            refine (N.out _ H3.out).mono ?_
            rintro _ w4' ⟨rfl, h4', k4'⟩
            have H4' := hid h4'
            have K4' := hid k4'
            have hk4' := k4'.size
            clear h4' k4'
            go_wp2_with fail
            refine (N.out _ H4'.out).mono ?_
            rintro _ w4 ⟨rfl, h4, k4⟩
            have H4 := hid h4
            have K4 := hid (K4'.out.tr k4)
            have hk4 := K4.out.size
            clear h4 k4
            go_wp2_with fail
            refine (only_c 45 _ (by omega)).mono ?_
            rintro _ w5 ⟨a5, d5, L5, rfl, hL5, ho5, b5⟩
            have HO := hid ((((Ho.out.drewN n).kr K3.out hrw).kr K4.out hrw).grow b5)
            have HK := hid ((((Hx.out.1.drewN n).tr K3.out).tr K4.out).bel b5 (by omega))
            have HR := hid (H4.out.bel b5)
            have hk5 := b5.size
            have Hs5 := hid ho5.sl
            have hll := hid (show L.length + L5.length = 4 by rw [hL.out, hL5.out]; rfl)
            clear ho5 b5
            go_wp2_with (at_builtin; (refine wpL_appn rfl (.tmp 29) (.tmp 30) rfl w.heap.size a2 a5 L.length L5.length d2 d5 L L5 rfl (by first | rfl | simp | omega) HO.out rfl (by first | rfl | simp | omega) Hs5.out (by rw [hll.out]; decide) (by omega) ?_); intro a6 c6 w6 L6 Hl6 ho6 hb6 hk6 hA6; have HA6 := hid hA6; clear hA6; have Ho6 := hid ho6; clear ho6; have Hk6 := hid hk6; clear hk6; have hz6 := hb6.size)
            go_ret
            exact ⟨a6, c6, L6, rfl, by simp, ⟨by rw [Hl6.out, hL.out, hL5.out]; rfl, Ho6.out, HK.out.bel hb6 (Nat.le_refl _)⟩, j' + 1, by omega, by omega, rfl, HR.out.below hb6 hB⟩
        · have hn1 : nx p (j + 1) ≠ 93 := fun h => h93 (.inl h)
          have hj1 : j + 1 < p.length := by
            rcases Nat.lt_or_ge (j + 1) p.length with h | h
            · exact h
            · exact absurd (.inr h) h93
          have em : memC CC p.length (p.drop i) = match member CC (j + 1 : Nat) (p.drop (j + 1)) with
              | .bad k => .bad k
              | .ok m2 o2 s3 => if o2 = true then (if fst m2 < u then .bad i else .ok [u, fst m2] s3) else .ok ([u, u, 45, 45] ++ m2) s3 := by
            unfold memC; rw [hat, hm, drop_nx hjl, h45]
            simp only [Bool.true_eq_false, if_false]
            have e2 := at_drop p (j + 1) (by omega)
            rw [drop_nx hj1] at e2 ⊢
            simp only [if_neg hn1, e2, fst_pair]
            rfl
          have hge := hT.nxp hj1
          have hq1 : (nx p (j + 1) == 93) = false := by simpa using hn1
          have hq2 : (nx p (j + 1) == -1) = false := by simp; omega
          have N := hid (fun w h => next_o B w r a c p (j + 1) x y 0 0 h (by omega))
          have Pt := hid (fun w h => part_c B w r a c p (j + 1) x y h hj1 hT hn1)
          have Em := hid em
          clear hn1 hge em hat h93
          (have c0 := h.c0; have c1 := h.c1; have c2 := h.c2; have c3 := h.c3; have c4 := h.c4; have c5 := h.c5; have f1 := h.fz 1; have f2 := h.fz 2; have f3 := h.fz 3; have f4 := h.fz 4; have f5 := h.fz 5; have rl := h.lt; have Hh := hid h; clear h)
          go_enter Tryz.func143, Tryz.ntmps143
          go_wp2_with fail
          refine C.out.mono ?_
          rintro _ w1 he
          unfold PartE at he
          rw [hm] at he
          obtain ⟨a2, d2, L, rfl, -, ⟨hL, ho, k1⟩, j', hij', hj', hs', h2⟩ := he
          obtain rfl : j' = j := by
            have := congrArg List.length hs'
            simp only [List.length_drop] at this
            omega
          have hs := ho.sl
          have Ho := hid ho
          have hk := k1.size
          have Hx := hid (And.intro k1 h2)
          have h1l : one L = true := by rw [hL.out]; exact one_same u
          clear hm C ho k1 h2 hs'
          clear rl c0 c1 c2 c3 c4 c5 f1 f2 f3 f4 f5
          generalize nx p (j' + 1) = q at *
          go_wp2_with fail
          refine (single_c a2 d2 L w1 hs).mono ?_
          rintro _ w2 ⟨rfl, n, rfl⟩
          rw [h1l]
          clear hs
          go_wp2_with fail
          refine (takes_yes 45 B _ r a c p j' x y 0 0 (Hx.out.2.drewN _) hjl hl1 h45).mono ?_
          rintro _ w3 ⟨rfl, h3, k3⟩
          have H3 := hid h3
          have K3 := hid ((Hx.out.1.drewN n).tr k3)
          have hk3 := k3.size
          simp at hk3
          have O3 := hid ((Ho.out.drewN n).kr k3 hrw)
          clear h3 k3 h45
          go_wp2_with fail
          refine (N.out _ H3.out).mono ?_
          rintro _ w4 ⟨rfl, h4, k4⟩
          have H4 := hid h4
          have K4 := hid (K3.out.tr k4)
          have O4 := hid (O3.out.kr k4 hrw)
          have hk4 := k4.size
          clear h4 k4
          go_wp2_with fail
          refine (N.out _ H4.out).mono ?_
          rintro _ w5 ⟨rfl, h5, k5⟩
          have H5 := hid h5
          have K5 := hid (K4.out.tr k5)
          have O5 := hid (O4.out.kr k5 hrw)
          have hk5 := k5.size
          clear h5 k5
          go_wp2_with fail
          clear hq1 hq2
          refine (Pt.out _ H5.out).mono ?_
          rintro _ w6 he
          unfold PartE at he
          clear Pt N H3 H4 K3 K4 O3 O4
          cases hm2 : member CC (j' + 1 : Nat) (p.drop (j' + 1)) with
          | bad k =>
            rw [hm2] at he
            obtain ⟨l2, a6, d6, L2, rfl, h1, h8, ⟨hL2, ho2, k6⟩, h6⟩ := he
            have hk6 := k6.size
            have O6 := hid (O5.out.kr k6 hrw)
            have K6 := hid (K5.out.tr k6)
            have H6 := hid h6
            have P6 := hid ho2
            have hs2 := ho2.sl
            have Hoff := hid (show Off a6 (Blk a2) from fun ad ha hb => O5.out.off (ho2.1.lt _ (by rw [ha]; rfl)).1 hb)
            have h1l2 : one L2 = false := by rw [hL2.out]; exact h1
            have hl28 := hid (show L2.length ≤ 8 by rw [hL2.out]; exact h8)
            have hw5 : w.heap.size ≤ w5.heap.size := K5.out.size
            clear K5 O5 h6 ho2 k6 h8
            go_wp2_with fail
            refine (single_c a6 d6 L2 w6 hs2).mono ?_
            rintro _ w7 ⟨rfl, n7, rfl⟩
            rw [h1l2]
            clear h1l2 hs2
            go_wp2_with fail
            refine (only_c 45 _ (by omega)).mono ?_
            rintro _ w8 ⟨a8, d8, L8, rfl, hL8, ho8, b8⟩
            have hk8 := b8.size
            simp at hk8
            have O8 := hid ((O6.out.drewN n7).grow b8)
            have P8 := hid ((P6.out.drewN n7).grow b8).sl
            have K8 := hid ((K6.out.drewN n7).bel b8 (by simp; omega))
            have H8 := hid ((H6.out.drewN n7).bel b8)
            have S8 := hid ho8.sl
            have hll := hid (show L.length + L8.length = 4 by rw [hL.out, hL8.out]; rfl)
            clear ho8 b8 O6 P6 K6 H6
            go_wp2_with (first | (at_builtin; (refine wpL_appn rfl (.tmp 37) (.tmp 38) rfl w.heap.size a2 a8 L.length L8.length d2 d8 L L8 rfl (by first | rfl | simp | omega) O8.out rfl (by first | rfl | simp | omega) S8.out (by rw [hll.out]; decide) (by omega) ?_); intro a9 c9 w9 L9 Hl9 ho9 hb9 hk9 hA9; have HA9 := hid hA9; clear hA9; have Ho9 := hid ho9; clear ho9; have Hk9 := hid hk9; clear hk9; have hz9 := hb9.size) | (at_builtin; (refine wpL_appn rfl (.tmp 39) (.tmp 40) rfl w.heap.size a9 a6 L9.length L2.length c9 d6 L9 L2 rfl (by first | rfl | simp | omega) Ho9.out rfl (by first | rfl | simp | omega) (P8.out.kpt Hoff.out Hk9.out) (by rw [Hl9.out, List.length_append, hll.out]; have := hl28.out; omega) (by omega) ?_); intro a10 c10 w10 L10 Hl10 ho10 hb10 hk10 hA10; have HA10 := hid hA10; clear hA10; have Ho10 := hid ho10; clear ho10; have Hk10 := hid hk10; clear hk10; have hz10 := hb10.size))
            go_ret
            rw [Em.out, hm2]
            exact ⟨[u, u, 45, 45] ++ l2, a10, c10, L10, rfl, by have := hl28.out; rw [hL2.out] at this; simp; omega, ⟨by rw [Hl10.out, Hl9.out, hL.out, hL8.out, hL2.out]; rfl, Ho10.out, (K8.out.bel hb9 (Nat.le_refl _)).bel hb10 (Nat.le_refl _)⟩, (H8.out.below hb9 hB).below hb10 hB⟩
          | ok l2 o2 s3 =>
            have ho2' := hid (member_one hm2).symm
            have h8 := member_lt hm2
            rw [hm2] at he
            obtain ⟨a6, d6, L2, rfl, -, ⟨hL2, ho2, k6⟩, m, hjm, hmp, hs3, h6⟩ := he
            have Hs3 := hid hs3
            clear hs3
            cases o2 with
            | false =>
              have hk6 := k6.size
              have O6 := hid (O5.out.kr k6 hrw)
              have K6 := hid (K5.out.tr k6)
              have H6 := hid h6
              have P6 := hid ho2
              have hs2 := ho2.sl
              have Hoff := hid (show Off a6 (Blk a2) from fun ad ha hb => O5.out.off (ho2.1.lt _ (by rw [ha]; rfl)).1 hb)
              have h1l2 : one L2 = false := by rw [hL2.out]; exact ho2'.out
              have hl28 := hid (show L2.length ≤ 8 by rw [hL2.out]; exact h8)
              have hw5 : w.heap.size ≤ w5.heap.size := K5.out.size
              clear K5 O5 h6 ho2 k6 h8
              go_wp2_with fail
              refine (single_c a6 d6 L2 w6 hs2).mono ?_
              rintro _ w7 ⟨rfl, n7, rfl⟩
              rw [h1l2]
              clear h1l2 hs2
              go_wp2_with fail
              refine (only_c 45 _ (by omega)).mono ?_
              rintro _ w8 ⟨a8, d8, L8, rfl, hL8, ho8, b8⟩
              have hk8 := b8.size
              simp at hk8
              have O8 := hid ((O6.out.drewN n7).grow b8)
              have P8 := hid ((P6.out.drewN n7).grow b8).sl
              have K8 := hid ((K6.out.drewN n7).bel b8 (by simp; omega))
              have H8 := hid ((H6.out.drewN n7).bel b8)
              have S8 := hid ho8.sl
              have hll := hid (show L.length + L8.length = 4 by rw [hL.out, hL8.out]; rfl)
              clear ho8 b8 O6 P6 K6 H6
              go_wp2_with (first | (at_builtin; (refine wpL_appn rfl (.tmp 37) (.tmp 38) rfl w.heap.size a2 a8 L.length L8.length d2 d8 L L8 rfl (by first | rfl | simp | omega) O8.out rfl (by first | rfl | simp | omega) S8.out (by rw [hll.out]; decide) (by omega) ?_); intro a9 c9 w9 L9 Hl9 ho9 hb9 hk9 hA9; have HA9 := hid hA9; clear hA9; have Ho9 := hid ho9; clear ho9; have Hk9 := hid hk9; clear hk9; have hz9 := hb9.size) | (at_builtin; (refine wpL_appn rfl (.tmp 39) (.tmp 40) rfl w.heap.size a9 a6 L9.length L2.length c9 d6 L9 L2 rfl (by first | rfl | simp | omega) Ho9.out rfl (by first | rfl | simp | omega) (P8.out.kpt Hoff.out Hk9.out) (by rw [Hl9.out, List.length_append, hll.out]; have := hl28.out; omega) (by omega) ?_); intro a10 c10 w10 L10 Hl10 ho10 hb10 hk10 hA10; have HA10 := hid hA10; clear hA10; have Ho10 := hid ho10; clear ho10; have Hk10 := hid hk10; clear hk10; have hz10 := hb10.size))
              go_ret
              rw [Em.out, hm2]
              exact ⟨a10, c10, L10, rfl, by have := hl28.out; rw [hL2.out] at this; simp; omega, ⟨by rw [Hl10.out, Hl9.out, hL.out, hL8.out, hL2.out]; rfl, Ho10.out, (K8.out.bel hb9 (Nat.le_refl _)).bel hb10 (Nat.le_refl _)⟩, m, by omega, hmp, Hs3.out, (H8.out.below hb9 hB).below hb10 hB⟩
            | true =>
              obtain ⟨v, rfl⟩ := one_is ho2'.out
              have hk6 := k6.size
              have O6 := hid (O5.out.kr k6 hrw)
              have K6 := hid (K5.out.tr k6)
              have H6 := hid h6
              have P6 := hid ho2
              have hs2 := ho2.sl
              have Hoff := hid (show Off a6 (Blk a2) from fun ad ha hb => O5.out.off (ho2.1.lt _ (by rw [ha]; rfl)).1 hb)
              have h1l2 : one L2 = true := by rw [hL2.out]; exact one_same v
              have hl28 := hid (show L2.length ≤ 8 by rw [hL2.out]; exact h8)
              have hw5 : w.heap.size ≤ w5.heap.size := K5.out.size
              clear K5 O5 h6 ho2 k6 h8
              go_wp2_with fail
              refine (single_c a6 d6 L2 w6 hs2).mono ?_
              rintro _ w7 ⟨rfl, n7, rfl⟩
              rw [h1l2]
              clear h1l2 hs2
              go_wp2_with fail
              have hLl := hid (show L.length = 2 by rw [hL.out]; rfl)
              have hLl2 := hid (show L2.length = 2 by rw [hL2.out]; rfl)
              obtain ⟨q1, q2, rfl, hq⟩ := O6.out.sl.at (i := 0) (by rw [hLl.out]; decide)
              obtain ⟨q3, q4, rfl, hq'⟩ := P6.out.sl.at (i := 0) (by rw [hLl2.out]; decide)
              have e1 := hq 0 (by rw [hLl.out]; decide)
              have e2 := hq' 0 (by rw [hLl2.out]; decide)
              rw [show gt L 0 = u by rw [hL.out]; rfl] at e1
              rw [show gt L2 0 = v by rw [hL2.out]; rfl] at e2
              have z1 : 0 < L.length := by rw [hLl.out]; decide
              have z2 : 0 < L2.length := by rw [hLl2.out]; decide
              rw [Nat.add_zero] at e1 e2
              have hru : -2147483648 ≤ u ∧ u ≤ 2147483647 := by have := O6.out.2.1; rw [hL.out] at this; exact this u (by simp)
              have hrv : -2147483648 ≤ v ∧ v ≤ 2147483647 := by have := P6.out.2.1; rw [hL2.out] at this; exact this v (by simp)
              clear hq hq'
              by_cases huv : v < u
              · have b1 : decide (v < u) = true := by simpa using huv
                go_quiet (fail)
                go_wp2_with fail
                refine (fail_one 5 i B _ r a c p m x y 0 (H6.out.drewN _)).mono ?_
                rintro _ w8 ⟨rfl, h8, k8⟩
                have hk8 := k8.size
                simp at hk8
                have O8 := hid ((O6.out.drewN _).kr k8 hrw)
                have P8 := hid ((P6.out.drewN _).kr k8 (by omega))
                have K8 := hid ((K6.out.drewN _).tr k8)
                have H8 := hid h8
                have e3 := (O8.out.at0 (by rw [hLl.out]; decide)).trans (by rw [hL.out]; rfl : _ = some (Value.int .i32 u))
                have e4 := (P8.out.at0 (by rw [hLl2.out]; decide)).trans (by rw [hL2.out]; rfl : _ = some (Value.int .i32 v))
                clear h8 k8 e1 e2 O6 P6 K6 H6 b1
                go_upto_region 12 with fail
                go_region
                all_goals
                  go_wp2_with fail
                  go_ret
                  have e : memC CC p.length (p.drop i) = .bad i := by rw [Em.out, hm2]; dsimp only; rw [if_pos rfl, if_pos (by rw [fst_pair]; omega)]
                  rw [e]
                  exact ⟨[u, v], _, _, [u, v], rfl, by simp, ⟨rfl, (Own.lit' w8 [u, v] _ w.heap.size 2 rfl (by omega) (by simp) (rng_cons hru (rng_one hrv)) _ rfl rfl).grow ((Below.refl _ _).drew), (K8.out.alloc _).drew⟩, (H8.out.alloc _).drew⟩
              · have b1 : decide (v < u) = false := by simpa using huv
                go_quiet (fail)
                go_upto_region 12 with fail
                go_region
                all_goals
                  go_wp2_with fail
                  go_ret
                  have e : memC CC p.length (p.drop i) = .ok [u, v] s3 := by rw [Em.out, hm2]; dsimp only; rw [if_pos rfl, if_neg (by rw [fst_pair]; omega), fst_pair]
                  rw [e]
                  exact ⟨_, _, [u, v], rfl, by simp, ⟨rfl, Own.lit' _ [u, v] _ w.heap.size 2 rfl (by simp; omega) (by simp) (rng_cons hru (rng_one hrv)) _ rfl rfl, (K6.out.drewN _).alloc _⟩, m, by omega, hmp, Hs3.out, (H6.out.drewN _).alloc _⟩
      · have em : memC CC p.length (p.drop i) = .ok [u, u] (p.drop j) := by
          unfold memC; rw [hat, hm]
          simp only [Bool.true_eq_false, if_false]
          split
          · rename_i s2 hh
            have hjl : j < p.length := by
              rcases Nat.lt_or_ge j p.length with h1 | h1
              · exact h1
              · rw [drop_end h1] at hh; cases hh
            rw [drop_nx hjl] at hh
            exact absurd (List.cons.inj hh).1 h45
          · rfl
        rw [em]
        unfold MemP
        clear em hat
        (have c0 := h.c0; have c1 := h.c1; have c2 := h.c2; have c3 := h.c3; have c4 := h.c4; have c5 := h.c5; have f1 := h.fz 1; have f2 := h.fz 2; have f3 := h.fz 3; have f4 := h.fz 4; have f5 := h.fz 5; have rl := h.lt; have Hh := hid h; clear h)
        go_enter Tryz.func143, Tryz.ntmps143
        go_wp2_with fail
        refine C.out.mono ?_
        rintro _ w1 he
        unfold PartE at he
        rw [hm] at he
        obtain ⟨a2, d2, L, rfl, -, ⟨hL, ho, k1⟩, j', hij', hj', hs', h2⟩ := he
        obtain rfl : j' = j := by
          have := congrArg List.length hs'
          simp only [List.length_drop] at this
          omega
        have hs := ho.sl
        have Hx := hid (And.intro ho (And.intro k1 h2))
        have h1l : one L = true := by rw [hL.out]; exact one_same u
        clear hm C ho k1 h2 hs'
        clear rl c0 c1 c2 c3 c4 c5 f1 f2 f3 f4 f5
        go_wp2_with fail
        refine (single_c a2 d2 L w1 hs).mono ?_
        rintro _ w2 ⟨rfl, n, rfl⟩
        rw [h1l]
        clear hs
        go_wp2_with fail
        refine (takes_no 45 B _ r a c p j' x y 0 0 (Hx.out.2.2.drewN _) (by omega) h45).mono ?_
        rintro _ w3 ⟨rfl, h3, k3⟩
        have H3 := hid h3
        have K3 := hid k3
        clear h3 k3 h45
        go_wp2_with fail
        go_ret
        exact ⟨a2, d2, L, rfl, by simp, ⟨hL, (Hx.out.1.drewN _).kr K3.out hrw, (Hx.out.2.1.drewN _).tr K3.out⟩, j', hij, hj, rfl, H3.out⟩
end Go.Proofs.YtefgjicegbhcaaaGreat
