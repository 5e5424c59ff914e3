/- The walk of ChangeTells. -/
import Derived.Test.YtnaipahapdjakaaChu
namespace Go.Proofs.Ytnaipahapdjakaa
open Go.RowKit

set_option maxHeartbeats 8000000 in
theorem tells_w (a a1 a2 : Option Addr) (c c1 c2 : Nat) (l C P : List Int) (i x2 x3 : Int) (W : World) (h : Sl W a l) (h1 : Sl W a1 C) (h2 : Sl W a2 P) (hc : l.length ≤ c) (hcp : P.length ≤ c2) (hi : ir i) (hl : l.length ≤ 35184372088830) (hl1 : C.length ≤ 35184372088830) (hl2 : P.length ≤ 35184372088830) :
    Calls Try.prog 3 #[.slice a l.length c, .agg #[.int .i64 i, .slice a1 C.length c1, .slice a2 P.length c2], .int .i64 x2, .int .i64 x3] W fun e w' => e = .returned (.bool true) ∧ Below W.heap.size W w' := by
  have hi := hid hi
  have hxV : Below W.heap.size W (W.alloc (.cells #[.int .i64 i, .slice a1 C.length c1, .slice a2 P.length c2] 24)) := bal (Below.refl _ _) _
  have D : Hid (∀ w', Below W.heap.size W w' → Sl w' a l ∧ Sl w' a1 C ∧ Sl w' a2 P) := fun w' hb => ⟨h.bel hb, h1.bel hb, h2.bel hb⟩
  have cV : (W.alloc (.cells #[.int .i64 i, .slice a1 C.length c1, .slice a2 P.length c2] 24)).cell? ⟨W.heap.size, 0, none⟩ = some (.int .i64 i) ∧ (W.alloc (.cells #[.int .i64 i, .slice a1 C.length c1, .slice a2 P.length c2] 24)).cell? ⟨W.heap.size, 1, none⟩ = some (.slice a1 C.length c1) ∧ (W.alloc (.cells #[.int .i64 i, .slice a1 C.length c1, .slice a2 P.length c2] 24)).cell? ⟨W.heap.size, 2, none⟩ = some (.slice a2 P.length c2) := by
    refine ⟨?_, ?_, ?_⟩ <;> (rw [cell_alloc_new]; rfl)
  have zV : W.heap.size < (W.alloc (.cells #[.int .i64 i, .slice a1 C.length c1, .slice a2 P.length c2] 24)).heap.size := by simp
  clear h h1 h2
  go_enter Try.func3, Try.ntmps3
  go_wp2_with fail
  generalize W.alloc (.cells #[.int .i64 i, .slice a1 C.length c1, .slice a2 P.length c2] 24) = V at hxV cV zV ⊢
  have K : Hid (∀ w', Below V.heap.size V w' → w'.cell? ⟨W.heap.size, 0, none⟩ = some (.int .i64 i) ∧ w'.cell? ⟨W.heap.size, 1, none⟩ = some (.slice a1 C.length c1) ∧ w'.cell? ⟨W.heap.size, 2, none⟩ = some (.slice a2 P.length c2)) := by
    intro w' hb
    refine ⟨?_, ?_, ?_⟩
    · rw [hb.cell (by exact zV)]; exact cV.1
    · rw [hb.cell (by exact zV)]; exact cV.2.1
    · rw [hb.cell (by exact zV)]; exact cV.2.2
  have hVv : Below V.heap.size V V := Below.refl _ _
  clear cV
  refine (cut_c a c l 200 V (D.out _ hxV).1 hc (by omega)).mono ?_
  rintro e w' ⟨a3, c3, L3, rfl, hL3, s3, hc3, rfl⟩
  have hl3 : L3.length ≤ 200 := by rw [hL3.out]; simp; omega
  have S3 := hid s3
  clear s3 hL3 hc3
  go_wp2_with fail
  refine ((clean_c a3 c3 L3 V S3.out).mono fun e w' h => h.n).mono ?_
  rintro e w1 ⟨a4, c4, T, rfl, hT, ho4, hb1⟩
  have ht : T.length ≤ 200 := by rw [hT.out, cln_len]; exact hl3
  have hv1 : Below V.heap.size V w1 := bthen hVv hb1
  have hx1 : Below W.heap.size W w1 := hxV.trans (hv1.mono (by omega))
  have hct := ho4.cap
  have ST : Hid (∀ w', Below w1.heap.size w1 w' → Sl w' a4 T) := fun w' hb => ho4.sl.bel hb
  clear ho4 hb1 S3 hT
  obtain ⟨k0, k1, k2⟩ := K.out _ hv1
  go_wp2_with fail
  refine (cut_c a2 c2 P 100 w1 (D.out _ hx1).2.2 hcp (by omega)).mono ?_
  rintro e w' ⟨a5, c5, L5, rfl, hL5, s5, hc5, rfl⟩
  have hl5 : L5.length ≤ 100 := by rw [hL5.out]; simp; omega
  have S5 := hid s5
  clear s5 hL5 hc5
  go_wp2_with fail
  refine ((clean_c a5 c5 L5 w1 S5.out).mono fun e w' h => h.n).mono ?_
  rintro e w2 ⟨a6, c6, Q, rfl, hQ, ho6, hb2⟩
  have hq : Q.length ≤ 100 := by rw [hQ.out, cln_len]; exact hl5
  have hv2 : Below V.heap.size V w2 := bthen hv1 hb2
  have hy2 : Below w1.heap.size w1 w2 := hb2
  have SQ := hid ho6.sl
  clear ho6 S5 hQ k0 k1 k2
  go_wp2_with fail
  refine (fit_c a4 a6 c4 c6 T Q x2 x3 w2 (ST.out _ hy2) SQ.out hct (by omega) (by omega)).mono ?_
  rintro e w3 ⟨n, m, r, C2, P2, a7, c7, a8, c8, rfl, hm, hnm, -, -, hP2, ho7, s8, -, -, hb3⟩
  have hC2l : C2.length ≤ 200 := by omega
  have hn2 : n ≤ 200 := by omega
  have hP2l : P2.length ≤ 1000 := by omega
  have hv3 : Below V.heap.size V w3 := bthen hv2 hb3
  have hy3 : Below w1.heap.size w1 w3 := bthen hy2 hb3
  have hv4 : Below V.heap.size V (w3.alloc (.cells #[.int .i64 n, .slice a7 C2.length c7, .slice a8 P2.length c8] 24)) := bal hv3 _
  have hy4 : Below w1.heap.size w1 (w3.alloc (.cells #[.int .i64 n, .slice a7 C2.length c7, .slice a8 P2.length c8] 24)) := bal hy3 _
  have d4 : Hid (Sl (w3.alloc (.cells #[.int .i64 n, .slice a7 C2.length c7, .slice a8 P2.length c8] 24)) a7 C2 ∧ Sl (w3.alloc (.cells #[.int .i64 n, .slice a7 C2.length c7, .slice a8 P2.length c8] 24)) a8 P2) := ⟨ho7.sl.alloc _, s8.alloc _⟩
  have c4' : (w3.alloc (.cells #[.int .i64 n, .slice a7 C2.length c7, .slice a8 P2.length c8] 24)).cell? ⟨w3.heap.size, 0, none⟩ = some (.int .i64 n) ∧ (w3.alloc (.cells #[.int .i64 n, .slice a7 C2.length c7, .slice a8 P2.length c8] 24)).cell? ⟨w3.heap.size, 1, none⟩ = some (.slice a7 C2.length c7) ∧ (w3.alloc (.cells #[.int .i64 n, .slice a7 C2.length c7, .slice a8 P2.length c8] 24)).cell? ⟨w3.heap.size, 2, none⟩ = some (.slice a8 P2.length c8) := by
    refine ⟨?_, ?_, ?_⟩ <;> (rw [cell_alloc_new]; rfl)
  have z4 : w3.heap.size < (w3.alloc (.cells #[.int .i64 n, .slice a7 C2.length c7, .slice a8 P2.length c8] 24)).heap.size := by simp
  clear ho7 s8 hb3 hb2 SQ hm hnm hP2
  go_wp2_with fail
  generalize w3.alloc (.cells #[.int .i64 n, .slice a7 C2.length c7, .slice a8 P2.length c8] 24) = w4 at hv4 hy4 d4 c4' z4 ⊢
  have K4 : Hid (∀ w', Below w4.heap.size w4 w' → w'.cell? ⟨w3.heap.size, 0, none⟩ = some (.int .i64 n) ∧ w'.cell? ⟨w3.heap.size, 1, none⟩ = some (.slice a7 C2.length c7) ∧ w'.cell? ⟨w3.heap.size, 2, none⟩ = some (.slice a8 P2.length c8)) := by
    intro w' hb
    refine ⟨?_, ?_, ?_⟩
    · rw [hb.cell (by exact z4)]; exact c4'.1
    · rw [hb.cell (by exact z4)]; exact c4'.2.1
    · rw [hb.cell (by exact z4)]; exact c4'.2.2
  have D4 : Hid (∀ w', Below w4.heap.size w4 w' → Sl w' a7 C2 ∧ Sl w' a8 P2) := fun w' hb => ⟨d4.out.1.bel hb, d4.out.2.bel hb⟩
  clear c4' z4
  refine (copied2_c n a7 a8 c7 c8 C2 P2 w4 d4.out.1 d4.out.2 (by omega) (by omega)).mono ?_
  rintro e w5 ⟨a9, c9, a10, c10, rfl, ho9, ho10, hb5, hd⟩
  have H9 : Hid (Own (w5.alloc (.cells #[.int .i64 n, .slice a9 C2.length c9, .slice a10 P2.length c10] 24)) w4.heap.size a9 c9 C2) := ho9.alloc _
  have H10 : Hid (Own (w5.alloc (.cells #[.int .i64 n, .slice a9 C2.length c9, .slice a10 P2.length c10] 24)) w4.heap.size a10 c10 P2) := ho10.alloc _
  have n9 : Hid (¬ Blk a9 w5.heap.size) := fun h => by have := (ho9.lt h).2; omega
  have n10 : Hid (¬ Blk a10 w5.heap.size) := fun h => by have := (ho10.lt h).2; omega
  have hw6 : Below w4.heap.size w4 (w5.alloc (.cells #[.int .i64 n, .slice a9 C2.length c9, .slice a10 P2.length c10] 24)) := bal hb5 _
  have c6' : (w5.alloc (.cells #[.int .i64 n, .slice a9 C2.length c9, .slice a10 P2.length c10] 24)).cell? ⟨w5.heap.size, 0, none⟩ = some (.int .i64 n) ∧ (w5.alloc (.cells #[.int .i64 n, .slice a9 C2.length c9, .slice a10 P2.length c10] 24)).cell? ⟨w5.heap.size, 1, none⟩ = some (.slice a9 C2.length c9) ∧ (w5.alloc (.cells #[.int .i64 n, .slice a9 C2.length c9, .slice a10 P2.length c10] 24)).cell? ⟨w5.heap.size, 2, none⟩ = some (.slice a10 P2.length c10) := by
    refine ⟨?_, ?_, ?_⟩ <;> (rw [cell_alloc_new]; rfl)
  have f6 : (w5.alloc (.cells #[.int .i64 n, .slice a9 C2.length c9, .slice a10 P2.length c10] 24)).frozen? ⟨w5.heap.size, 1, none⟩ = false := by simp
  have z6 : w5.heap.size < (w5.alloc (.cells #[.int .i64 n, .slice a9 C2.length c9, .slice a10 P2.length c10] 24)).heap.size := by simp
  have z5 := hb5.size
  have Hd := hid hd
  clear ho9 ho10 hb5 hd d4
  go_upto_region 4 with fail
  generalize w5.alloc (.cells #[.int .i64 n, .slice a9 C2.length c9, .slice a10 P2.length c10] 24) = R at H9 H10 hw6 c6' f6 z6 ⊢
  generalize w5.heap.size = Z at n9 n10 c6' f6 z6 z5 ⊢
  have hrq : Below R.heap.size R (R.alloc (.cells #[.int .i32 113] 21)) := bal (Below.refl _ _) _
  have KO : Hid (∀ w', Kpt (Blk a9) (R.alloc (.cells #[.int .i32 113] 21)) w' → w'.cell? ⟨Z, 0, none⟩ = some (.int .i64 n) ∧ w'.cell? ⟨Z, 1, none⟩ = some (.slice a9 C2.length c9) ∧ w'.cell? ⟨Z, 2, none⟩ = some (.slice a10 P2.length c10) ∧ w'.frozen? ⟨Z, 1, none⟩ = false) := by
    intro w' hk
    refine ⟨hk.cell ?_ n9.out, hk.cell ?_ n9.out, hk.cell ?_ n9.out, ?_⟩
    · rw [hrq.cell (by exact z6)]; exact c6'.1
    · rw [hrq.cell (by exact z6)]; exact c6'.2.1
    · rw [hrq.cell (by exact z6)]; exact c6'.2.2
    · rw [hk.frozen (by have := hrq.size; simp only; omega) n9.out, hrq.frozen (by exact z6)]; exact f6
  obtain ⟨y0, y1, y2⟩ := c6'
  go_upto_region 5 with ((at_builtin; (refine wpL_appn rfl (.tmp 26) (.tmp 27) rfl w4.heap.size a9 (some ⟨R.heap.size, 0, none⟩) C2.length 1 c9 1 C2 [113] rfl (by first | rfl | simp | omega) (H9.out.alloc _) rfl (by first | rfl | simp | omega) (Sl.lit R [113] _ (by simp) (rng_one (by omega)) _ rfl) (by simp; omega) (by have := hw6.size; simp; omega) ?_); intro a11 c11 w11 L11 Hl11 ho11 hb11 hk11 hA11; have HA11 := hid hA11; clear hA11; have Ho11 := hid ho11; clear ho11; have Hk11 := hid hk11; clear hk11; have hz11 := hb11.size); obtain ⟨q0, q1, q2, f1⟩ := KO.out _ Hk11.out)
  have hB11 : Below w4.heap.size w4 w11 := (hw6.trans (hrq.mono hw6.size)).trans hb11
  have hW4F : Below w4.heap.size w4 (w11.setCell ⟨Z, 1, none⟩ (.slice a11 L11.length c11)) := hB11.setCell (by simpa using z5) _
  have nZ : ∀ ad, a11 = some ad → ad.block ≠ Z := by
    intro ad ha he
    rcases HA11.out ad ha with h | h
    · exact n9.out (by rw [← he]; exact h)
    · simp at h; omega
  have hk10 : Kpt (Blk a9) R w11 := (Kpt.of hrq).tr Hk11.out
  have o10 : Hid (Sl (w11.setCell ⟨Z, 1, none⟩ (.slice a11 L11.length c11)) a10 P2) := by
    have h1 : Own w11 w4.heap.size a10 c10 P2 := H10.out.same fun ad ha hl => hk10.block _ hl fun h => Hd.out _ h ⟨ad, ha, rfl⟩
    exact (h1.setOther _ _ fun ad ha he => n10.out ⟨ad, ha, he⟩).sl
  have o11 : Hid (Sl (w11.setCell ⟨Z, 1, none⟩ (.slice a11 L11.length c11)) a11 L11) := (Ho11.out.setOther _ _ nZ).sl
  have cF : (w11.setCell ⟨Z, 1, none⟩ (.slice a11 L11.length c11)).cell? ⟨Z, 0, none⟩ = some (.int .i64 n) ∧ (w11.setCell ⟨Z, 1, none⟩ (.slice a11 L11.length c11)).cell? ⟨Z, 1, none⟩ = some (.slice a11 L11.length c11) ∧ (w11.setCell ⟨Z, 1, none⟩ (.slice a11 L11.length c11)).cell? ⟨Z, 2, none⟩ = some (.slice a10 P2.length c10) := by
    refine ⟨?_, ?_, ?_⟩
    · rw [World.cell?_setCell_other (h := by simp)]; exact q0
    · rw [World.cell?_setCell_same (u := .slice a9 C2.length c9)]; exact q1
    · rw [World.cell?_setCell_other (h := by simp)]; exact q2
  have zF : Z < (w11.setCell ⟨Z, 1, none⟩ (.slice a11 L11.length c11)).heap.size := by
    have h1 := hb11.size
    have h2 := hrq.size
    simp at h1 h2 ⊢; omega
  have hLl : L11.length ≤ 201 := by rw [Hl11.out]; simp; omega
  clear hB11 nZ hk10 q0 q1 q2 f1 y0 y1 y2 KO HA11 Hk11 Ho11 Hl11 H9 H10 f6 hrq hw6 hb11 hz11
  generalize w11.setCell ⟨Z, 1, none⟩ (.slice a11 L11.length c11) = F at hW4F o10 o11 cF zF ⊢
  have KF : Hid (∀ w', Below F.heap.size F w' → (w'.cell? ⟨W.heap.size, 0, none⟩ = some (.int .i64 i) ∧ w'.cell? ⟨W.heap.size, 1, none⟩ = some (.slice a1 C.length c1) ∧ w'.cell? ⟨W.heap.size, 2, none⟩ = some (.slice a2 P.length c2)) ∧
      (w'.cell? ⟨w3.heap.size, 0, none⟩ = some (.int .i64 n) ∧ w'.cell? ⟨w3.heap.size, 1, none⟩ = some (.slice a7 C2.length c7) ∧ w'.cell? ⟨w3.heap.size, 2, none⟩ = some (.slice a8 P2.length c8)) ∧
      w'.cell? ⟨Z, 0, none⟩ = some (.int .i64 n) ∧ w'.cell? ⟨Z, 1, none⟩ = some (.slice a11 L11.length c11) ∧ w'.cell? ⟨Z, 2, none⟩ = some (.slice a10 P2.length c10)) := by
    intro w' hb
    refine ⟨K.out _ (bthen hv4 (bthen hW4F hb)), K4.out _ (bthen hW4F hb), ?_, ?_, ?_⟩
    · rw [hb.cell (by exact zF)]; exact cF.1
    · rw [hb.cell (by exact zF)]; exact cF.2.1
    · rw [hb.cell (by exact zF)]; exact cF.2.2
  have hxF : Below W.heap.size W F := hxV.trans ((bthen hv4 hW4F).mono (by omega))
  have hyF : Below w1.heap.size w1 F := bthen hy4 hW4F
  clear K K4 cF zF hv1 hv2 hv3 hv4 hy2 hy3 hy4 hVv hxV
  have hFF : Below F.heap.size F F := Below.refl _ _
  obtain ⟨⟨u0, u1, u2⟩, -⟩ := KF.out _ hFF
  go_wp2_with fail
  refine (same_g a a1 a2 c c1 c2 l C P i F (D.out _ hxF).1 (D.out _ hxF).2.1 (D.out _ hxF).2.2 hc hi.out hl hl1 hl2).mono ?_
  rintro e g1 ⟨rfl, hg1⟩
  clear u0 u1 u2
  obtain ⟨-, ⟨u0, u1, u2⟩, -⟩ := KF.out _ hg1
  go_wp2_with fail
  refine (same_g a4 a7 a8 c4 c7 c8 T C2 P2 n g1 (ST.out _ (bthen hyF hg1)) (D4.out _ (bthen hW4F hg1)).1 (D4.out _ (bthen hW4F hg1)).2 hct (by unfold ir; omega) (by omega) (by omega) (by omega)).mono ?_
  rintro e g2 ⟨rfl, hg2⟩
  have hF2 : Below F.heap.size F g2 := bthen hg1 hg2
  clear u0 u1 u2 hg2
  obtain ⟨-, -, u0, u1, u2⟩ := KF.out _ hF2
  go_wp2_with fail
  refine (same_g a4 a11 a10 c4 c11 c10 T L11 P2 n g2 (ST.out _ (bthen hyF hF2)) (o11.out.bel hF2) (o10.out.bel hF2) hct (by unfold ir; omega) (by omega) (by omega) (by omega)).mono ?_
  rintro e g3 ⟨rfl, hg3⟩
  have hF3 : Below F.heap.size F g3 := bthen hF2 hg3
  clear u0 u1 u2 hg3
  go_wp2_with fail
  refine (known_c g3).mono ?_
  rintro e g4 ⟨rfl, hg4⟩
  go_wp2
  go_ret
  exact ⟨rfl, bthen hxF (bthen hF3 hg4)⟩
end Go.Proofs.Ytnaipahapdjakaa
