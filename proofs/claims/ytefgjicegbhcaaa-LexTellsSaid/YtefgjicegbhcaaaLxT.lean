/- LexTells: the walk. -/
import Derived.Test.YtefgjicegbhcaaaLxE
import Derived.Test.YtefgjicegbhcaaaTpy
namespace Go.Proofs.Ytefgjicegbhcaaa
open Go.RowKit

set_option maxRecDepth 20000 in
set_option maxHeartbeats 20000000 in
theorem tells13_w (a0 : Option Addr) (c0 : Nat) (l0 : List Int) (a1 : Option Addr) (c1 : Nat) (l1 : List Int) (x2 x3 : Int) (W : World) (q0 : l0.length ≤ 35184372087808) (h0 : Sl W a0 l0) (h1 : I.Sl W a1 l1) (y3 : -2147483648 ≤ x3 ∧ x3 ≤ 2147483647) :
    Calls Try.prog 3 #[.slice a0 l0.length c0, .slice a1 l1.length c1, .int .i64 x2, .int .i32 x3] W fun e w' => e = .returned (.bool true) ∧ Below W.heap.size W w' := by
  obtain ⟨V, hV⟩ : ∃ V, V = W.alloc (.cells #[.slice a1 l1.length c1, .int .i64 0] 26) := ⟨_, rfl⟩
  have bV : Below W.heap.size W V := by subst hV; (repeat' (first | exact Below.refl _ _ | assumption | refine bdrewN ?_ _ | refine Below.drew ?_ | refine bal ?_ _ | refine bthen ?_ (by assumption)))
  have TV : TapeAt V W.heap.size a1 l1 c1 0 := by
    subst hV
    exact ⟨by simp, by rw [cell_alloc_new]; rfl, by rw [cell_alloc_new]; rfl, by simp, Nat.zero_le _⟩
  have hplt : W.heap.size < V.heap.size := TV.lt
  have BD := hid (body_all W.heap.size a1 l1 c1 2 (by decide) V ⟨0, TV⟩ (fun w' hb => h1.bel (bV.trans hb)))
  have BV := hid bV
  have H0 := hid h0
  clear bV TV h0 h1
  go_enter Try.func3, Try.ntmps3
  go_wp2_with fail
  rw [← hV]; clear hV
  refine BD.out.mono ?_
  rintro _ w1 ⟨ab, cb, B, rfl, ob, hB, -, kb⟩
  have hBl : B.length ≤ 34080 := hB
  have b1 : Below W.heap.size W w1 := BV.out.trans (kb.belowp (by omega))
  have z1 := b1.size
  have zk := kb.size
  have B1 := hid b1
  have OB := hid (ob.base_le (show W.heap.size + 1 ≤ V.heap.size by omega))
  clear ob kb BD b1 hB
  go_upto_region 3 with (at_builtin; (refine wpL_appn rfl ((.const (.slice none 0 0))) (.tmp 15) rfl w1.heap.size none ab 0 B.length 0 cb [] B rfl (by first | rfl | simp | omega) (Own.nil _ _) rfl (by first | rfl | simp | omega) OB.out.sl (by simp; omega) (Nat.le_refl _) ?_); intro a2 c2 w2 L2 Hl2 ho2 hb2 hk2 hA2; have HA2 := hid hA2; clear hA2; have Ho2 := hid ho2; clear ho2; have Hk2 := hid hk2; clear hk2; have hz2 := hb2.size)
  obtain rfl : L2 = B := by simpa using Hl2.out
  have B2 := hid (B1.out.trans (hb2.mono z1))
  have SB := hid (OB.out.sl.bel hb2)
  have hob : Hid (∀ ad, ab = some ad → ad.block < w1.heap.size) := hid fun ad had => (OB.out.1.lt ad.block (by rw [had]; rfl)).2
  clear hb2 OB
  by_cases h0 : L2.length = 0
  · have e1 : decide ((0 : Int) < (L2.length : Int)) = false := decide_eq_false (by omega)
    have e2 : decide (0 < L2.length) = false := decide_eq_false (by omega)
    obtain ⟨C, hC0⟩ : ∃ C, C = L2 := ⟨_, rfl⟩
    have hC : C.length = L2.length := by rw [hC0]
    have SC4 : Hid (Sl w2 a2 C) := hid (by rw [hC0]; exact Ho2.out.sl)
    have SB4 := SB
    have B4 := B2
    clear h0 hC0
    generalize w2 = V4 at *
    go_wp2_with fail
    refine (same13_c a0 c0 l0 V4 (H0.out.bel B4.out) (by omega)).mono ?_
    rintro _ w5 ⟨rfl, b5⟩
    have B5 := hid (B4.out.trans (b5.mono B4.out.size))
    have SB5 := hid (SB4.out.bel b5)
    have SC5 := hid (SC4.out.bel b5)
    clear b5
    go_wp2_with fail
    refine (same13_c ab cb L2 w5 SB5.out (by omega)).mono ?_
    rintro _ w6 ⟨rfl, b6⟩
    have B6 := hid (B5.out.trans (b6.mono B5.out.size))
    have CC := same13_c a2 c2 C w6 (SC5.out.bel b6) (by omega)
    rw [hC] at CC
    have CC := hid CC
    clear b6
    go_wp2_with fail
    refine CC.out.mono ?_
    rintro _ w7 ⟨rfl, b7⟩
    have B7 := hid (B6.out.trans (b7.mono B6.out.size))
    clear b7
    go_wp2_with fail
    refine (known13_c w7).mono ?_
    rintro _ w8 ⟨rfl, b8⟩
    have B8 := hid (B7.out.trans (b8.mono B7.out.size))
    clear b8
    go_wp2_with fail
    go_ret
    exact ⟨rfl, B8.out⟩
  · have e1 : decide ((0 : Int) < (L2.length : Int)) = true := decide_eq_true (by omega)
    have e2 : decide (0 < L2.length) = true := decide_eq_true (by omega)
    have IX := hid (index_c x2 L2.length w2 (by omega) (by omega))
    go_wp2_with fail
    refine IX.out.mono ?_
    rintro _ _ ⟨⟨k, hk, rfl⟩, rfl⟩
    rcases Ho2.out.shape with ⟨_, _, h9⟩ | ⟨g, rfl, hg1, hg2, hg3⟩
    · rw [h9] at h0; simp at h0
    obtain ⟨b', o', he, hcell⟩ := Ho2.out.sl.at hk
    simp only [Option.some.injEq, Addr.mk.injEq, and_true] at he
    obtain ⟨rfl, rfl⟩ := he
    have ck := hcell k hk
    rw [Nat.zero_add] at ck
    have fk := Ho2.out.free k
    obtain ⟨C, hC0⟩ : ∃ C, C = L2.set k x3 := ⟨_, rfl⟩
    have hC : C.length = L2.length := by rw [hC0, List.length_set]
    have SC4 : Hid (Sl (w2.setCell ⟨g, k, none⟩ (.int .i32 x3)) (some ⟨g, 0, none⟩) C) := hid (by rw [hC0]; exact (Ho2.out.stored k x3 y3).sl)
    have SB4 : Hid (Sl (w2.setCell ⟨g, k, none⟩ (.int .i32 x3)) ab L2) := hid (SB.out.setOther _ _ (fun ad had => by have := hob.out ad had; show ad.block ≠ g; omega))
    have B4 : Hid (Below W.heap.size W (w2.setCell ⟨g, k, none⟩ (.int .i32 x3))) := hid (B2.out.setCell (by show W.heap.size ≤ g; omega) _)
    clear hcell hC0
    generalize hV4 : w2.setCell ⟨g, k, none⟩ (.int .i32 x3) = V4 at *
    go_upto_region 5 with fail
    clear hV4
    go_wp2_with fail
    refine (same13_c a0 c0 l0 V4 (H0.out.bel B4.out) (by omega)).mono ?_
    rintro _ w5 ⟨rfl, b5⟩
    have B5 := hid (B4.out.trans (b5.mono B4.out.size))
    have SB5 := hid (SB4.out.bel b5)
    have SC5 := hid (SC4.out.bel b5)
    clear b5
    go_wp2_with fail
    refine (same13_c ab cb L2 w5 SB5.out (by omega)).mono ?_
    rintro _ w6 ⟨rfl, b6⟩
    have B6 := hid (B5.out.trans (b6.mono B5.out.size))
    have CC := same13_c (some ⟨g, 0, none⟩) c2 C w6 (SC5.out.bel b6) (by omega)
    rw [hC] at CC
    have CC := hid CC
    clear b6
    go_wp2_with fail
    refine CC.out.mono ?_
    rintro _ w7 ⟨rfl, b7⟩
    have B7 := hid (B6.out.trans (b7.mono B6.out.size))
    clear b7
    go_wp2_with fail
    refine (known13_c w7).mono ?_
    rintro _ w8 ⟨rfl, b8⟩
    have B8 := hid (B7.out.trans (b8.mono B7.out.size))
    clear b8
    go_wp2_with fail
    go_ret
    exact ⟨rfl, B8.out⟩
end Go.Proofs.Ytefgjicegbhcaaa
