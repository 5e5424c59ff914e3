/- ResynMade: the walk. -/
import Derived.Test.YtniilphbbcbpcaaDro
import Derived.Test.YtniilphbbcbpcaaPlb
import Derived.Deep.CutBlock
import Derived.Deep.DeepCutAuto
namespace Go.Proofs.Ytniilphbbcbpcaa
open Go.RowKit ReM

set_option maxRecDepth 20000 in
set_option maxHeartbeats 32000000 in
theorem made_w (a0 a4 : Option Addr) (c0 c4 : Nat) (l0 l4 : List Int) (x1 x2 x3 : Int) (W : World) (h0 : I.Sl W a0 l0) (h4 : Sl W a4 l4) (hq : l4.length ≤ 35184372087808) (y3 : -2147483648 ≤ x3 ∧ x3 ≤ 2147483647) :
    Calls Try.prog 3 #[.slice a0 l0.length c0, .int .i64 x1, .int .i64 x2, .int .i32 x3, .slice a4 l4.length c4] W fun e w' => e = .returned (.bool true) ∧ Below W.heap.size W w' := by
  obtain ⟨V, hV⟩ : ∃ V, V = W.alloc (.cells #[.slice a0 l0.length c0, .int .i64 0] 26) := ⟨_, rfl⟩
  have tV : TapeAt V W.heap.size a0 l0 c0 0 := by
    subst hV
    exact ⟨by simp, by rw [cell_alloc_new]; rfl, by rw [cell_alloc_new]; rfl, by simp, by omega⟩
  have bV : Below W.heap.size W V := by subst hV; (repeat' (first | exact Below.refl _ _ | assumption | refine bdrewN ?_ _ | refine Below.drew ?_ | refine bal ?_ _ | refine bthen ?_ (by assumption)))
  have zV : V.heap.size = W.heap.size + 1 := by subst hV; simp
  have SV : ∀ w', Below W.heap.size V w' → I.Sl w' a0 l0 := fun w' hb => h0.bel (bV.trans hb)
  have C := hid (pattern_all W.heap.size a0 l0 c0 3 (by omega) V ⟨_, tV⟩ SV)
  have H4 := hid h4
  clear tV SV h0 h4
  go_enter Try.func3, Try.ntmps3
  go_wp2_with fail
  rw [← hV]; clear hV
  refine C.out.mono ?_
  rintro _ w1 ⟨aP, cP, P, rfl, hoP, -, hlP, -, hk⟩
  have hlP : P.length ≤ 15540 := by simpa [rndP] using hlP
  have B1 := hid (bV.trans (hk.belowp (by omega)))
  have zw1 := hk.size
  have kP : P.length ≤ cP := by rcases hoP.shape with ⟨_, _, h⟩ | ⟨_, _, _, _, h⟩; simp [h]; exact h
  have HoP := hid hoP
  have HPlt := hid (fun k (hk : Blk aP k) => (show k < w1.heap.size from (hoP.1.lt k (by obtain ⟨ad, ha, rfl⟩ := hk; rw [ha]; rfl)).2))
  have zw1' : W.heap.size ≤ w1.heap.size := by omega
  have Wn : IntKind.i64.wrap ((P.length : Int) + 1) = ((P.length + 1 : Nat) : Int) := by rw [IntKind.wrap_i64]; omega
  clear hoP hk C bV
  go_wp2_with fail
  rw [show (P.length : Int) + 1 = ((P.length + 1 : Nat) : Int) from by omega]
  refine (index_c x1 (P.length + 1) w1 (by omega) (by omega)).mono ?_
  rintro _ _ ⟨⟨k, hk, rfl⟩, rfl⟩
  go_upto_if 27 with ((at_builtin; (refine wpL_appn rfl ((.const (.slice none 0 0))) (.tmp 23) rfl w1.heap.size none aP 0 P.length 0 cP [] P rfl (by first | rfl | simp | omega) (Own.nil _ _) rfl (by first | rfl | simp | omega) HoP.out.sl (by simp; omega) (Nat.le_refl _) ?_); intro a3 c3 w3 L3 Hl3 ho3 hb3 hk3 hA3; have HA3 := hid hA3; clear hA3; have Ho3 := hid ho3; clear ho3; have Hk3 := hid hk3; clear hk3; have hz3 := hb3.size))
  have B3 := hid (B1.out.trans (hb3.mono zw1'))
  have HP3 := hid (HoP.out.grow hb3)
  have hl3 : L3.length = P.length := by rw [Hl3.out]; rfl
  have Hl3' := hid hl3
  clear hb3 HoP B1
  obtain ⟨n, hn⟩ : ∃ n, n = L3.length := ⟨_, rfl⟩
  have Hn := hid hn
  rw [← hn]
  rw [← hn] at hl3
  have P0 : Hid (∃ X : List Int, X.length = n ∧ Own w3 w1.heap.size a3 c3 X) := ⟨L3, hn.symm, Ho3.out⟩
  have HN := hid hl3
  have hn15 : n ≤ 15540 := by omega
  clear Ho3 Hl3 hn hl3
  go_cut [] (fun wx => Hid (∃ X : List Int, X.length = n ∧ Own wx w1.heap.size a3 c3 X) ∧ Hid (Own wx V.heap.size aP cP P) ∧ Hid (Below W.heap.size W wx))
  case first =>
    by_cases hn0 : n = 0
    · have b1 : decide ((0 : Int) < (n : Int)) = false := decide_eq_false (by omega)
      go_wp2_with fail
      go_meet
      exact ⟨P0, HP3, B3⟩
    · have b1 : decide ((0 : Int) < (n : Int)) = true := decide_eq_true (by omega)
      go_wp2_with fail
      refine (index_c x2 n w3 (by omega) (by omega)).mono ?_
      rintro _ _ ⟨⟨i, hi, rfl⟩, rfl⟩
      obtain ⟨X, hX, oX⟩ := P0.out
      obtain ⟨g3, rfl, hg3, hg3'⟩ : ∃ g, a3 = some ⟨g, 0, none⟩ ∧ w1.heap.size ≤ g ∧ g < w3.heap.size := by
        rcases oX.shape with ⟨_, _, h0⟩ | ⟨g, h0, h1, h2, _⟩
        · rw [h0] at hX; simp at hX; omega
        · exact ⟨g, h0, h1, h2⟩
      obtain ⟨b', o', he, hc⟩ := oX.sl.at (i := i) (by omega)
      simp only [Option.some.injEq, Addr.mk.injEq, and_true] at he
      obtain ⟨rfl, rfl⟩ := he
      have ck := hc i (by omega)
      rw [Nat.zero_add] at ck
      have fk := oX.free i
      have OX := hid oX
      have zi : (i : Int) < (n : Int) := by omega
      clear hc oX
      go_wp2_with fail
      go_meet
      refine ⟨hid ⟨X.set i x3, by simpa using hX, OX.out.stored i x3 y3⟩, hid (HP3.out.setOther _ _ fun ad ha hb => ?_), hid (B3.out.setCell (by show W.heap.size ≤ g3; omega) _)⟩
      have := (HP3.out.1.lt ad.block (by rw [ha]; rfl)).2
      have h2 := HPlt.out ad.block ⟨ad, ha, rfl⟩
      have hb' : ad.block = g3 := hb
      omega
  case rest =>
    rename World => w5
    obtain ⟨⟨X, hX, oX⟩, HP5, B5⟩ := hcut
    have OX := hid oX
    clear oX P0 HP3 B3
    have SC1 := hid (same_w aP cP P w5 HP5.out.sl kP (by omega))
    have z5 := B5.out.size
    have kX : n ≤ c3 := by
      rcases OX.out.shape with ⟨_, _, h⟩ | ⟨_, _, _, _, h⟩
      · rw [h] at hX; simp at hX; omega
      · omega
    have HX := hid hX
    have Hn15 := hid hn15
    clear hX
    go_wp2_with fail
    refine SC1.out.mono ?_
    rintro _ w6 ⟨rfl, b6⟩
    have HP6 := hid (HP5.out.grow b6)
    have OX6 := hid (OX.out.grow b6)
    have B6 := hid (B5.out.trans (b6.mono z5))
    have z6 := B6.out.size
    obtain ⟨a', c', D, HD, sD, hDc, hrun⟩ := slice_to HP6.out.sl k cP (by omega) kP
    have hDl : D.length ≤ 15540 := by rw [HD.out, List.length_take]; omega
    have SC2 := hid (same_w a' c' D w6 sD hDc (by omega))
    clear b6 SC1 HP5 OX HD sD B5
    go_wp2_with fail
    refine SC2.out.mono ?_
    rintro _ w7 ⟨rfl, b7⟩
    have HP7 := hid (HP6.out.grow b7)
    have OX7 := hid (OX6.out.grow b7)
    have B7 := hid (B6.out.trans (b7.mono z6))
    have z7 := B7.out.size
    have SC3 := same_w a3 c3 X w7 OX7.out.sl (by rw [HX.out]; exact kX) (by rw [HX.out]; have := Hn15.out; omega)
    rw [HX.out] at SC3
    have SC3 := hid SC3
    clear b7 SC2 HP6 OX6 hrun B6
    go_wp2_with fail
    refine SC3.out.mono ?_
    rintro _ w8 ⟨rfl, b8⟩
    have HP8 := hid (HP7.out.grow b8)
    have B8 := hid (B7.out.trans (b8.mono z7))
    have z8 := B8.out.size
    have JC := hid (join_c aP a4 cP c4 P l4 w8 HP8.out.sl (H4.out.bel B8.out) (by omega))
    clear b8 SC3 HP7 OX7 B7
    go_wp2_with fail
    refine JC.out.mono ?_
    rintro _ w9 ⟨aJ, cJ, rfl, oJ, b9⟩
    have B9 := hid (B8.out.trans (b9.mono z8))
    have z9 := B9.out.size
    obtain ⟨J, hJ⟩ : ∃ J, J = P ++ l4 := ⟨_, rfl⟩
    rw [← hJ] at oJ ⊢
    have hJl : J.length ≤ 35184373137406 := by rw [hJ, List.length_append]; omega
    have kJ : J.length ≤ cJ := by rcases oJ.shape with ⟨_, _, h⟩ | ⟨_, _, _, _, h⟩; simp [h]; exact h
    have SC4 := hid (same_w aJ cJ J w9 oJ.sl kJ hJl)
    clear hJ oJ b9 JC B8
    go_wp2_with fail
    refine SC4.out.mono ?_
    rintro _ w10 ⟨rfl, b10⟩
    have B10 := hid (B9.out.trans (b10.mono z9))
    have z10 := B10.out.size
    clear b10 SC4 B9
    go_wp2_with fail
    refine (known_c w10).mono ?_
    rintro _ w11 ⟨rfl, b11⟩
    have B11 := hid (B10.out.trans (b11.mono z10))
    clear b11
    go_wp2_with fail
    go_ret
    exact ⟨rfl, B11.out⟩
end Go.Proofs.Ytniilphbbcbpcaa
