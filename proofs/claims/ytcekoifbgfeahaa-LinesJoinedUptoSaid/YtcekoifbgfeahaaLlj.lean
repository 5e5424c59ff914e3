/- Layer 4's law: joined. -/
import Derived.Test.YtcekoifbgfeahaaLla
namespace Go.Proofs.Ytcekoifbgfeahaa
open Go.RowKit

set_option maxHeartbeats 800000 in
theorem joined_l (a1 a2 : Option Addr) (c1 c2 : Nat) (l1 l2 : List Int) (x : Int) (W : World) (h1 : Sl W a1 l1) (h2 : Sl W a2 l2) (q1 : l1.length ≤ 1048576) (q2 : l2.length ≤ 1048576) :
    Calls Try.prog 8 #[.slice a1 l1.length c1, .slice a2 l2.length c2, .int .i64 x] W fun e W' => e = .returned (.bool true) ∧ Below W.heap.size W W' := by
  have S1 := hid (show ∀ w', Below W.heap.size W w' → Sl w' a1 l1 from fun w' hb => h1.bel hb)
  have S2 := hid (show ∀ w', Below W.heap.size W w' → Sl w' a2 l2 from fun w' hb => h2.bel hb)
  have H1 := hid h1
  have H2 := hid h2
  clear h1 h2
  go_enter Try.func8, Try.ntmps8
  go_wp2_with fail
  refine (join_c a1 a2 c1 c2 l1 l2 W H1.out H2.out (by omega)).mono ?_
  generalize ht : l1 ++ l2 = t
  rintro e w1 ⟨a, c, rfl, ho, hb1⟩
  have hlen : t.length = l1.length + l2.length := by rw [← ht, List.length_append]
  have happ : lcnt t + 1 = lcnt l1 + lcnt l2 := by rw [← ht]; exact lcnt_app l1 l2
  have hlc : t.length ≤ c := by
    rcases ho.shape with ⟨_, rfl, h0⟩ | ⟨_, _, _, _, h0⟩
    · rw [h0]; simp
    · exact h0
  have S := hid (show ∀ w', Below w1.heap.size w1 w' → Sl w' a t from fun w' hb => ho.sl.bel hb)
  have hy1 : Below w1.heap.size w1 w1 := Below.refl _ _
  have hn1 := lcnt_le l1
  have hn2 := lcnt_le l2
  have hn3 := lcnt_pos l1
  have hn4 := lcnt_pos l2
  clear ho ht
  generalize hn : lcnt t = n at happ
  have HN := hid hn
  generalize ha : lcnt l1 = na at happ hn1 hn3
  have HA := hid ha
  generalize hb : lcnt l2 = nb at happ hn2 hn4
  have HB := hid hb
  clear hn ha hb
  have htl : t.length ≤ 2097152 := by omega
  have hnn : 0 < n ∧ n ≤ 2097154 := by omega
  have b0 : ((n : Int) != (na : Int) + nb - 1) = false := by simp; omega
  clear hlen happ
  go_wp2_with fail
  refine (count_c a c t w1 (S.out _ hy1)).mono ?_
  rw [HN.out]
  rintro e w' ⟨rfl, rfl⟩
  go_wp2_with fail
  refine (count_c a1 c1 l1 w1 (S1.out _ hb1)).mono ?_
  rw [HA.out]
  rintro e w' ⟨rfl, rfl⟩
  go_wp2_with fail
  refine (count_c a2 c2 l2 w1 (S2.out _ hb1)).mono ?_
  rw [HB.out]
  rintro e w' ⟨rfl, rfl⟩
  go_wp2_with fail
  refine (count_c a c t w1 (S.out _ hy1)).mono ?_
  rw [HN.out]
  rintro e w' ⟨rfl, rfl⟩
  go_wp2_with fail
  refine (index_i x n _ (by omega) (by omega)).mono ?_
  rintro e w' ⟨⟨k, hk, rfl⟩, rfl⟩
  obtain ⟨p, hp⟩ := lst_some (l := t) (k := k) (by have := HN.out; omega)
  have hfl := lst_le hp
  have hnl := nx_le hfl
  have hng := nx_ge t p
  have hlin := (lin_nat t k).trans hp
  have E := hid (show lsV t k = p ∧ lsE t k = 0 ∧ lwV t k = nx t p - p ∧ liV t k = ind ((t.take (nx t p)).drop p) by simp [lsV, lsE, lwV, liV, hlin, lin_ind])
  clear hp hlin
  generalize nx t p = m at *
  go_wp2_with fail
  refine (start_c a c t k w1 (S.out _ hy1)).mono ?_
  rw [E.out.1, E.out.2.1]
  rintro e w2 ⟨rfl, hb2⟩
  have hx2 := bthen hb1 hb2
  have hy2 := bthen hy1 hb2
  clear hb2
  go_wp2_with fail
  refine (width_c a c t k w2 (S.out _ hy2)).mono ?_
  rw [E.out.2.2.1, E.out.2.1]
  rintro e w3 ⟨rfl, hb3⟩
  have hx3 := bthen hx2 hb3
  have hy3 := bthen hy2 hb3
  clear hb3
  have hmp : ((m - p : Nat) : Int) = (m : Int) - p := by omega
  rw [hmp]
  obtain ⟨a', c', D, HD, sD, hDc, hrun⟩ := slice_mid (S.out _ hy3) p m c hng hnl hlc
  have SD := hid (show ∀ w', Below w3.heap.size w3 w' → Sl w' a' D from fun w' hb => sD.bel hb)
  have hz3 : Below w3.heap.size w3 w3 := Below.refl _ _
  have c3 : ((p : Int) + (m - p)) = m := by omega
  have E2 := hid (show liV t k = liV D 0 by rw [E.out.2.2.2, HD.out]; rfl)
  have E3 := hid (show lsE D 0 = 0 from rfl)
  have hi40 := liV_len D 0
  clear sD hmp
  go_wp2_with fail
  refine (indent_c a c t k w3 (S.out _ hy3) hlc).mono ?_
  rw [E2.out, E.out.2.1]
  rintro e w4 ⟨a4, c4, rfl, ho4, hb4⟩
  have HO4 := hid ho4
  have hx4 := bthen hx3 hb4
  have hy4 := bthen hy3 hb4
  have hz4 := bthen hz3 hb4
  have hv4 : Below w4.heap.size w4 w4 := Below.refl _ _
  clear hb4 ho4
  go_wp2_with fail
  refine (indent_c a' c' D 0 w4 (SD.out _ hz4) hDc).mono ?_
  rw [E3.out]
  rintro e w5 ⟨a5, c5, rfl, ho5, hb5⟩
  have HO5 := hid ho5
  have hx5 := bthen hx4 hb5
  have hv5 := bthen hv4 hb5
  clear hb5 ho5
  generalize liV D 0 = I at *
  go_wp2_with fail
  refine (rsame_c a4 a5 c4 c5 I I w5 (HO4.out.sl.bel hv5) HO5.out.sl).mono ?_
  rw [eqM_self]
  rintro e w' ⟨rfl, n7, rfl⟩
  have hx7 := bdrewN hx5 n7
  go_wp2_with fail
  refine (known_l _).mono ?_
  rintro e w8 ⟨rfl, hb8⟩
  have hx8 := bthen hx7 hb8
  go_wp2
  go_ret
  exact ⟨rfl, hx8⟩
end Go.Proofs.Ytcekoifbgfeahaa
