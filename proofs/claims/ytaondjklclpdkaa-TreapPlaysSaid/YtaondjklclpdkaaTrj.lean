/- The numbers of the marks of a treap in memory that lie within two places. -/
import Derived.Test.YtaondjklclpdkaaTri
namespace Go.Proofs.Ytaondjklclpdkaa
open Go.RowKit

set_option maxHeartbeats 8000000 in
theorem within_c (f q : Int) (t : Tr) : ∀ (w : World) (F : Nat → Prop) (p : Option Addr) (base : Nat) (a : Option Addr) (c : Nat) (L : List Int), TrAt w F p t → I.Own w base a c L → base ≤ w.heap.size → Dis F (Blk a) → (∀ x, x ∈ t.ord → ir x.id) → L.length + t.size ≤ 1099511627776 →
    Calls Try.prog 40 #[.pointer p, .int .i64 f, .int .i64 q, .slice a L.length c] w (ApI w base a (L ++ wiT f q t)) := by
  induction t with
  | nil =>
    intro w F p base a c L h ho hB hd _ hs
    obtain rfl : p = none := h
    have Ho := hid ho
    go_enter Try.func40, Try.ntmps40
    go_wp2
    go_ret
    exact ⟨a, c, L, rfl, by simp [Hid, wiT], Ho.out, Kpt.refl _ _, At.refl _ _⟩
  | node l x r ihl ihr =>
    intro w F p base a c L h ho hB hd hi hs
    obtain ⟨b, pl, pr, Fl, Fr, rfl, hb, hn, hl, hr, hdd, h1, h2⟩ := h.lt
    have hnb : ¬ Blk a b := fun h => hd b hb.1 h
    have KN := nk_kept hn hnb
    simp only [Tr.size] at hs
    have Il := hid (ihl w Fl pl base a c L h1 ho hB (fun k a b => hd k (hl k a).1.1 b) (fun y hy => hi y (by simp [Tr.ord, hy])) (by omega))
    have hz1 := wiT_len f q l
    have Ir : Hid (∀ w' a1 c1 L1, L1.length ≤ L.length + l.size + 1 → Kpt (Blk a) w w' → At w a a1 → I.Own w' base a1 c1 L1 → Calls Try.prog 40 #[.pointer pr, .int .i64 f, .int .i64 q, .slice a1 L1.length c1] w' (ApI w' base a1 (L1 ++ wiT f q r))) := fun w' a1 c1 L1 hL hk hat ho1 =>
      ihr w' Fr pr base a1 c1 L1 (h2.kpt hk fun k a b => hd k (hr k a).1.1 b) ho1 (Nat.le_trans hB hk.size)
        (Dis.at (fun k a b => hd k (hr k a).1.1 b) (fun k hk => (hr k hk).1.2) hat) (fun y hy => hi y (by simp [Tr.ord, hy])) (by omega)
    have hq : L.length + (wiT f q l).length + 1 ≤ 1099511627776 := by omega
    have hlz : Hid ((wiT f q l).length ≤ l.size) := hz1
    have Hx := hid (hi x (by simp [Tr.ord]))
    have kk := KN.out _ (Kpt.refl _ _)
    obtain ⟨g0, g1, g2, g3, g4, g5⟩ := kk
    have Ho0 := hid ho
    clear hn hl hr hdd h1 h2 hd ihl ihr hs hz1 h hb hnb ho
    have HB := hid hB
    clear hB
    by_cases hc0 : f ≤ x.fr
    · have ht0 : decide (f ≤ x.fr) = true := by simpa using hc0
      go_enter Try.func40, Try.ntmps40
      go_wp2_with fail
      refine Il.out.mono ?_
      rintro e v1 ⟨a1, c1, L1, rfl, hL1, ho1, hk1, hat1⟩
      have Ho1 := hid ho1
      have Hk1 := hid hk1
      have At1 := hid hat1
      have zz := hk1.size
      have hbv : base ≤ v1.heap.size := Nat.le_trans HB.out zz
      have hq1 : L1.length + 1 ≤ 1099511627776 := by rw [hL1.out]; simp; omega
      have hq2 : Hid (L1.length = L.length + (wiT f q l).length) := by rw [hL1.out]; simp [Hid]
      clear ho1 hk1 hat1 g0 g1 g2 g3 g4 g5 hq
      have kk := KN.out _ Hk1.out
      obtain ⟨g0, g1, g2, g3, g4, g5⟩ := kk
      by_cases hc2 : x.to ≤ q
      · have ht2 : decide (x.to ≤ q) = true := by simpa using hc2
        by_cases hc1 : q < x.fr
        · have ht1 : decide (q < x.fr) = true := by simpa using hc1
          go_wp2_with ((at_builtin; (refine I.wpL_appn rfl (.tmp 34) (.tmp 40) rfl base a1 (some ⟨v1.heap.size, 0, none⟩) L1.length 1 c1 1 L1 [x.id] rfl (by first | rfl | simp | omega) (Ho1.out.grow (by (repeat' (first | exact Below.refl _ _ | assumption | refine bdrewN ?_ _ | refine Below.drew ?_ | refine bal ?_ _ | refine bthen ?_ (by assumption))))) rfl (by first | rfl | simp | omega) (I.Sl.lit' v1 [x.id] 3 _ rfl (by simp) (I.rng_one Hx.out) _ rfl) (by simp; omega) (by simp; omega) ?_); intro a2 c2 w2 L2 Hl2 ho2 hb2 hk2 hA2; have HA2 := hid hA2; clear hA2; have Ho2 := hid ho2; clear ho2; have Hk2 := hid hk2; clear hk2; have hz2 := hb2.size); have kx2 : Kpt (Blk a) w w2 := (Hk1.out.alloc _).at At1.out Hk2.out; clear g0 g1 g2 g3 g4 g5; have kk := KN.out _ kx2; obtain ⟨g0, g1, g2, g3, g4, g5⟩ := kk)
          have At2 := hid (At1.out.tr HA2.out (by simp; omega))
          have Kx2 := hid kx2
          have hs2 := hid kx2.size
          clear kx2
          go_ret
          exact ⟨a2, c2, L2, rfl, (by rw [Hl2.out, hL1.out, wiT, if_pos hc0, if_pos hc2, if_pos hc1]; simp [Hid]), Ho2.out, Kx2.out, At2.out⟩
        · have ht1 : decide (q < x.fr) = false := by simpa using hc1
          go_wp2_with ((at_builtin; (refine I.wpL_appn rfl (.tmp 34) (.tmp 40) rfl base a1 (some ⟨v1.heap.size, 0, none⟩) L1.length 1 c1 1 L1 [x.id] rfl (by first | rfl | simp | omega) (Ho1.out.grow (by (repeat' (first | exact Below.refl _ _ | assumption | refine bdrewN ?_ _ | refine Below.drew ?_ | refine bal ?_ _ | refine bthen ?_ (by assumption))))) rfl (by first | rfl | simp | omega) (I.Sl.lit' v1 [x.id] 3 _ rfl (by simp) (I.rng_one Hx.out) _ rfl) (by simp; omega) (by simp; omega) ?_); intro a2 c2 w2 L2 Hl2 ho2 hb2 hk2 hA2; have HA2 := hid hA2; clear hA2; have Ho2 := hid ho2; clear ho2; have Hk2 := hid hk2; clear hk2; have hz2 := hb2.size); have kx2 : Kpt (Blk a) w w2 := (Hk1.out.alloc _).at At1.out Hk2.out; clear g0 g1 g2 g3 g4 g5; have kk := KN.out _ kx2; obtain ⟨g0, g1, g2, g3, g4, g5⟩ := kk)
          have At2 := hid (At1.out.tr HA2.out (by simp; omega))
          have Kx2 := hid kx2
          have hs2 := hid kx2.size
          clear kx2
          refine (Ir.out _ a2 c2 L2 (by have := hlz.out; have := hq2.out; rw [Hl2.out]; simp; omega) (Kx2.out) (At2.out) (Ho2.out)).mono ?_
          rintro e v3 ⟨a3, c3, L3, rfl, hL3, ho3, hk3, hat3⟩
          have Ho3 := hid ho3
          have Hk3 := hid hk3
          have At3 := hid hat3
          clear ho3 hk3 hat3 g0 g1 g2 g3 g4 g5
          go_wp2_with fail
          go_ret
          exact ⟨a3, c3, L3, rfl, (by rw [hL3.out, Hl2.out, hL1.out, wiT, if_pos hc0, if_pos hc2, if_neg (by omega : ¬ q < x.fr)]; simp [Hid]), Ho3.out, (Kx2.out).at (At2.out) Hk3.out, (At2.out).tr At3.out hs2.out⟩
      · have ht2 : decide (x.to ≤ q) = false := by simpa using hc2
        by_cases hc1 : q < x.fr
        · have ht1 : decide (q < x.fr) = true := by simpa using hc1
          go_wp2_with fail
          go_ret
          exact ⟨a1, c1, L1, rfl, (by rw [hL1.out, wiT, if_pos hc0, if_neg (by omega : ¬ x.to ≤ q), if_pos hc1]; simp [Hid]), Ho1.out, Hk1.out, At1.out⟩
        · have ht1 : decide (q < x.fr) = false := by simpa using hc1
          go_wp2_with fail
          refine (Ir.out _ a1 c1 L1 (by have := hlz.out; have := hq2.out; omega) (Hk1.out) (At1.out) (Ho1.out)).mono ?_
          rintro e v3 ⟨a3, c3, L3, rfl, hL3, ho3, hk3, hat3⟩
          have Ho3 := hid ho3
          have Hk3 := hid hk3
          have At3 := hid hat3
          clear ho3 hk3 hat3 g0 g1 g2 g3 g4 g5
          go_wp2_with fail
          go_ret
          exact ⟨a3, c3, L3, rfl, (by rw [hL3.out, hL1.out, wiT, if_pos hc0, if_neg (by omega : ¬ x.to ≤ q), if_neg (by omega : ¬ q < x.fr)]; simp [Hid]), Ho3.out, (Hk1.out).at (At1.out) Hk3.out, (At1.out).tr At3.out zz⟩
    · have ht0 : decide (f ≤ x.fr) = false := by simpa using hc0
      by_cases hc1 : q < x.fr
      · have ht1 : decide (q < x.fr) = true := by simpa using hc1
        go_enter Try.func40, Try.ntmps40
        go_wp2_with fail
        go_ret
        exact ⟨a, c, L, rfl, (by rw [wiT, if_neg (by omega : ¬ f ≤ x.fr), if_pos hc1]; simp [Hid]), Ho0.out, Kpt.refl _ _, At.refl _ _⟩
      · have ht1 : decide (q < x.fr) = false := by simpa using hc1
        go_enter Try.func40, Try.ntmps40
        go_wp2_with fail
        refine (Ir.out _ a c L (by omega) (Kpt.refl _ _) (At.refl _ _) (Ho0.out)).mono ?_
        rintro e v3 ⟨a3, c3, L3, rfl, hL3, ho3, hk3, hat3⟩
        have Ho3 := hid ho3
        have Hk3 := hid hk3
        have At3 := hid hat3
        clear ho3 hk3 hat3 g0 g1 g2 g3 g4 g5
        go_wp2_with fail
        go_ret
        exact ⟨a3, c3, L3, rfl, (by rw [hL3.out, wiT, if_neg (by omega : ¬ f ≤ x.fr), if_neg (by omega : ¬ q < x.fr)]; simp [Hid]), Ho3.out, (Kpt.refl (Blk a) w).at (At.refl _ _) Hk3.out, (At.refl w a).tr At3.out (Nat.le_refl _)⟩
end Go.Proofs.Ytaondjklclpdkaa
