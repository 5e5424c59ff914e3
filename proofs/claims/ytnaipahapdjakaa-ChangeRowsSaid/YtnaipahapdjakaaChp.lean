/- Package change: Least. -/
import Derived.Test.YtnaipahapdjakaaChn
namespace Go.Proofs.Ytnaipahapdjakaa
open Go.RowKit

set_option maxHeartbeats 4000000 in
theorem least_c (a1 a2 : Option Addr) (c1 c2 : Nat) (s t : List Int) (w : World) (h1 : Sl w a1 s) (h2 : Sl w a2 t) (hc1 : s.length ≤ c1) (hc2 : t.length ≤ c2) :
    Calls Try.prog 27 #[.slice a1 s.length c1, .slice a2 t.length c2] w (Copies2 w (cpl s t : Nat) (leastC s t).cut (leastC s t).put) := by
  have hl1 := h1.len
  have hl2 := h2.len
  have hle := cpl_le s t
  have hcs := csl_le s t
  have Hcut : Hid ((leastC s t).cut = (s.drop (cpl s t)).take ((s.drop (cpl s t)).length - cpl (s.drop (cpl s t)).reverse (t.drop (cpl s t)).reverse)) := hid (by
    simp only [leastC, csl]; rw [List.drop_take, List.length_drop]; congr 1; omega)
  have Hput : Hid ((leastC s t).put = (t.drop (cpl s t)).take ((t.drop (cpl s t)).length - cpl (s.drop (cpl s t)).reverse (t.drop (cpl s t)).reverse)) := hid (by
    simp only [leastC, csl]; rw [List.drop_take, List.length_drop]; congr 1; omega)
  clear hcs
  have hp := prefix_c a1 a2 c1 c2 s t (w.alloc (.cells #[.int .i64 0, .slice none 0 0, .slice none 0 0] 24)) (h1.alloc _) (h2.alloc _)
  generalize (leastC s t).cut = C at Hcut ⊢
  generalize (leastC s t).put = P at Hput ⊢
  generalize cpl s t = n at hle hp Hcut Hput ⊢
  obtain ⟨a3, c3, D1, HD1, sD1, hD1, r1⟩ := slice_from h1 n c1 hle.1 hc1
  obtain ⟨a4, c4, D2, HD2, sD2, hD2, r2⟩ := slice_from h2 n c2 hle.2 hc2
  rw [← HD1.out, ← HD2.out] at Hcut Hput
  have hm1 := cpl_le D1.reverse D2.reverse
  simp only [List.length_reverse] at hm1
  have hsx : Hid (∀ V, Sl V a3 D1 → Sl V a4 D2 → Calls Try.prog 41 #[.slice a3 D1.length c3, .slice a4 D2.length c4] V fun e w' => e = .returned (.int .i64 (cpl D1.reverse D2.reverse : Nat)) ∧ ∃ n, w' = V.drewN n) := fun V x y => suffix_c a3 a4 c3 c4 D1 D2 V x y
  generalize cpl D1.reverse D2.reverse = m at hm1 hsx Hcut Hput
  obtain ⟨a5, c5, E1, HE1, sE1, hE1, r3⟩ := slice_to sD1 (D1.length - m) c3 (by omega) hD1
  obtain ⟨a6, c6, E2, HE2, sE2, hE2, r4⟩ := slice_to sD2 (D2.length - m) c4 (by omega) hD2
  obtain rfl : C = E1 := by rw [Hcut.out, HE1.out]
  obtain rfl : P = E2 := by rw [Hput.out, HE2.out]
  have hd1 := sD1.len
  have hd2 := sD2.len
  have hw3 : IntKind.i64.wrap ((D1.length : Int) - (m : Int)) = ((D1.length - m : Nat) : Int) := by rw [IntKind.wrap_i64]; omega
  have hw4 : IntKind.i64.wrap ((D2.length : Int) - (m : Int)) = ((D2.length - m : Nat) : Int) := by rw [IntKind.wrap_i64]; omega
  obtain ⟨p, hpq⟩ : ∃ p, D1.length - m = p := ⟨_, rfl⟩
  obtain ⟨q, hqq⟩ : ∃ q, D2.length - m = q := ⟨_, rfl⟩
  rw [hpq] at r3 hw3
  rw [hqq] at r4 hw4
  have hpl : p ≤ D1.length := by omega
  have hql : q ≤ D2.length := by omega
  clear Hcut Hput hpq hqq HE1 HE2 HD1 HD2
  have SD1 : Hid (∀ w', Below w.heap.size w w' → Sl w' a3 D1) := fun w' hb => sD1.bel hb
  have SD2 : Hid (∀ w', Below w.heap.size w w' → Sl w' a4 D2) := fun w' hb => sD2.bel hb
  have SE1 : Hid (∀ w', Below w.heap.size w w' → Sl w' a5 C) := fun w' hb => sE1.bel hb
  have SE2 : Hid (∀ w', Below w.heap.size w w' → Sl w' a6 P) := fun w' hb => sE2.bel hb
  clear sD1 sD2 sE1 sE2 h1 h2
  have K : Hid (∀ w', Below (w.alloc (.cells #[.int .i64 0, .slice none 0 0, .slice none 0 0] 24)).heap.size (w.alloc (.cells #[.int .i64 0, .slice none 0 0, .slice none 0 0] 24)) w' →
      (w'.cell? ⟨w.heap.size, 0, none⟩ = some (.int .i64 0) ∧ w'.cell? ⟨w.heap.size, 1, none⟩ = some (.slice none 0 0) ∧ w'.cell? ⟨w.heap.size, 2, none⟩ = some (.slice none 0 0)) ∧
      (w'.frozen? ⟨w.heap.size, 0, none⟩ = false ∧ w'.frozen? ⟨w.heap.size, 1, none⟩ = false ∧ w'.frozen? ⟨w.heap.size, 2, none⟩ = false)) := by
    intro w' hk
    refine ⟨⟨?_, ?_, ?_⟩, ?_, ?_, ?_⟩
    all_goals first | (rw [hk.cell (by simp)]; simp; done) | (rw [hk.frozen (by simp)]; simp; done)
  have hbV : Below w.heap.size w (w.alloc (.cells #[.int .i64 0, .slice none 0 0, .slice none 0 0] 24)) := (Below.refl _ _).alloc (Nat.le_refl _) _
  have hzV : w.heap.size < (w.alloc (.cells #[.int .i64 0, .slice none 0 0, .slice none 0 0] 24)).heap.size := by simp
  go_enter Try.func27, Try.ntmps27
  go_wp2_with fail
  generalize w.alloc (.cells #[.int .i64 0, .slice none 0 0, .slice none 0 0] 24) = V at hp K hbV hzV ⊢
  refine hp.mono ?_
  rintro e w' ⟨rfl, n0, rfl⟩
  clear hp
  go_wp2
  go_quiet (fail)
  go_wp2_with fail
  refine (hsx.out _ (SD1.out _ (by (repeat' (first | exact Below.refl _ _ | assumption | refine bdrewN ?_ _ | refine Below.drew ?_ | refine bal ?_ _ | refine bthen ?_ (by assumption))))) (SD2.out _ (by (repeat' (first | exact Below.refl _ _ | assumption | refine bdrewN ?_ _ | refine Below.drew ?_ | refine bal ?_ _ | refine bthen ?_ (by assumption)))))).mono ?_
  rintro e w' ⟨rfl, n1, rfl⟩
  go_wp2
  generalize n0 + nq + n1 = nn
  have hv0 : Below V.heap.size V (V.drewN nn) := bdrewN (Below.refl _ _) _
  generalize V.drewN nn = V1 at hv0 ⊢
  have hv1 : Below V.heap.size V V1.drew := hv0.drew
  have hx1 : Below w.heap.size w V1.drew := hbV.trans (hv1.mono (by omega))
  have HK := K
  go_region_held3 (fun w' => Below w.heap.size w w') (first | assumption | exact ((hx4.setCell (by simp) _).setCell (by simp) _).setCell (by simp) _ | go_keep)
    (first | (go_at_call 38; (with_reducible refine (cloned_c a5 c5 C _ (SE1.out _ hx1)).mono ?_); rintro e w3 ⟨a7, c7, rfl, ho7, hb3⟩; have Ho7 := hid ho7; have hx3 : Below w.heap.size w w3 := bthen hx1 hb3; have hv3 : Below V.heap.size V w3 := bthen hv1 hb3; clear ho7)
               | (go_at_call 38; (with_reducible refine (cloned_c a6 c6 P _ (SE2.out _ hx3)).mono ?_); rintro e w4 ⟨a8, c8, rfl, ho8, hb4⟩; have Ho8 := hid ho8; have hx4 : Below w.heap.size w w4 := bthen hx3 hb4; have hv4 : Below V.heap.size V w4 := bthen hv3 hb4; obtain ⟨⟨s0, s1, s2⟩, g0, g1, g2⟩ := K.out _ hv4; clear ho8))
  have hz4 : w.heap.size < w4.heap.size := by have := hv4.size; omega
  have hz3 : w.heap.size ≤ w3.heap.size := hx3.size
  have hq7 : V.heap.size ≤ V1.drew.heap.size := hv1.size
  have hq8 : V.heap.size ≤ w3.heap.size := hv3.size
  have q7 : Hid (∀ ad, a7 = some ad → ad.block ≠ w.heap.size) := by
    intro ad ha
    have := (Ho7.out.lt ⟨ad, ha, rfl⟩).1; omega
  have q8 : Hid (∀ ad, a8 = some ad → ad.block ≠ w.heap.size) := by
    intro ad ha
    have := (Ho8.out.lt ⟨ad, ha, rfl⟩).1; omega
  have HD : Hid (Dis (Blk a7) (Blk a8)) := fun k h h' => by
    have := (Ho7.out.lt h).2
    have := (Ho8.out.lt h').1
    omega
  have HX4 := hid hx4; have HB4 := hid hb4; have HX1 := hid hx1.size
  clear hx4 hb4 hx3 hx1 hv0 hv1 hv3 hv4 hb3 hbV
  go_wp2
  refine bodyPost_ret (v := .agg #[.int .i64 n, .slice a7 C.length c7, .slice a8 P.length c8]) (by simp [results, Try.results27, go_sem, s0, s1, s2]) rfl ?_
  refine ⟨a7, c7, a8, c8, rfl, ((((Ho7.out.grow HB4.out).base_le HX1.out).setOther _ _ ?_).setOther _ _ ?_).setOther _ _ ?_, (((Ho8.out.base_le hz3).setOther _ _ ?_).setOther _ _ ?_).setOther _ _ ?_, ((HX4.out.setCell (by simp) _).setCell (by simp) _).setCell (by simp) _, HD.out⟩
  all_goals (intro ad ha; first | exact q7.out ad ha | exact q8.out ad ha)
end Go.Proofs.Ytnaipahapdjakaa
