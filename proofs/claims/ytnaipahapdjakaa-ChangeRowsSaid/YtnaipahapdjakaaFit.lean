/- Package standishref1: Copied; package standishkeep: Fit. -/
import Derived.Test.YtnaipahapdjakaaKeepR
import Derived.Deep.RegionHeld3
namespace Go.Proofs.Ytnaipahapdjakaa
open Go.RowKit

/-- a change: where, what is cut, what is put -/
def Copies (w : World) (i : Int) (C P : List Int) (e : Ending) (w' : World) : Prop :=
  ∃ a1 c1 a2 c2, e = .returned (.agg #[.int .i64 i, .slice a1 C.length c1, .slice a2 P.length c2]) ∧ Own w' w.heap.size a1 c1 C ∧ Own w' w.heap.size a2 c2 P ∧ Below w.heap.size w w'
set_option maxHeartbeats 4000000 in
theorem copied_c (i : Int) (a1 a2 : Option Addr) (c1 c2 : Nat) (C P : List Int) (w : World) (h1 : Sl w a1 C) (h2 : Sl w a2 P) (hc : C.length ≤ 35184372088832) (hp : P.length ≤ 35184372088832) :
    Calls Try.prog 12 #[.agg #[.int .i64 i, .slice a1 C.length c1, .slice a2 P.length c2]] w (Copies w i C P) := by
  have hb0 : Below w.heap.size w ((w.alloc (.cells #[.int .i64 i, .slice a1 C.length c1, .slice a2 P.length c2] 24)).alloc (.cells #[.int .i64 0, .slice none 0 0, .slice none 0 0] 24)).drew := by (repeat' (first | exact Below.refl _ _ | assumption | refine bdrewN ?_ _ | refine Below.drew ?_ | refine bal ?_ _ | refine bthen ?_ (by assumption)))
  have S1 : Hid (∀ w', Below w.heap.size w w' → Sl w' a1 C) := fun w' hb => h1.bel hb
  have S2 : Hid (∀ w', Below w.heap.size w w' → Sl w' a2 P) := fun w' hb => h2.bel hb
  have K : Hid (∀ w', Kpt (Blk none) ((w.alloc (.cells #[.int .i64 i, .slice a1 C.length c1, .slice a2 P.length c2] 24)).alloc (.cells #[.int .i64 0, .slice none 0 0, .slice none 0 0] 24)).drew w' →
      (w'.cell? ⟨w.heap.size, 0, none⟩ = some (.int .i64 i) ∧ w'.cell? ⟨w.heap.size, 1, none⟩ = some (.slice a1 C.length c1) ∧ w'.cell? ⟨w.heap.size, 2, none⟩ = some (.slice a2 P.length c2)) ∧
      (w'.cell? ⟨w.heap.size + 1, 0, none⟩ = some (.int .i64 0) ∧ w'.cell? ⟨w.heap.size + 1, 1, none⟩ = some (.slice none 0 0) ∧ w'.cell? ⟨w.heap.size + 1, 2, none⟩ = some (.slice none 0 0)) ∧
      (w'.frozen? ⟨w.heap.size + 1, 0, none⟩ = false ∧ w'.frozen? ⟨w.heap.size + 1, 1, none⟩ = false ∧ w'.frozen? ⟨w.heap.size + 1, 2, none⟩ = false)) := by
    intro w' hk
    have hn : ∀ k, ¬ Blk none k := by rintro k ⟨ad, h, _⟩; cases h
    refine ⟨⟨hk.cell (by simp) (hn _), hk.cell (by simp) (hn _), hk.cell (by simp) (hn _)⟩, ⟨hk.cell (by simp) (hn _), hk.cell (by simp) (hn _), hk.cell (by simp) (hn _)⟩, ?_, ?_, ?_⟩
    · rw [hk.frozen (by simp) (hn _)]; simp
    · rw [hk.frozen (by simp) (hn _)]; simp
    · rw [hk.frozen (by simp) (hn _)]; simp
  clear h1 h2
  go_enter Try.func12, Try.ntmps12
  go_wp2
  go_region_held3 (fun w' => w'.cell? ⟨w.heap.size, 0, none⟩ = some (.int .i64 i) ∧ w'.cell? ⟨w.heap.size, 1, none⟩ = some (.slice a1 C.length c1) ∧ w'.cell? ⟨w.heap.size, 2, none⟩ = some (.slice a2 P.length c2)) (first | assumption | exact ⟨by assumption, by assumption, by assumption⟩ | go_keep)
    (first | (((refine step_appn rfl ((.const (.slice none 0 0))) (.tmp 6) rfl w.heap.size none a1 0 C.length 0 c1 [] C rfl (by first | rfl | simp | omega) (Own.nil _ _) rfl (by first | rfl | simp | omega) (S1.out _ (by assumption)) (by simp; omega) (by have := hb0.size; assumption) ?_); intro a3 c3 w3 L3 Hl3 ho3 hb3 hk3 hA3; have HA3 := hid hA3; clear hA3; have Ho3 := hid ho3; clear ho3; have Hk3 := hid hk3; clear hk3; have hz3 := hb3.size); have hx3 : Below w.heap.size w w3 := Below.trans (by assumption) hb3; have kk := K.out _ Hk3.out; obtain ⟨⟨x0, x1, x2⟩, ⟨r0, r1, r2⟩, f0, f1, f2⟩ := kk)
               | (((refine step_appn rfl ((.const (.slice none 0 0))) (.tmp 9) rfl w3.heap.size none a2 0 P.length 0 c2 [] P rfl (by first | rfl | simp | omega) (Own.nil _ _) rfl (by first | rfl | simp | omega) (S2.out _ (by assumption)) (by simp; omega) (Nat.le_refl _) ?_); intro a4 c4 w4 L4 Hl4 ho4 hb4 hk4 hA4; have HA4 := hid hA4; clear hA4; have Ho4 := hid ho4; clear ho4; have Hk4 := hid hk4; clear hk4; have hz4 := hb4.size); have hx4 : Below w.heap.size w w4 := bthen (by assumption) hb4; have kk := K.out _ (Hk3.out.tr Hk4.out); obtain ⟨⟨y0, y1, y2⟩, ⟨s0, s1, s2⟩, g0, g1, g2⟩ := kk))
  go_wp2
  have eC : L3 = C := by simpa using Hl3.out
  have eP : L4 = P := by simpa using Hl4.out
  subst eC eP
  refine bodyPost_ret (v := .agg #[.int .i64 i, .slice a3 L3.length c3, .slice a4 L4.length c4]) (by simp [results, Try.results12, go_sem, s0, s1, s2]) rfl ?_
  have hx3' := hx3.size
  have q3 : ∀ ad, a3 = some ad → ad.block ≠ w.heap.size + 1 := by
    intro ad ha
    rcases HA3.out ad ha with ⟨ae, h, _⟩ | h
    · cases h
    · simp at h; omega
  have q4 : ∀ ad, a4 = some ad → ad.block ≠ w.heap.size + 1 := by
    intro ad ha
    rcases HA4.out ad ha with ⟨ae, h, _⟩ | h
    · cases h
    · have := hb3.size; have := Hk3.out.size; simp at this h; omega
  refine ⟨a3, c3, a4, c4, rfl, ((((Ho3.out.grow hb4).setOther _ _ ?_).setOther _ _ ?_).setOther _ _ ?_), ((((Ho4.out.base_le hx3').setOther _ _ ?_).setOther _ _ ?_).setOther _ _ ?_), ((hx4.setCell (by simp) _).setCell (by simp) _).setCell (by simp) _⟩
  all_goals (intro ad ha; first | exact q3 ad ha | exact q4 ad ha)

/-- a change that fits a text -/
def Fits (w : World) (l put : List Int) (e : Ending) (w' : World) : Prop :=
  ∃ (i k r : Nat) (C P : List Int) (a1 : Option Addr) (c1 : Nat) (a2 : Option Addr) (c2 : Nat), e = .returned (.agg #[.int .i64 i, .slice a1 C.length c1, .slice a2 P.length c2]) ∧ C.length = k ∧ i + k ≤ l.length ∧
    Hid (C = (l.drop i).take k) ∧ Hid (P = put.take r) ∧ P.length + (l.length - k) ≤ 1000 ∧ Own w' w.heap.size a1 c1 C ∧ Sl w' a2 P ∧ P.length ≤ c2 ∧ (∀ ad, a2 = some ad → w.heap.size ≤ ad.block) ∧ Below w.heap.size w w'
theorem add_some (g n : Nat) : (⟨g, 0, none⟩ : Addr).add n = ⟨g, n, none⟩ := by unfold Addr.add; split <;> simp_all
set_option maxHeartbeats 4000000 in
theorem fit_c (a ax : Option Addr) (c cx : Nat) (l put : List Int) (at_ cut : Int) (w : World) (h : Sl w a l) (hp : Sl w ax put) (hc : l.length ≤ c) (hl : l.length ≤ 1000) (hpl : put.length ≤ 100000) :
    Calls Try.prog 11 #[.slice a l.length c, .int .i64 at_, .int .i64 cut, .slice ax put.length cx] w (Fits w l put) := by
  go_enter Try.func11, Try.ntmps11
  go_wp2_with fail
  have i1 := index_c at_ (l.length + 1) (w.alloc (.cells #[.int .i64 0, .slice none 0 0, .slice none 0 0] 24)) (by omega) (by omega)
  simp only [Int.natCast_add, Int.natCast_one] at i1
  refine i1.mono ?_
  rintro e w' ⟨⟨i, hi, rfl⟩, rfl⟩
  go_wp2_with fail
  have i2 := index_c cut (l.length - i + 1) (w.alloc (.cells #[.int .i64 0, .slice none 0 0, .slice none 0 0] 24)) (by omega) (by omega)
  rw [show ((l.length - i + 1 : Nat) : Int) = (l.length : Int) - i + 1 by omega] at i2
  refine i2.mono ?_
  rintro e w' ⟨⟨k, hk, rfl⟩, rfl⟩
  clear i1 i2
  obtain ⟨a1, c1, D1, HD1, s1, hD1, r1⟩ := slice_mid h i (i + k) c (by omega) (by omega) hc
  simp only [Int.natCast_add] at r1
  have hDl : D1.length = k := by rw [HD1.out]; simp; omega
  have HDl := hid hDl
  clear hDl
  have hD1l : D1.length ≤ 1000 := by rw [HDl.out]; omega
  go_wp2_with fail
  refine (copied_c i a1 ax c1 cx D1 put _ (s1.alloc _) (hp.alloc _) (by omega) (by omega)).mono ?_
  rintro e w2 ⟨a2, c2, a3, c3, rfl, ho2, ho3, hb2⟩
  have Ho2 := hid ho2; have Ho3 := hid ho3
  have B2 : Below w.heap.size w w2 := bthen ((Below.refl _ _).alloc (Nat.le_refl _) _) (by simpa using hb2)
  have rz : w2.cell? ⟨w.heap.size, 0, none⟩ = some (.int .i64 0) ∧ w2.cell? ⟨w.heap.size, 1, none⟩ = some (.slice none 0 0) ∧ w2.cell? ⟨w.heap.size, 2, none⟩ = some (.slice none 0 0) := by
    refine ⟨?_, ?_, ?_⟩ <;> (rw [hb2.cell (by simp)]; simp)
  have rf : w2.frozen? ⟨w.heap.size, 0, none⟩ = false ∧ w2.frozen? ⟨w.heap.size, 1, none⟩ = false ∧ w2.frozen? ⟨w.heap.size, 2, none⟩ = false := by
    refine ⟨?_, ?_, ?_⟩ <;> (rw [hb2.frozen (by simp)]; simp)
  obtain ⟨r0, r1', r2⟩ := rz
  obtain ⟨f0, f1, f2⟩ := rf
  have hz2 := hb2.size
  clear ho2 ho3 hb2
  have hlt2 : w.heap.size < w2.heap.size := by simp at hz2; omega
  have hcap3 : put.length ≤ c3 := by
    rcases Ho3.out.shape with ⟨_, _, h0⟩ | ⟨_, _, _, _, h0⟩
    · simp [h0]
    · exact h0
  have g2 : ∀ ad, a2 = some ad → ad.block ≠ w.heap.size := by
    intro ad ha
    rcases Ho2.out.shape with ⟨h0, _⟩ | ⟨g, h0, h1, _⟩
    · rw [h0] at ha; cases ha
    · rw [h0] at ha; simp only [Option.some.injEq] at ha; subst ha; simp at h1; simp; omega
  have g3 : ∀ ad, a3 = some ad → w.heap.size + 1 ≤ ad.block := by
    intro ad ha
    rcases Ho3.out.shape with ⟨h0, _⟩ | ⟨g, h0, h1, _⟩
    · rw [h0] at ha; cases ha
    · rw [h0] at ha; simp only [Option.some.injEq] at ha; subst ha; simpa using h1
  have G2 := hid g2; have G3 := hid g3
  clear g2 g3
  obtain ⟨m, hm⟩ : ∃ m : Nat, (1000 : Int) - ((l.length : Int) - k) = m := ⟨1000 - (l.length - k), by omega⟩
  rcases Nat.eq_zero_or_pos m with hm0 | hm0
  · subst hm0
    by_cases hrm : 0 < put.length
    · go_wp2
      refine bodyPost_ret (v := .agg #[.int .i64 i, .slice a2 D1.length c2, .slice a3 0 c3]) (by simp [results, Try.results11, go_sem, r0, r1', r2, hlt2]) rfl ?_
      refine ⟨i, k, 0, D1, put.take 0, a2, c2, a3, c3, ?_, HDl.out, by omega, ?_, rfl, by simp; omega, ?_, ?_, by simp, ?_, ?_⟩
      · rw [show (put.take 0).length = 0 by simp]
      · exact hid (by rw [HD1.out, List.drop_take]; congr 1; omega)
      · exact ((((Ho2.out.base_le (by simp)).setOther _ _ G2.out).setOther _ _ G2.out).setOther _ _ G2.out).grow ((Below.refl _ _).alloc (Nat.le_refl _) _)
      · exact (((((Ho3.out.sl.take 0).setOther _ _ fun ad ha => by have := G3.out ad ha; simp; omega).setOther _ _ fun ad ha => by have := G3.out ad ha; simp; omega).setOther _ _ fun ad ha => by have := G3.out ad ha; simp; omega).alloc _)
      · intro ad ha; have := G3.out ad ha; omega
      · exact (((B2.setCell (by simp) _).setCell (by simp) _).setCell (by simp) _).alloc (by simp; omega) _
    · go_wp2
      refine bodyPost_ret (v := .agg #[.int .i64 i, .slice a2 D1.length c2, .slice a3 put.length c3]) (by simp [results, Try.results11, go_sem, r0, r1', r2, hlt2]) rfl ?_
      refine ⟨i, k, put.length, D1, put, a2, c2, a3, c3, rfl, HDl.out, by omega, ?_, by simp [Hid], by omega, ?_, ?_, hcap3, ?_, ?_⟩
      · exact hid (by rw [HD1.out, List.drop_take]; congr 1; omega)
      · exact ((((Ho2.out.base_le (by simp)).setOther _ _ G2.out).setOther _ _ G2.out).setOther _ _ G2.out).grow ((Below.refl _ _).alloc (Nat.le_refl _) _)
      · exact (((((Ho3.out.sl).setOther _ _ fun ad ha => by have := G3.out ad ha; simp; omega).setOther _ _ fun ad ha => by have := G3.out ad ha; simp; omega).setOther _ _ fun ad ha => by have := G3.out ad ha; simp; omega).alloc _)
      · intro ad ha; have := G3.out ad ha; omega
      · exact (((B2.setCell (by simp) _).setCell (by simp) _).setCell (by simp) _).alloc (by simp; omega) _
  · skip
    by_cases hrm : m < put.length
    · go_wp2
      refine bodyPost_ret (v := .agg #[.int .i64 i, .slice a2 D1.length c2, .slice a3 m c3]) (by simp [results, Try.results11, go_sem, r0, r1', r2, hlt2]) rfl ?_
      refine ⟨i, k, m, D1, put.take m, a2, c2, a3, c3, ?_, HDl.out, by omega, ?_, rfl, by simp; omega, ?_, ?_, by simp; omega, ?_, ?_⟩
      · rw [show (put.take m).length = m by simp; omega]
      · exact hid (by rw [HD1.out, List.drop_take]; congr 1; omega)
      · exact ((((Ho2.out.base_le (by simp)).setOther _ _ G2.out).setOther _ _ G2.out).setOther _ _ G2.out).grow ((Below.refl _ _).alloc (Nat.le_refl _) _)
      · exact (((((Ho3.out.sl.take m).setOther _ _ fun ad ha => by have := G3.out ad ha; simp; omega).setOther _ _ fun ad ha => by have := G3.out ad ha; simp; omega).setOther _ _ fun ad ha => by have := G3.out ad ha; simp; omega).alloc _)
      · intro ad ha; have := G3.out ad ha; omega
      · exact (((B2.setCell (by simp) _).setCell (by simp) _).setCell (by simp) _).alloc (by simp; omega) _
    · go_wp2
      refine bodyPost_ret (v := .agg #[.int .i64 i, .slice a2 D1.length c2, .slice a3 put.length c3]) (by simp [results, Try.results11, go_sem, r0, r1', r2, hlt2]) rfl ?_
      refine ⟨i, k, put.length, D1, put, a2, c2, a3, c3, rfl, HDl.out, by omega, ?_, by simp [Hid], by omega, ?_, ?_, hcap3, ?_, ?_⟩
      · exact hid (by rw [HD1.out, List.drop_take]; congr 1; omega)
      · exact ((((Ho2.out.base_le (by simp)).setOther _ _ G2.out).setOther _ _ G2.out).setOther _ _ G2.out).grow ((Below.refl _ _).alloc (Nat.le_refl _) _)
      · exact (((((Ho3.out.sl).setOther _ _ fun ad ha => by have := G3.out ad ha; simp; omega).setOther _ _ fun ad ha => by have := G3.out ad ha; simp; omega).setOther _ _ fun ad ha => by have := G3.out ad ha; simp; omega).alloc _)
      · intro ad ha; have := G3.out ad ha; omega
      · exact (((B2.setCell (by simp) _).setCell (by simp) _).setCell (by simp) _).alloc (by simp; omega) _
end Go.Proofs.Ytnaipahapdjakaa
