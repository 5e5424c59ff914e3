/- Package standishref1: Splice, Apply, Invert; package change: Invert. -/
import Derived.Test.YtnaipahapdjakaaChg
namespace Go.Proofs.Ytnaipahapdjakaa
open Go.RowKit
set_option maxHeartbeats 4000000 in
theorem lsplice_c (a ax : Option Addr) (c cx : Nat) (l put : List Int) (at_ cut : Nat) (w : World) (h : Sl w a l) (hp : Sl w ax put) (hc : l.length ≤ c) (hl : l.length ≤ 100000) (hpl : put.length ≤ 100000) (hw : at_ + cut ≤ l.length) :
    Calls Try.prog 37 #[.slice a l.length c, .int .i64 at_, .int .i64 cut, .slice ax put.length cx] w (Makes w (l.take at_ ++ put ++ l.drop (at_ + cut))) := by
  obtain ⟨a1, c1, D1, HD1, s1, hD1, r1⟩ := slice_to h at_ c (by omega) hc
  obtain ⟨a2, c2, D2, HD2, s2, hD2, r2⟩ := slice_from h (at_ + cut) c (by omega) hc
  simp only [Int.natCast_add] at r2
  have hl1 : D1.length ≤ 100000 := by rw [HD1.out]; simp; omega
  have hl2 : D2.length ≤ 100000 := by rw [HD2.out]; simp; omega
  have hwr : IntKind.i64.wrap ((at_ : Int) + (cut : Int)) = (at_ : Int) + (cut : Int) := by rw [IntKind.wrap_i64]; omega
  have S2 : Hid (∀ w', Below w.heap.size w w' → Sl w' a2 D2) := fun w' hb => s2.bel hb
  have hb0 : Below w.heap.size w w := Below.refl _ _
  go_enter Try.func37, Try.ntmps37
  go_wp2
  have hx0 : Below w.heap.size w w.drew := hb0.drew
  have hJ := hid (join_c a1 ax c1 cx D1 put w.drew s1.drew hp.drew (by omega))
  go_region_held3 (fun w' => Below w.heap.size w w') (first | assumption | go_keep)
    (first | (go_at_call 45; refine hJ.out.mono ?_; rintro e w3 ⟨a3, c3, rfl, ho3, hb3⟩; have Ho3 := hid ho3; have hx3 : Below w.heap.size w w3 := bthen (by assumption) hb3; have hj3 : (D1 ++ put).length ≤ 200000 := (by simp; omega))
               | (((refine step_appn rfl (.tmp 13) (.tmp 18) rfl w.heap.size a3 a2 _ D2.length c3 c2 (D1 ++ put) D2 rfl (by first | rfl | simp | omega) (Ho3.out.base_le (by simp)) rfl (by first | rfl | simp | omega) (S2.out _ (by assumption)) (by omega) (by have := hx3.size; assumption) ?_); intro a4 c4 w4 L4 Hl4 ho4 hb4 hk4 hA4; have HA4 := hid hA4; clear hA4; have Ho4 := hid ho4; clear ho4; have Hk4 := hid hk4; clear hk4; have hz4 := hb4.size); have hx4 : Below w.heap.size w w4 := Below.trans (by assumption) hb4))
  go_wp2
  go_ret
  have e4 : L4 = l.take at_ ++ put ++ l.drop (at_ + cut) := by rw [Hl4.out, HD1.out, HD2.out]
  subst e4
  exact ⟨a4, c4, rfl, Ho4.out, hx4⟩
set_option maxHeartbeats 4000000 in
theorem rapply_c (a a1 a2 : Option Addr) (c c1 c2 : Nat) (l C P : List Int) (i : Int) (w : World) (h : Sl w a l) (h1 : Sl w a1 C) (h2 : Sl w a2 P) (hc : l.length ≤ c) (hi : ir i) :
    Calls Try.prog 16 #[.slice a l.length c, .agg #[.int .i64 i, .slice a1 C.length c1, .slice a2 P.length c2]] w (MakesE w (apT l ⟨i, C, P⟩) (apE l ⟨i, C, P⟩)) := by
  have hl := h.len
  have hl1 := h1.len
  have hl2 := h2.len
  have hb0 : Below w.heap.size w (w.alloc (.cells #[.int .i64 i, .slice a1 C.length c1, .slice a2 P.length c2] 24)) := (Below.refl _ _).alloc (Nat.le_refl _) _
  have k0 : (w.alloc (.cells #[.int .i64 i, .slice a1 C.length c1, .slice a2 P.length c2] 24)).cell? ⟨w.heap.size, 0, none⟩ = some (.int .i64 i) ∧ (w.alloc (.cells #[.int .i64 i, .slice a1 C.length c1, .slice a2 P.length c2] 24)).cell? ⟨w.heap.size, 1, none⟩ = some (.slice a1 C.length c1) ∧ (w.alloc (.cells #[.int .i64 i, .slice a1 C.length c1, .slice a2 P.length c2] 24)).cell? ⟨w.heap.size, 2, none⟩ = some (.slice a2 P.length c2) := by
    refine ⟨?_, ?_, ?_⟩ <;> (rw [cell_alloc_new]; rfl)
  have hsz : w.heap.size < (w.alloc (.cells #[.int .i64 i, .slice a1 C.length c1, .slice a2 P.length c2] 24)).heap.size := by simp
  have hm := rmay_chg a a1 a2 c c1 c2 l C P i (w.alloc (.cells #[.int .i64 i, .slice a1 C.length c1, .slice a2 P.length c2] 24)) (h.alloc _) (h1.alloc _) (h2.alloc _) hc hi
  go_enter Try.func16, Try.ntmps16
  go_wp2_with fail
  generalize w.alloc (.cells #[.int .i64 i, .slice a1 C.length c1, .slice a2 P.length c2] 24) = V at hb0 k0 hsz hm ⊢
  refine hm.mono ?_
  rintro e w1 ⟨rfl, hb1⟩
  clear hm
  have hx1 : Below w.heap.size w w1 := hb0.trans (hb1.mono (by omega))
  have q0 : w1.cell? ⟨w.heap.size, 0, none⟩ = some (.int .i64 i) := by rw [hb1.cell (by simpa using hsz)]; exact k0.1
  have q1 : w1.cell? ⟨w.heap.size, 1, none⟩ = some (.slice a1 C.length c1) := by rw [hb1.cell (by simpa using hsz)]; exact k0.2.1
  have q2 : w1.cell? ⟨w.heap.size, 2, none⟩ = some (.slice a2 P.length c2) := by rw [hb1.cell (by simpa using hsz)]; exact k0.2.2
  have S := hid (h.bel hx1); have S2 := hid (h2.bel hx1)
  clear h h1 h2 k0 hb0 hb1
  cases hmv : mayC l ⟨i, C, P⟩
  · have Hm := hid hmv; clear hmv
    go_wp2
    go_ret2
    exact ⟨none, 0, by rw [show apT l ⟨i, C, P⟩ = [] by simp [apT, Hm.out], show apE l ⟨i, C, P⟩ = 1 by simp [apE, Hm.out]]; rfl, by rw [show apT l ⟨i, C, P⟩ = [] by simp [apT, Hm.out]]; exact Own.nil _ _, hx1⟩
  · have Hm := hid hmv; clear hmv
    obtain ⟨n, hin, h3, h4, h5, h6, -⟩ := mayC_iff.1 Hm.out
    simp only at hin h3 h4 h6
    subst hin
    have hP : P.length ≤ 2000 := by omega
    clear h4
    have HC := hid ((lsplice_c a a2 c c2 l P n C.length w1 S.out S2.out hc (by omega) (by omega) h3).mono fun e w' h => h.n)
    have HT : Hid (apT l ⟨n, C, P⟩ = l.take n ++ P ++ l.drop (n + C.length)) := hid (by rw [apT, if_pos Hm.out, appC_nat (c := ⟨n, C, P⟩) (i := n) rfl])
    go_wp2_with fail
    refine HC.out.mono ?_
    rintro e w2 ⟨a5, c5, L5, rfl, hL5, ho5, hb5⟩
    have Ho5 := hid ho5
    go_wp2
    go_ret2
    rw [HT.out, ← hL5.out, show apE l ⟨n, C, P⟩ = 0 by simp [apE, Hm.out]]
    exact ⟨a5, c5, rfl, Ho5.out.base_le hx1.size, bthen hx1 hb5⟩

set_option maxHeartbeats 4000000 in
theorem rinvert_c (i : Int) (a1 a2 : Option Addr) (c1 c2 : Nat) (C P : List Int) (w : World) (h1 : Sl w a1 C) (h2 : Sl w a2 P) :
    Calls Try.prog 36 #[.agg #[.int .i64 i, .slice a1 C.length c1, .slice a2 P.length c2]] w (Copies w i P C) := by
  have hl1 := h1.len
  have hl2 := h2.len
  have hb0 : Hid (Below w.heap.size w ((w.alloc (.cells #[.int .i64 i, .slice a1 C.length c1, .slice a2 P.length c2] 24)).alloc (.cells #[.int .i64 0, .slice none 0 0, .slice none 0 0] 24))) := by unfold Hid; (repeat' (first | exact Below.refl _ _ | assumption | refine bdrewN ?_ _ | refine Below.drew ?_ | refine bal ?_ _ | refine bthen ?_ (by assumption)))
  have hcall := hid (copied_c i a2 a1 c2 c1 P C _ (h2.bel hb0.out) (h1.bel hb0.out) hl2 hl1)
  go_enter Try.func36, Try.ntmps36
  go_wp2_with fail
  refine hcall.out.mono ?_
  rintro e w1 ⟨a3, c3, a4, c4, rfl, ho3, ho4, hb1⟩
  have B : Hid (Below w.heap.size w w1) := bthen hb0.out hb1
  have r : w1.cell? ⟨w.heap.size + 1, 0, none⟩ = some (.int .i64 0) ∧ w1.cell? ⟨w.heap.size + 1, 1, none⟩ = some (.slice none 0 0) ∧ w1.cell? ⟨w.heap.size + 1, 2, none⟩ = some (.slice none 0 0) := by
    refine ⟨?_, ?_, ?_⟩ <;> (rw [hb1.cell (by simp)]; simp)
  have f : w1.frozen? ⟨w.heap.size + 1, 0, none⟩ = false ∧ w1.frozen? ⟨w.heap.size + 1, 1, none⟩ = false ∧ w1.frozen? ⟨w.heap.size + 1, 2, none⟩ = false := by
    refine ⟨?_, ?_, ?_⟩ <;> (rw [hb1.frozen (by simp)]; simp)
  obtain ⟨r0, r1, r2⟩ := r
  obtain ⟨f0, f1, f2⟩ := f
  have G3 : Hid (∀ ad, a3 = some ad → ad.block ≠ w.heap.size + 1) := by
    intro ad ha
    rcases ho3.shape with ⟨h0, _⟩ | ⟨g, h0, h1, _⟩
    · rw [h0] at ha; cases ha
    · rw [h0] at ha; simp only [Option.some.injEq] at ha; subst ha; simp at h1; simp; omega
  have G4 : Hid (∀ ad, a4 = some ad → ad.block ≠ w.heap.size + 1) := by
    intro ad ha
    rcases ho4.shape with ⟨h0, _⟩ | ⟨g, h0, h1, _⟩
    · rw [h0] at ha; cases ha
    · rw [h0] at ha; simp only [Option.some.injEq] at ha; subst ha; simp at h1; simp; omega
  have Ho3 := hid ho3; have Ho4 := hid ho4
  have hlt : w.heap.size + 1 < w1.heap.size := by have := hb1.size; simp at this; omega
  clear ho3 ho4 hb1
  go_wp2
  refine bodyPost_ret (v := .agg #[.int .i64 i, .slice a3 P.length c3, .slice a4 C.length c4]) (by simp [results, Try.results36, go_sem, r0, r1, r2]) rfl ?_
  refine ⟨a3, c3, a4, c4, rfl, (((Ho3.out.base_le (by simp; omega)).setOther _ _ ?_).setOther _ _ ?_).setOther _ _ ?_, (((Ho4.out.base_le (by simp; omega)).setOther _ _ ?_).setOther _ _ ?_).setOther _ _ ?_, ((B.out.setCell (by simp) _).setCell (by simp) _).setCell (by simp) _⟩
  all_goals (intro ad ha; first | exact G3.out ad ha | exact G4.out ad ha)
end Go.Proofs.Ytnaipahapdjakaa
