/- Package change: Invert; standishlaw5: spoil; standishref1: SameChange. -/
import Derived.Test.YtnaipahapdjakaaChh
namespace Go.Proofs.Ytnaipahapdjakaa
open Go.RowKit

/-- the same, the two texts in blocks of their own -/
def Copies2 (w : World) (i : Int) (C P : List Int) (e : Ending) (w' : World) : Prop :=
  ∃ a1 c1 a2 c2, e = .returned (.agg #[.int .i64 i, .slice a1 C.length c1, .slice a2 P.length c2]) ∧ Own w' w.heap.size a1 c1 C ∧ Own w' w.heap.size a2 c2 P ∧ Below w.heap.size w w' ∧ Dis (Blk a1) (Blk a2)
theorem Own.lt {w : World} {base : Nat} {a : Option Addr} {c : Nat} {l : List Int} (h : Own w base a c l) {k : Nat} (hk : Blk a k) : base ≤ k ∧ k < w.heap.size := by
  obtain ⟨ad, rfl, rfl⟩ := hk
  rcases h.shape with ⟨h0, _⟩ | ⟨g, h0, hg, hl, _⟩
  · cases h0
  · simp only [Option.some.injEq] at h0; subst h0; exact ⟨hg, hl⟩
theorem Own.cap {w : World} {base : Nat} {a : Option Addr} {c : Nat} {l : List Int} (h : Own w base a c l) : l.length ≤ c := by
  rcases h.shape with ⟨_, _, h0⟩ | ⟨_, _, _, _, h0⟩
  · simp [h0]
  · exact h0
set_option maxHeartbeats 4000000 in
theorem invert_c (i : Int) (a1 a2 : Option Addr) (c1 c2 : Nat) (C P : List Int) (w : World) (h1 : Sl w a1 C) (h2 : Sl w a2 P) :
    Calls Try.prog 35 #[.agg #[.int .i64 i, .slice a1 C.length c1, .slice a2 P.length c2]] w (Copies2 w i P C) := by
  have hl1 := h1.len
  have hl2 := h2.len
  have hb0 : Below w.heap.size w ((w.alloc (.cells #[.int .i64 i, .slice a1 C.length c1, .slice a2 P.length c2] 24)).alloc (.cells #[.int .i64 0, .slice none 0 0, .slice none 0 0] 24)).drew := by (repeat' (first | exact Below.refl _ _ | assumption | refine bdrewN ?_ _ | refine Below.drew ?_ | refine bal ?_ _ | refine bthen ?_ (by assumption)))
  have S1 : Hid (∀ w', Below w.heap.size w w' → Sl w' a1 C) := fun w' hb => h1.bel hb
  have S2 : Hid (∀ w', Below w.heap.size w w' → Sl w' a2 P) := fun w' hb => h2.bel hb
  have K : Hid (∀ w', Below ((w.alloc (.cells #[.int .i64 i, .slice a1 C.length c1, .slice a2 P.length c2] 24)).alloc (.cells #[.int .i64 0, .slice none 0 0, .slice none 0 0] 24)).drew.heap.size ((w.alloc (.cells #[.int .i64 i, .slice a1 C.length c1, .slice a2 P.length c2] 24)).alloc (.cells #[.int .i64 0, .slice none 0 0, .slice none 0 0] 24)).drew w' →
      (w'.cell? ⟨w.heap.size, 0, none⟩ = some (.int .i64 i) ∧ w'.cell? ⟨w.heap.size, 1, none⟩ = some (.slice a1 C.length c1) ∧ w'.cell? ⟨w.heap.size, 2, none⟩ = some (.slice a2 P.length c2)) ∧
      (w'.cell? ⟨w.heap.size + 1, 0, none⟩ = some (.int .i64 0) ∧ w'.cell? ⟨w.heap.size + 1, 1, none⟩ = some (.slice none 0 0) ∧ w'.cell? ⟨w.heap.size + 1, 2, none⟩ = some (.slice none 0 0)) ∧
      (w'.frozen? ⟨w.heap.size + 1, 0, none⟩ = false ∧ w'.frozen? ⟨w.heap.size + 1, 1, none⟩ = false ∧ w'.frozen? ⟨w.heap.size + 1, 2, none⟩ = false)) := by
    intro w' hk
    refine ⟨⟨?_, ?_, ?_⟩, ⟨?_, ?_, ?_⟩, ?_, ?_, ?_⟩
    all_goals first | (rw [hk.cell (by simp <;> omega)]; simp; done) | (rw [hk.frozen (by simp <;> omega)]; simp; done)
  clear h1 h2
  go_enter Try.func35, Try.ntmps35
  go_wp2
  have hr0 := Below.refl ((w.alloc (.cells #[.int .i64 i, .slice a1 C.length c1, .slice a2 P.length c2] 24)).alloc (.cells #[.int .i64 0, .slice none 0 0, .slice none 0 0] 24)).drew.heap.size ((w.alloc (.cells #[.int .i64 i, .slice a1 C.length c1, .slice a2 P.length c2] 24)).alloc (.cells #[.int .i64 0, .slice none 0 0, .slice none 0 0] 24)).drew
  go_region_held3 (fun w' => w'.cell? ⟨w.heap.size, 0, none⟩ = some (.int .i64 i) ∧ w'.cell? ⟨w.heap.size, 1, none⟩ = some (.slice a1 C.length c1) ∧ w'.cell? ⟨w.heap.size, 2, none⟩ = some (.slice a2 P.length c2)) (first | assumption | exact ⟨by assumption, by assumption, by assumption⟩ | go_keep)
    (first | (go_at_call 38; (with_reducible refine (cloned_c a2 c2 P _ (S2.out _ hb0)).mono ?_); rintro e w3 ⟨a3, c3, rfl, ho3, hb3⟩; have Ho3 := hid ho3; have hx3 : Below w.heap.size w w3 := bthen hb0 hb3; have hy3 := bthen hr0 hb3; have kk := K.out _ hy3; obtain ⟨⟨x0, x1, x2⟩, ⟨r0, r1, r2⟩, f0, f1, f2⟩ := kk; clear ho3)
               | (go_at_call 38; (with_reducible refine (cloned_c a1 c1 C _ (S1.out _ hx3)).mono ?_); rintro e w4 ⟨a4, c4, rfl, ho4, hb4⟩; have Ho4 := hid ho4; have hx4 : Below w.heap.size w w4 := bthen hx3 hb4; have kk := K.out _ (bthen hy3 hb4); obtain ⟨⟨y0, y1, y2⟩, ⟨s0, s1, s2⟩, g0, g1, g2⟩ := kk; clear ho4))
  have hz3 := hb3.size
  have hz4 := hb4.size
  have hlt : w.heap.size + 1 < w4.heap.size := by simp at hz3; omega
  have q3 : Hid (∀ ad, a3 = some ad → ad.block ≠ w.heap.size + 1) := by
    intro ad ha
    rcases Ho3.out.shape with ⟨h0, _⟩ | ⟨g, h0, h1, _⟩
    · rw [h0] at ha; cases ha
    · rw [h0] at ha; simp only [Option.some.injEq] at ha; subst ha; simp at h1; simp; omega
  have q4 : Hid (∀ ad, a4 = some ad → ad.block ≠ w.heap.size + 1) := by
    intro ad ha
    rcases Ho4.out.shape with ⟨h0, _⟩ | ⟨g, h0, h1, _⟩
    · rw [h0] at ha; cases ha
    · rw [h0] at ha; simp only [Option.some.injEq] at ha; subst ha; simp at h1 hz3; simp; omega
  have HD : Hid (Dis (Blk a3) (Blk a4)) := fun k h h' => by
    have := (Ho3.out.lt h).2
    have := (Ho4.out.lt h').1
    omega
  have HX4 := hid hx4; have HB4 := hid hb4
  have hbs : Hid (w.heap.size ≤ ((w.alloc (.cells #[.int .i64 i, .slice a1 C.length c1, .slice a2 P.length c2] 24)).alloc (.cells #[.int .i64 0, .slice none 0 0, .slice none 0 0] 24)).drew.heap.size) := hb0.size
  have hws : Hid (w.heap.size ≤ w3.heap.size) := hx3.size
  clear hx4 hb4 hr0 hb0 hb3 hx3 hy3
  go_wp2
  refine bodyPost_ret (v := .agg #[.int .i64 i, .slice a3 P.length c3, .slice a4 C.length c4]) (by simp [results, Try.results35, go_sem, s0, s1, s2]) rfl ?_
  refine ⟨a3, c3, a4, c4, rfl, ((((Ho3.out.grow HB4.out).base_le hbs.out).setOther _ _ ?_).setOther _ _ ?_).setOther _ _ ?_, (((Ho4.out.base_le hws.out).setOther _ _ ?_).setOther _ _ ?_).setOther _ _ ?_, ((HX4.out.setCell (by simp) _).setCell (by simp) _).setCell (by simp) _, HD.out⟩
  all_goals (intro ad ha; first | exact q3.out ad ha | exact q4.out ad ha)

set_option maxHeartbeats 1000000 in
theorem spoilk_c (base : Nat) (a : Option Addr) (c : Nat) (l : List Int) (w : World) (h : Own w base a c l) :
    Calls Try.prog 24 #[.slice a l.length c] w fun e w' => e = .returned (.tuple #[]) ∧ Below base w w' ∧ Kpt (Blk a) w w' := by
  have hl := h.2.2
  go_enter Try.func24, Try.ntmps24
  go_wp2
  go_loopw [2] (fun i wr => ∃ k : Nat, k ≤ l.length ∧ i = .int .i64 k ∧ Own wr base a c (half (fun _ => -9) k l) ∧ Below base w wr ∧ Kpt (Blk a) w wr) (fun i _ => l.length - (intOf i).toNat)
  case atStart => exact ⟨0, Nat.zero_le _, rfl, by rw [half_zero]; exact h, Below.refl _ _, Kpt.refl _ _⟩
  case round =>
    obtain ⟨k, hk, rfl, hk1, hk2, hk3⟩ := hrel
    by_cases hlt : k < l.length
    · have hsh := hk1.shape
      rcases hsh with ⟨_, _, h0⟩ | ⟨g0, rfl, hg1, hg2, hg3⟩
      · have h1 := half_len (fun _ => -9) k l
        rw [h0] at h1; simp at h1; omega
      · obtain ⟨b', o', he, hcell⟩ := hk1.sl.at (i := k) (by rw [half_len]; exact hlt)
        simp only [Option.some.injEq, Addr.mk.injEq, and_true] at he
        obtain ⟨rfl, rfl⟩ := he
        have ck := hcell k (by rw [half_len]; exact hlt)
        rw [half_gt hlt, Nat.zero_add] at ck
        have fk := hk1.free k
        have Hk1 := hid hk1
        have H := hid h
        clear hcell hk1 hg3 h
        go_wp2
        go_roundw
        case rel =>
          refine ⟨k + 1, by omega, by go_num, ?_, hk2.setCell (by simpa using hg1) _, hk3.setCell (p := ⟨g0, k, none⟩) ⟨_, rfl, rfl⟩ _⟩
          rw [← half_set hlt]
          exact Hk1.out.stored k (-9) (by omega)
        case measure => simp [intOf]; omega
    · go_wp2
      go_end0
      exact ⟨rfl, hk2, hk3⟩

/-- the two texts of a change -/
def Bk2 (a1 a2 : Option Addr) : Nat → Prop := fun k => Blk a1 k ∨ Blk a2 k
set_option maxHeartbeats 1000000 in
theorem spoil_g (base : Nat) (i : Int) (a1 a2 : Option Addr) (c1 c2 : Nat) (C P : List Int) (w : World) (h1 : Own w base a1 c1 C) (h2 : Own w base a2 c2 P) (hd : Dis (Blk a1) (Blk a2)) (hbase : base ≤ w.heap.size) :
    Calls Try.prog 23 #[.agg #[.int .i64 i, .slice a1 C.length c1, .slice a2 P.length c2]] w fun e w' => e = .returned (.tuple #[]) ∧ Below base w w' ∧ Kpt (Bk2 a1 a2) w w' := by
  have hb0 : Hid (Below w.heap.size w (w.alloc (.cells #[.int .i64 i, .slice a1 C.length c1, .slice a2 P.length c2] 24))) := (Below.refl _ _).alloc (Nat.le_refl _) _
  have H1 := hid (h1.grow hb0.out); have H2 := hid (h2.grow hb0.out)
  have n1 : Hid (¬ Blk a1 w.heap.size) := fun h => by have := (h1.lt h).2; omega
  clear h1 h2
  go_enter Try.func23, Try.ntmps23
  go_wp2_with fail
  refine (spoilk_c base a1 c1 C _ H1.out).mono ?_
  rintro e w1 ⟨rfl, hb1, hk1⟩
  have q2 : w1.cell? ⟨w.heap.size, 2, none⟩ = some (.slice a2 P.length c2) := hk1.cell (by simp) n1.out
  have H3 : Hid (Own w1 base a2 c2 P) := H2.out.same fun ad ha hl => hk1.block _ hl fun h => hd _ h ⟨ad, ha, rfl⟩
  have HB1 := hid hb1; have HK1 := hid hk1
  clear hb1 hk1
  go_wp2_with fail
  refine (spoilk_c base a2 c2 P _ H3.out).mono ?_
  rintro e w2 ⟨rfl, hb2, hk2⟩
  go_wp2
  go_end0
  exact ⟨rfl, ((hb0.out.mono hbase).trans HB1.out).trans hb2, ((Kpt.of hb0.out).tr (HK1.out.mono fun k h => Or.inl h)).tr (hk2.mono fun k h => Or.inr h)⟩

/-! ### two changes that are alike -/
set_option maxHeartbeats 1000000 in
theorem sameChange_c (i : Int) (a1 a2 a3 a4 : Option Addr) (c1 c2 c3 c4 : Nat) (C P : List Int) (w : World) (h1 : Sl w a1 C) (h2 : Sl w a2 P) (h3 : Sl w a3 C) (h4 : Sl w a4 P) :
    Calls Try.prog 28 #[.agg #[.int .i64 i, .slice a1 C.length c1, .slice a2 P.length c2], .agg #[.int .i64 i, .slice a3 C.length c3, .slice a4 P.length c4]] w fun e w' => e = .returned (.bool true) ∧ Below w.heap.size w w' := by
  have hb0 : Hid (Below w.heap.size w ((w.alloc (.cells #[.int .i64 i, .slice a1 C.length c1, .slice a2 P.length c2] 24)).alloc (.cells #[.int .i64 i, .slice a3 C.length c3, .slice a4 P.length c4] 24))) := by unfold Hid; (repeat' (first | exact Below.refl _ _ | assumption | refine bdrewN ?_ _ | refine Below.drew ?_ | refine bal ?_ _ | refine bthen ?_ (by assumption)))
  have S1 := hid (h1.bel hb0.out); have S2 := hid (h2.bel hb0.out); have S3 := hid (h3.bel hb0.out); have S4 := hid (h4.bel hb0.out)
  clear h1 h2 h3 h4
  go_enter Try.func28, Try.ntmps28
  go_wp2_with fail
  refine (rsame_v a1 a3 c1 c3 C C _ S1.out S3.out (eqM_self C)).mono ?_
  rintro e w1 ⟨rfl, n, rfl⟩
  go_wp2_with fail
  refine (rsame_v a2 a4 c2 c4 P P _ (S2.out.drewN n) (S4.out.drewN n) (eqM_self P)).mono ?_
  rintro e w2 ⟨rfl, m, rfl⟩
  go_wp2
  go_ret
  exact ⟨rfl, bdrewN hb0.out _⟩
end Go.Proofs.Ytnaipahapdjakaa
