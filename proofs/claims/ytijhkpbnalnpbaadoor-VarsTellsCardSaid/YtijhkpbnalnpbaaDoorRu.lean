/- The document's own answer for a variable: the names of the clock, and no name. -/
import Derived.Test.YtijhkpbnalnpbaaDoorRz
namespace Go.Proofs.YtijhkpbnalnpbaaDoor
open Go.RowKit

set_option maxHeartbeats 1000000 in
set_option maxRecDepth 100000 in
theorem rtextsC_c (m : En) (N : ByteArray) (w : World) (P : World → Option Addr → Nat → Nat → Bool → World → Prop)
    (h : ∀ j, j < 10 → (N.toList == (nameL j).map fun r => UInt8.ofNat r.toNat) = false)
    (hR : Hid (∀ W, Calls Tryd.prog 45 #[.agg (enC m), .string N] W fun e w' => ∃ a n c b, e = .returned (.tuple #[.slice a n c, .bool b]) ∧ P W a n c b w')) :
    Calls Tryd.prog 30 #[.agg (enC m), .string N] w fun e w' => ∃ W a n c b, Below w.heap.size w W ∧ e = .returned (.tuple #[.slice a n c, .bool b]) ∧ P W a n c b w' := by
  have e0 : (N.toList == [84, 77, 95, 83, 69, 76, 69, 67, 84, 69, 68, 95, 84, 69, 88, 84]) = false := h 0 (by omega)
  have e1 : (N.toList == [84, 77, 95, 67, 85, 82, 82, 69, 78, 84, 95, 76, 73, 78, 69]) = false := h 1 (by omega)
  have e2 : (N.toList == [84, 77, 95, 67, 85, 82, 82, 69, 78, 84, 95, 87, 79, 82, 68]) = false := h 2 (by omega)
  have e3 : (N.toList == [84, 77, 95, 76, 73, 78, 69, 95, 73, 78, 68, 69, 88]) = false := h 3 (by omega)
  have e4 : (N.toList == [84, 77, 95, 76, 73, 78, 69, 95, 78, 85, 77, 66, 69, 82]) = false := h 4 (by omega)
  have e5 : (N.toList == [84, 77, 95, 70, 73, 76, 69, 78, 65, 77, 69]) = false := h 5 (by omega)
  have e6 : (N.toList == [84, 77, 95, 70, 73, 76, 69, 78, 65, 77, 69, 95, 66, 65, 83, 69]) = false := h 6 (by omega)
  have e7 : (N.toList == [84, 77, 95, 68, 73, 82, 69, 67, 84, 79, 82, 89]) = false := h 7 (by omega)
  have e8 : (N.toList == [84, 77, 95, 70, 73, 76, 69, 80, 65, 84, 72]) = false := h 8 (by omega)
  have e9 : (N.toList == [67, 76, 73, 80, 66, 79, 65, 82, 68]) = false := h 9 (by omega)
  clear h
  have HX0 := hid (BoxAt.new w m 26)
  simp only [enC] at HX0 hR ⊢
  go_enter Tryd.func30, Tryd.ntmps30
  go_wp2_with fail
  generalize hW0 : w.alloc (.cells #[.slice m.a0 m.t0.length m.c0, .slice m.a1 m.t1.length m.c1, .slice m.a2 m.t2.length m.c2, .slice m.a3 m.t3.length m.c3, .slice m.a4 m.t4.length m.c4, .slice m.a5 m.t5.length m.c5, .int .i64 m.ix, .int .i64 m.k0, .int .i64 m.k1, .int .i64 m.k2, .int .i64 m.k3, .int .i64 m.k4, .int .i64 m.k5, .int .i64 m.k6, .slice m.da m.dl.length m.dc] 26) = W0 at HX0 ⊢
  have hb0 : Hid (Below w.heap.size w W0) := hid (by rw [← hW0]; exact bal (Below.refl _ _) _)
  clear hW0
  have d0 : W0.cell? ⟨w.heap.size, 0, none⟩ = some (.slice m.a0 m.t0.length m.c0) := (HX0.out).c 0 _ rfl
  have d1 : W0.cell? ⟨w.heap.size, 1, none⟩ = some (.slice m.a1 m.t1.length m.c1) := (HX0.out).c 1 _ rfl
  have d2 : W0.cell? ⟨w.heap.size, 2, none⟩ = some (.slice m.a2 m.t2.length m.c2) := (HX0.out).c 2 _ rfl
  have d3 : W0.cell? ⟨w.heap.size, 3, none⟩ = some (.slice m.a3 m.t3.length m.c3) := (HX0.out).c 3 _ rfl
  have d4 : W0.cell? ⟨w.heap.size, 4, none⟩ = some (.slice m.a4 m.t4.length m.c4) := (HX0.out).c 4 _ rfl
  have d5 : W0.cell? ⟨w.heap.size, 5, none⟩ = some (.slice m.a5 m.t5.length m.c5) := (HX0.out).c 5 _ rfl
  have d6 : W0.cell? ⟨w.heap.size, 6, none⟩ = some (.int .i64 m.ix) := (HX0.out).c 6 _ rfl
  have d7 : W0.cell? ⟨w.heap.size, 7, none⟩ = some (.int .i64 m.k0) := (HX0.out).c 7 _ rfl
  have d8 : W0.cell? ⟨w.heap.size, 8, none⟩ = some (.int .i64 m.k1) := (HX0.out).c 8 _ rfl
  have d9 : W0.cell? ⟨w.heap.size, 9, none⟩ = some (.int .i64 m.k2) := (HX0.out).c 9 _ rfl
  have d10 : W0.cell? ⟨w.heap.size, 10, none⟩ = some (.int .i64 m.k3) := (HX0.out).c 10 _ rfl
  have d11 : W0.cell? ⟨w.heap.size, 11, none⟩ = some (.int .i64 m.k4) := (HX0.out).c 11 _ rfl
  have d12 : W0.cell? ⟨w.heap.size, 12, none⟩ = some (.int .i64 m.k5) := (HX0.out).c 12 _ rfl
  have d13 : W0.cell? ⟨w.heap.size, 13, none⟩ = some (.int .i64 m.k6) := (HX0.out).c 13 _ rfl
  have d14 : W0.cell? ⟨w.heap.size, 14, none⟩ = some (.slice m.da m.dl.length m.dc) := (HX0.out).c 14 _ rfl
  clear HX0
  go_wp2_with fail
  refine (hR.out W0).mono ?_
  rintro e w2 ⟨a, n, c, b, rfl, hP⟩
  have HP := hid hP
  clear d0 d1 d2 d3 d4 d5 d6 d7 d8 d9 d10 d11 d12 d13 d14 hP
  go_wp2
  go_ret2
  exact ⟨W0, _, _, _, _, hb0.out, rfl, HP.out⟩

/-- what the document's texts tell: as the row of that name, and nothing for no such row -/
theorem rtexts_c (m : En) (_ : List Int) (w : World) (_ : Hid (EnOk w m)) (hm : Hid (mayE m = true)) :
    ∀ k, 10 ≤ k → k ≤ 20 → Calls Tryd.prog 30 #[.agg (enC m), .string (bStr (nameL k))] w (RtE w (tellL m 0 k)) := by
  intro k h1 h2
  have hN : ∀ j, j < 10 → ((bStr (nameL k)).toList == (nameL j).map fun r => UInt8.ofNat r.toNat) = false := by
    have h : ((List.range 21).all fun k => (List.range 10).all fun j => k < 10 || !((bStr (nameL k)).toList == (nameL j).map fun r => UInt8.ofNat r.toNat)) = true := by decide +kernel
    intro j hj
    have a1 := List.all_eq_true.1 h k (List.mem_range.2 (by omega))
    have a2 := List.all_eq_true.1 a1 j (List.mem_range.2 hj)
    simpa [show ¬ k < 10 from by omega] using a2
  have hC : Hid (∀ W, Calls Tryd.prog 45 #[.agg (enC m), .string (bStr (nameL k))] W fun e w' => ∃ a n c b, e = .returned (.tuple #[.slice a n c, .bool b]) ∧ (b = true ∧ n = (tellL m 0 k).length ∧ Sl w' a (tellL m 0 k) ∧ Below W.heap.size W w')) := hid fun W => by
    have key : Calls Tryd.prog 45 #[.agg (enC m), .string (bStr (nameL k))] W (RcE W (tellL m 0 k)) := by
      rcases (show k = 10 ∨ k = 11 ∨ k = 12 ∨ k = 13 ∨ k = 14 ∨ k = 15 ∨ k = 16 ∨ k = 17 ∨ k = 18 ∨ k = 19 ∨ k = 20 by omega) with rfl | rfl | rfl | rfl | rfl | rfl | rfl | rfl | rfl | rfl | rfl
      · exact rclock10_c m _ W hm rfl
      · exact rclock11_c m _ W hm rfl
      · exact rclock12_c m _ W hm rfl
      · exact rclock13_c m _ W hm rfl
      · exact rclock14_c m _ W hm rfl
      · exact rclock15_c m _ W hm rfl
      · exact rclock16_c m _ W hm rfl
      · exact rclock17_c m _ W hm rfl
      · exact rclock18_c m _ W hm rfl
      · exact rclock19_c m _ W hm rfl
      · exact rclock20_c m _ W hm rfl
    refine key.mono ?_
    rintro e w' ⟨a, c, rfl, ho, hb⟩
    exact ⟨a, _, c, true, rfl, rfl, rfl, ho.sl, hb⟩
  refine (rtextsC_c m _ w _ hN hC).mono ?_
  rintro e w' ⟨W, a, n, c, b, hb, rfl, rfl, rfl, hs, hb2⟩
  exact ⟨a, c, rfl, hs, hb.trans (hb2.mono hb.size)⟩
theorem rtextsN_c (m : En) (N : ByteArray) (w : World) (h : ∀ j, j ≤ 20 → (N.toList == (nameL j).map fun r => UInt8.ofNat r.toNat) = false) :
    Calls Tryd.prog 30 #[.agg (enC m), .string N] w fun e w' => e = .returned (.tuple #[.slice none 0 0, .bool false]) ∧ Below w.heap.size w w' := by
  have hC : Hid (∀ W, Calls Tryd.prog 45 #[.agg (enC m), .string N] W fun e w' => ∃ a n c b, e = .returned (.tuple #[.slice a n c, .bool b]) ∧ (a = none ∧ n = 0 ∧ c = 0 ∧ b = false ∧ Below W.heap.size W w')) := hid fun W => by
    refine (rclock_none m N W fun j _ h2 => h j h2).mono ?_
    rintro e w' ⟨rfl, hb⟩
    exact ⟨none, 0, 0, false, rfl, rfl, rfl, rfl, rfl, hb⟩
  refine (rtextsC_c m _ w _ (fun j hj => h j (by omega)) hC).mono ?_
  rintro e w' ⟨W, a, n, c, b, hb, rfl, rfl, rfl, rfl, rfl, hb2⟩
  exact ⟨rfl, hb.trans (hb2.mono hb.size)⟩
theorem rtextsK_c (m : En) (k : Nat) (hk : k ≤ 20) (w : World) (hE : Hid (EnOk w m)) (hm : Hid (mayE m = true)) (u : Nat) :
    Calls Tryd.prog 30 #[.agg (enC m), .string (bStr (nameL k))] w (RtE w (tellL m u k)) := by
  have hu : tellL m u k = tellL m 0 k := by
    rcases (show k = 0 ∨ k = 1 ∨ k = 2 ∨ k = 3 ∨ k = 4 ∨ k = 5 ∨ k = 6 ∨ k = 7 ∨ k = 8 ∨ k = 9 ∨ k = 10 ∨ k = 11 ∨ k = 12 ∨ k = 13 ∨ k = 14 ∨ k = 15 ∨ k = 16 ∨ k = 17 ∨ k = 18 ∨ k = 19 ∨ k = 20 by omega) with rfl | rfl | rfl | rfl | rfl | rfl | rfl | rfl | rfl | rfl | rfl | rfl | rfl | rfl | rfl | rfl | rfl | rfl | rfl | rfl | rfl <;> rfl
  rw [hu]
  by_cases h10 : 10 ≤ k
  · exact rtexts_c m [] w hE hm k h10 hk
  · rcases (show k = 0 ∨ k = 1 ∨ k = 2 ∨ k = 3 ∨ k = 4 ∨ k = 5 ∨ k = 6 ∨ k = 7 ∨ k = 8 ∨ k = 9 by omega) with rfl | rfl | rfl | rfl | rfl | rfl | rfl | rfl | rfl | rfl
    · exact rtexts0_c m _ w hE hm rfl
    · exact rtexts1_c m _ w hE hm rfl
    · exact rtexts2_c m _ w hE hm rfl
    · exact rtexts3_c m _ w hE hm rfl
    · exact rtexts4_c m _ w hE hm rfl
    · exact rtexts5_c m _ w hE hm rfl
    · exact rtexts6_c m _ w hE hm rfl
    · exact rtexts7_c m _ w hE hm rfl
    · exact rtexts8_c m _ w hE hm rfl
    · exact rtexts9_c m _ w hE hm rfl
end Go.Proofs.YtijhkpbnalnpbaaDoor
