/- standishlaw5: known. -/
import Derived.Test.YtnaipahapdjakaaChk
import Derived.Test.YtnaipahapdjakaaChl
import Derived.Test.YtnaipahapdjakaaChq
namespace Go.Proofs.Ytnaipahapdjakaa
open Go.RowKit

/-- changes in a block of their own -/
theorem CSl.lits (w : World) (l : List Cm) (e : TypeId) (b : Nat) (hb : b = w.heap.size) (hl : l.length ≤ 2513169434916) (cs : Array Value) (hcs : cs = (cflat l).toArray) : CSl (w.alloc (.cells cs e)) (some ⟨b, 0, none⟩) l := by
  subst hb
  refine ⟨hl, .inr ⟨_, _, rfl, fun i hi => ?_⟩⟩
  have e0 := cflat_at l hi (j := 0) (by omega)
  have e1 := cflat_at l hi (j := 1) (by omega)
  have e2 := cflat_at l hi (j := 2) (by omega)
  refine ⟨?_, ?_, ?_⟩
  · rw [cell_alloc_new, hcs]; simpa [cmv] using e0
  · rw [cell_alloc_new, hcs]; simpa [cmv] using e1
  · rw [cell_alloc_new, hcs]; simpa [cmv] using e2
theorem kn_1 : cpl [97, 98, 99] [97, 120, 99] = 1 := by decide
theorem kn_2 : (leastC [97, 98, 99] [97, 120, 99]).cut = [98] := by decide
theorem kn_3 : (leastC [97, 98, 99] [97, 120, 99]).put = [120] := by decide
theorem kn_4 : mayC [97, 98, 99] ⟨1, [98], [120]⟩ = true := by decide
theorem kn_5 : apT [97, 98, 99] ⟨1, [98], [120]⟩ = [97, 120, 99] := by decide
theorem kn_6 : apE [97, 98, 99] ⟨1, [98], [120]⟩ = 0 := by decide
theorem kn_7 : apT [97, 98, 99] ⟨1, [120], []⟩ = [] := by decide
theorem kn_8 : apE [97, 98, 99] ⟨1, [120], []⟩ = 1 := by decide
theorem kn_9 : mayC [97, 120, 99] ⟨1, [98], [120]⟩ = false := by decide
set_option maxHeartbeats 4000000 in
theorem known_c (w : World) : Calls Try.prog 14 #[] w fun e w' => e = .returned (.bool true) ∧ Below w.heap.size w w' := by
  have hs1 : Sl ((w.alloc (.cells #[.int .i32 97, .int .i32 98, .int .i32 99] 21)).alloc (.cells #[.int .i32 97, .int .i32 120, .int .i32 99] 21)) (some ⟨w.heap.size, 0, none⟩) [97, 98, 99] := Sl.alloc (Sl.lit' _ [97, 98, 99] _ _ (by simp) (by simp) (by simp [rng]) _ rfl) _
  have hs2 : Sl ((w.alloc (.cells #[.int .i32 97, .int .i32 98, .int .i32 99] 21)).alloc (.cells #[.int .i32 97, .int .i32 120, .int .i32 99] 21)) (some ⟨w.heap.size + 1, 0, none⟩) [97, 120, 99] := (Sl.lit' _ [97, 120, 99] _ _ (by simp) (by simp) (by simp [rng]) _ rfl)
  have hx0 : Below w.heap.size w ((w.alloc (.cells #[.int .i32 97, .int .i32 98, .int .i32 99] 21)).alloc (.cells #[.int .i32 97, .int .i32 120, .int .i32 99] 21)) := bal (bal (Below.refl _ _) _) _
  go_enter Try.func14, Try.ntmps14
  go_wp2_with fail
  generalize (w.alloc (.cells #[.int .i32 97, .int .i32 98, .int .i32 99] 21)).alloc (.cells #[.int .i32 97, .int .i32 120, .int .i32 99] 21) = V at hs1 hs2 hx0 ⊢
  have hl := least_c (some ⟨w.heap.size, 0, none⟩) (some ⟨w.heap.size + 1, 0, none⟩) 3 3 [97, 98, 99] [97, 120, 99] V hs1 hs2 (by simp) (by simp)
  rw [kn_1, kn_2, kn_3] at hl
  refine hl.mono ?_
  rintro e w3 ⟨a1, c1, a2, c2, rfl, ho1, ho2, hb3, -⟩
  clear hl
  have p1 : 1 ≤ c1 := by simpa using ho1.cap
  have p2 : 1 ≤ c2 := by simpa using ho2.cap
  have hx3 : Below w.heap.size w (w3.alloc (.cells #[.int .i64 1, .slice a1 1 c1, .slice a2 1 c2] 24)) := bal (bthen hx0 hb3) _
  have C4 : (w3.alloc (.cells #[.int .i64 1, .slice a1 1 c1, .slice a2 1 c2] 24)).cell? ⟨w3.heap.size, 0, none⟩ = some (.int .i64 1) ∧ (w3.alloc (.cells #[.int .i64 1, .slice a1 1 c1, .slice a2 1 c2] 24)).cell? ⟨w3.heap.size, 1, none⟩ = some (.slice a1 1 c1) ∧ (w3.alloc (.cells #[.int .i64 1, .slice a1 1 c1, .slice a2 1 c2] 24)).cell? ⟨w3.heap.size, 2, none⟩ = some (.slice a2 1 c2) := by
    refine ⟨?_, ?_, ?_⟩ <;> (rw [cell_alloc_new]; rfl)
  have z4 : w3.heap.size < (w3.alloc (.cells #[.int .i64 1, .slice a1 1 c1, .slice a2 1 c2] 24)).heap.size := by simp
  have d4 : Sl (w3.alloc (.cells #[.int .i64 1, .slice a1 1 c1, .slice a2 1 c2] 24)) (some ⟨w.heap.size, 0, none⟩) [97, 98, 99] ∧ Sl (w3.alloc (.cells #[.int .i64 1, .slice a1 1 c1, .slice a2 1 c2] 24)) a1 [98] ∧ Sl (w3.alloc (.cells #[.int .i64 1, .slice a1 1 c1, .slice a2 1 c2] 24)) a2 [120] := ⟨(hs1.bel hb3).alloc _, ho1.sl.alloc _, ho2.sl.alloc _⟩
  clear hs1 hs2 ho1 ho2 hb3 hx0
  go_wp2_with fail
  generalize w3.alloc (.cells #[.int .i64 1, .slice a1 1 c1, .slice a2 1 c2] 24) = V4 at hx3 C4 z4 d4 ⊢
  generalize w3.heap.size = X at C4 z4 ⊢
  have K : Hid (∀ w', Below V4.heap.size V4 w' → w'.cell? ⟨X, 0, none⟩ = some (.int .i64 1) ∧ w'.cell? ⟨X, 1, none⟩ = some (.slice a1 1 c1) ∧ w'.cell? ⟨X, 2, none⟩ = some (.slice a2 1 c2)) := by
    intro w' hb
    refine ⟨?_, ?_, ?_⟩
    · rw [hb.cell (by exact z4)]; exact C4.1
    · rw [hb.cell (by exact z4)]; exact C4.2.1
    · rw [hb.cell (by exact z4)]; exact C4.2.2
  have T1 : Hid (∀ w', Below V4.heap.size V4 w' → Sl w' (some ⟨w.heap.size, 0, none⟩) [97, 98, 99]) := fun w' hb => d4.1.bel hb
  have T2 : Hid (∀ w', Below V4.heap.size V4 w' → Sl w' a1 [98]) := fun w' hb => d4.2.1.bel hb
  have T3 : Hid (∀ w', Below V4.heap.size V4 w' → Sl w' a2 [120]) := fun w' hb => d4.2.2.bel hb
  have hy4 : Below V4.heap.size V4 V4 := Below.refl _ _
  have h5 := apply_c (some ⟨w.heap.size, 0, none⟩) a1 a2 3 c1 c2 [97, 98, 99] [98] [120] 1 V4 (T1.out _ hy4) (T2.out _ hy4) (T3.out _ hy4) (by simp) (by unfold ir; omega)
  rw [kn_5, kn_6] at h5
  clear C4 d4
  refine h5.mono ?_
  rintro e w5 ⟨a5, c5, rfl, ho5, hb5⟩
  clear h5
  have p5 : 3 ≤ c5 := by simpa using ho5.cap
  have hy5 : Below V4.heap.size V4 w5 := bthen hy4 hb5
  have T5 : Hid (∀ w', Below w5.heap.size w5 w' → Sl w' a5 [97, 120, 99]) := fun w' hb => ho5.sl.bel hb
  clear ho5 hb5
  obtain ⟨k0, k1, k2⟩ := K.out _ hy5
  have hy6 : Below V4.heap.size V4 (w5.alloc (.cells #[.int .i32 120] 21)) := bal hy5 _
  have hv6 : Below w5.heap.size w5 (w5.alloc (.cells #[.int .i32 120] 21)) := bal (Below.refl _ _) _
  have h6 := apply_c (some ⟨w.heap.size, 0, none⟩) (some ⟨w5.heap.size, 0, none⟩) none 3 1 0 [97, 98, 99] [120] [] 1 (w5.alloc (.cells #[.int .i32 120] 21)) (T1.out _ hy6) (Sl.lit' _ [120] _ _ (by simp) (by simp) (by simp [rng]) _ rfl) (Sl.nil _ _) (by simp) (by unfold ir; omega)
  rw [kn_7, kn_8] at h6
  go_wp2_with fail
  generalize w5.alloc (.cells #[.int .i32 120] 21) = V6 at hy6 hv6 h6 ⊢
  refine h6.mono ?_
  rintro e w7 ⟨a7, c7, rfl, -, hb7⟩
  clear h6 k0 k1 k2
  have hy7 : Below V4.heap.size V4 w7 := bthen hy6 hb7
  have hv7 : Below w5.heap.size w5 w7 := bthen hv6 hb7
  clear hb7
  obtain ⟨k0, k1, k2⟩ := K.out _ hy7
  have hy8 : Below V4.heap.size V4 (w7.alloc (.cells #[.int .i32 97, .int .i32 120, .int .i32 99] 21)) := bal hy7 _
  have hv8 : Below w5.heap.size w5 (w7.alloc (.cells #[.int .i32 97, .int .i32 120, .int .i32 99] 21)) := bal hv7 _
  have h8 := rsame_v a5 (some ⟨w7.heap.size, 0, none⟩) c5 3 [97, 120, 99] [97, 120, 99] (w7.alloc (.cells #[.int .i32 97, .int .i32 120, .int .i32 99] 21)) (T5.out _ hv8) (Sl.lit' _ [97, 120, 99] _ _ (by simp) (by simp) (by simp [rng]) _ rfl) (eqM_self _)
  go_wp2_with fail
  generalize w7.alloc (.cells #[.int .i32 97, .int .i32 120, .int .i32 99] 21) = V8 at hy8 hv8 h8 ⊢
  refine h8.mono ?_
  rintro e w9 ⟨rfl, n, rfl⟩
  clear h8 k0 k1 k2
  have hy9 : Below V4.heap.size V4 (V8.drewN n) := bdrewN hy8 n
  have hv9 : Below w5.heap.size w5 (V8.drewN n) := bdrewN hv8 n
  generalize V8.drewN n = V9 at hy9 hv9 ⊢
  obtain ⟨k0, k1, k2⟩ := K.out _ hy9
  have h9 := may_chg (some ⟨w.heap.size, 0, none⟩) a1 a2 3 c1 c2 [97, 98, 99] [98] [120] 1 V9 (T1.out _ hy9) (T2.out _ hy9) (T3.out _ hy9) (by simp) (by unfold ir; omega)
  rw [kn_4] at h9
  go_wp2_with fail
  refine h9.mono ?_
  rintro e w10 ⟨rfl, hb10⟩
  clear h9 k0 k1 k2
  have hy10 : Below V4.heap.size V4 w10 := bthen hy9 hb10
  have hv10 : Below w5.heap.size w5 w10 := bthen hv9 hb10
  clear hb10
  obtain ⟨k0, k1, k2⟩ := K.out _ hy10
  have h10 := may_chg a5 a1 a2 c5 c1 c2 [97, 120, 99] [98] [120] 1 w10 (T5.out _ hv10) (T2.out _ hy10) (T3.out _ hy10) (by simpa using p5) (by unfold ir; omega)
  rw [kn_9] at h10
  go_wp2_with fail
  refine h10.mono ?_
  rintro e w11 ⟨rfl, hb11⟩
  clear h10 k0 k1 k2
  have hy11 : Below V4.heap.size V4 w11 := bthen hy10 hb11
  clear hb11
  obtain ⟨k0, k1, k2⟩ := K.out _ hy11
  have hy12 : Below V4.heap.size V4 (w11.alloc (.cells #[.int .i64 1, .slice a1 1 c1, .slice a2 1 c2, .int .i64 1, .slice a1 1 c1, .slice a2 1 c2] 24)) := bal hy11 _
  have h12 := back_c (some ⟨w11.heap.size, 0, none⟩) 2 [⟨1, a1, [98], c1, a2, [120], c2⟩, ⟨1, a1, [98], c1, a2, [120], c2⟩] (w11.alloc (.cells #[.int .i64 1, .slice a1 1 c1, .slice a2 1 c2, .int .i64 1, .slice a1 1 c1, .slice a2 1 c2] 24)) (CSl.lits _ _ _ _ rfl (by simp) _ rfl) (by
    intro m hm
    obtain rfl : m = ⟨1, a1, [98], c1, a2, [120], c2⟩ := by simpa using hm
    exact ⟨by unfold ir; simp only; omega, T2.out _ hy12, T3.out _ hy12, by simpa using p1, by simpa using p2⟩)
  go_wp2_with fail
  generalize w11.alloc (.cells #[.int .i64 1, .slice a1 1 c1, .slice a2 1 c2, .int .i64 1, .slice a1 1 c1, .slice a2 1 c2] 24) = V12 at hy12 h12 ⊢
  refine h12.mono ?_
  rintro e w13 ⟨a13, c13, M, rfl, hM, -, -, hb13⟩
  have hMl : M.length = 2 := by
    have e := congrArg List.length hM.out
    rwa [backC_len, cgs_len, cgs_len] at e
  rw [hMl]
  clear h12 k0 k1 k2 hMl hM
  go_wp2
  go_ret
  exact ⟨rfl, hx3.trans ((bthen hy12 hb13).mono (by have := hx3.size; omega))⟩
end Go.Proofs.Ytnaipahapdjakaa
