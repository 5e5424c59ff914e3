/- Row of both. -/
import Derived.Test.YtnaipahapdjakaaChj
namespace Go.Proofs.Ytnaipahapdjakaa
open Go.RowKit

/-- what a row of changes gives -/
def Rows (w : World) (r : Option (List Int)) (e : Ending) (w' : World) : Prop :=
  ∃ (a : Option Addr) (c : Nat) (L : List Int) (x : Int), e = .returned (.tuple #[.slice a L.length c, .int .i64 x]) ∧ Hid ((r = some L ∧ x = 0) ∨ (r = none ∧ L = [] ∧ x = 1)) ∧ Own w' w.heap.size a c L ∧ Below w.heap.size w w'
theorem app_no {w w' : World} {l : List Int} {g : Cg} {e : Ending} (hm : mayC l g = false) (h : MakesE w (apT l g) (apE l g) e w') : ∃ a c, e = .returned (.tuple #[.slice a 0 c, .int .i64 1]) ∧ Below w.heap.size w w' := by
  obtain ⟨a, c, he, _, hb⟩ := h
  refine ⟨a, c, ?_, hb⟩
  rw [he]; simp [apT, apE, hm]
theorem app_yes {w w' : World} {l : List Int} {g : Cg} {e : Ending} (hm : mayC l g = true) (h : MakesE w (apT l g) (apE l g) e w') : ∃ a c L, e = .returned (.tuple #[.slice a (L : List Int).length c, .int .i64 0]) ∧ Hid (L = appC l g) ∧ Own w' w.heap.size a c L ∧ Below w.heap.size w w' := by
  obtain ⟨a, c, he, ho, hb⟩ := h
  have e1 : apT l g = appC l g := by simp [apT, hm]
  have e2 : apE l g = 0 := by simp [apE, hm]
  rw [e1] at he ho
  rw [e2] at he
  exact ⟨a, c, _, he, rfl, ho, hb⟩
set_option maxHeartbeats 4000000 in
theorem crow_c (a al : Option Addr) (c cl : Nat) (s : List Int) (l : List Cm) (w : World) (h : Sl w a s) (hl : CSl w al l) (ho : Cms w l) :
    Calls Try.prog 17 #[.slice a s.length c, .slice al l.length cl] w (Rows w (rowC s (cgs l))) := by
  have hsl := h.len
  have hll := hl.len
  have HL := hid hl; have HO := hid ho; have HS := hid h
  clear h hl ho
  go_enter Try.func17, Try.ntmps17
  go_wp2_with fail
  refine ((cloned_c a c s w HS.out).mono fun e w' h => h.n).mono ?_
  rintro e w0 ⟨a0, c0, L0, rfl, hL0, ho0, hb0⟩
  obtain rfl : s = L0 := hL0.out.symm
  have HD0 : Hid (Own w0 w.heap.size a0 c0 s) := ho0
  have hB0 := hid hb0
  clear ho0 hb0
  go_wp2
  go_loopw [6, 15] (fun o i wr => ∃ (k : Nat) (a5 : Option Addr) (c5 : Nat) (D : List Int), k ≤ l.length ∧ i = .int .i64 k ∧ o = .slice a5 D.length c5 ∧ Hid (rowC s (cgs (l.take k)) = some D) ∧ Hid (Own wr w.heap.size a5 c5 D) ∧ Below w.heap.size w wr) (fun _ i _ => l.length - (intOf i).toNat)
  case atStart => exact ⟨0, _, _, _, Nat.zero_le _, rfl, rfl, hid (by simp [cgs, rowC]), HD0, hB0.out⟩
  case round =>
    obtain ⟨k, a5, c5, D, hk, rfl, rfl, HD, HW, hb⟩ := hrel
    by_cases hlt : k < l.length
    · obtain ⟨b, o, rfl, hcb⟩ := (HL.out.bel hb).at hlt
      obtain ⟨x0, x1, x2⟩ := hcb k hlt
      have ok1 := (HO.out _ (cgt_mem hlt)).bel hb
      have HT : Hid (cgs (l.take (k + 1)) = cgs (l.take k) ++ [(cgt l k).cg]) := hid (by rw [cgt_take hlt, cgs_app]; rfl)
      clear hcb
      generalize cgt l k = X at HT x0 x1 x2 ok1
      obtain ⟨i, ca, C, cc, pa, P, pc⟩ := X
      obtain ⟨hi, s1, s2, -, -⟩ := ok1
      simp only [Cm.cg] at HT x0 x1 x2 s1 s2 hi
      have hBV : Hid (∀ V, Below wr.heap.size wr V → Calls Try.prog 25 #[.slice a5 D.length c5, .agg #[.int .i64 i, .slice ca C.length cc, .slice pa P.length pc]] V (MakesE V (apT D ⟨i, C, P⟩) (apE D ⟨i, C, P⟩))) := fun V hV =>
        apply_c a5 ca pa c5 cc pc D C P i V (HW.out.sl.bel hV) (s1.bel hV) (s2.bel hV) HW.out.cap hi
      have hDl := HW.out.sl.len
      clear s1 s2 hi
      cases hmv : mayC D ⟨i, C, P⟩
      · have Hm := hid hmv; clear hmv
        have hNo : Hid (∀ V, Below wr.heap.size wr V → Calls Try.prog 25 #[.slice a5 D.length c5, .agg #[.int .i64 i, .slice ca C.length cc, .slice pa P.length pc]] V fun e w' => ∃ a c, e = .returned (.tuple #[.slice a 0 c, .int .i64 1]) ∧ Below w.heap.size w w') := fun V hV => (hBV.out V hV).mono fun e w' h => by
          obtain ⟨a, c, he, hb1⟩ := app_no Hm.out h
          exact ⟨a, c, he, bthen (bthen hb hV) hb1⟩
        have hN : Hid (rowC s (cgs l) = none) := by
          have e : cgs l = cgs (l.take (k + 1)) ++ cgs (l.drop (k + 1)) := by rw [← cgs_app, List.take_append_drop]
          rw [Hid, e]
          refine rowC_none ?_ _
          rw [HT.out, rowC_snoc_some HD.out, Hm.out]; rfl
        go_wp2_with fail
        refine (hNo.out _ ((Below.refl _ _).alloc (Nat.le_refl _) _)).mono ?_
        rintro e w1 ⟨a6, c6, rfl, hb1⟩
        have hx1 := hid hb1
        clear hb1
        go_wp2
        go_ret2
        exact ⟨none, 0, [], 1, rfl, hid (.inr ⟨hN.out, rfl, rfl⟩), Own.nil _ _, hx1.out⟩
      · have Hm := hid hmv; clear hmv
        have hYes : Hid (∀ V, Below wr.heap.size wr V → Calls Try.prog 25 #[.slice a5 D.length c5, .agg #[.int .i64 i, .slice ca C.length cc, .slice pa P.length pc]] V fun e w' => ∃ a c L, e = .returned (.tuple #[.slice a (L : List Int).length c, .int .i64 0]) ∧ Hid (L = appC D ⟨i, C, P⟩) ∧ Own w' w.heap.size a c L ∧ Below w.heap.size w w') := fun V hV => (hBV.out V hV).mono fun e w' h => by
          obtain ⟨a, c, L, he, hL, ho, hb1⟩ := app_yes Hm.out h
          exact ⟨a, c, L, he, hL, ho.base_le (bthen hb hV).size, bthen (bthen hb hV) hb1⟩
        go_wp2_with fail
        refine (hYes.out _ ((Below.refl _ _).alloc (Nat.le_refl _) _)).mono ?_
        rintro e w1 ⟨a6, c6, L6, rfl, hL6, ho6, hx1⟩
        have Ho6 := hid ho6
        clear ho6
        go_wp2
        go_roundw
        case rel => exact ⟨k + 1, a6, c6, L6, by omega, by go_num, rfl, hid (by rw [HT.out, rowC_snoc_some HD.out, Hm.out, hL6.out]; rfl), Ho6, hx1⟩
        case measure => simp [intOf]; omega
    · have hN : Hid (rowC s (cgs l) = some D) := hid (by have := HD.out; rwa [List.take_of_length_le (by omega)] at this)
      go_wp2
      go_ret2
      exact ⟨a5, c5, D, 0, rfl, hid (.inl ⟨hN.out, rfl⟩), HW.out, hb⟩
set_option maxHeartbeats 4000000 in
theorem rrow_c (a al : Option Addr) (c cl : Nat) (s : List Int) (l : List Cm) (w : World) (h : Sl w a s) (hl : CSl w al l) (ho : Cms w l) :
    Calls Try.prog 18 #[.slice a s.length c, .slice al l.length cl] w (Rows w (rowC s (cgs l))) := by
  have hsl := h.len
  have hll := hl.len
  have HL := hid hl; have HO := hid ho; have HS := hid h
  clear h hl ho
  go_enter Try.func18, Try.ntmps18
  go_wp2_with (at_builtin; (refine wpL_appn rfl ((.const (.slice none 0 0))) (.tmp 10) rfl w.heap.size none a 0 s.length 0 c [] s rfl (by first | rfl | simp | omega) (Own.nil _ _) rfl (by first | rfl | simp | omega) HS.out (by simp; omega) (Nat.le_refl _) ?_); intro a0 c0 w0 L0 Hl0 ho0 hb0 hk0 hA0; have HA0 := hid hA0; clear hA0; have Ho0 := hid ho0; clear ho0; have Hk0 := hid hk0; clear hk0; have hz0 := hb0.size)
  obtain rfl : s = L0 := by simpa using Hl0.out.symm
  have HD0 : Hid (Own w0 w.heap.size a0 c0 s) := Ho0
  have hB0 := hid hb0
  clear hb0 Ho0
  go_loopw [6, 7] (fun o i wr => ∃ (k : Nat) (a5 : Option Addr) (c5 : Nat) (D : List Int), k ≤ l.length ∧ i = .int .i64 k ∧ o = .slice a5 D.length c5 ∧ Hid (rowC s (cgs (l.take k)) = some D) ∧ Hid (Own wr w.heap.size a5 c5 D) ∧ Below w.heap.size w wr) (fun _ i _ => l.length - (intOf i).toNat)
  case atStart => exact ⟨0, _, _, _, Nat.zero_le _, rfl, rfl, hid (by simp [cgs, rowC]), HD0, hB0.out⟩
  case round =>
    obtain ⟨k, a5, c5, D, hk, rfl, rfl, HD, HW, hb⟩ := hrel
    by_cases hlt : k < l.length
    · obtain ⟨b, o, rfl, hcb⟩ := (HL.out.bel hb).at hlt
      obtain ⟨x0, x1, x2⟩ := hcb k hlt
      have ok1 := (HO.out _ (cgt_mem hlt)).bel hb
      have HT : Hid (cgs (l.take (k + 1)) = cgs (l.take k) ++ [(cgt l k).cg]) := hid (by rw [cgt_take hlt, cgs_app]; rfl)
      clear hcb
      generalize cgt l k = X at HT x0 x1 x2 ok1
      obtain ⟨i, ca, C, cc, pa, P, pc⟩ := X
      obtain ⟨hi, s1, s2, -, -⟩ := ok1
      simp only [Cm.cg] at HT x0 x1 x2 s1 s2 hi
      have hBV : Hid (∀ V, Below wr.heap.size wr V → Calls Try.prog 16 #[.slice a5 D.length c5, .agg #[.int .i64 i, .slice ca C.length cc, .slice pa P.length pc]] V (MakesE V (apT D ⟨i, C, P⟩) (apE D ⟨i, C, P⟩))) := fun V hV =>
        rapply_c a5 ca pa c5 cc pc D C P i V (HW.out.sl.bel hV) (s1.bel hV) (s2.bel hV) HW.out.cap hi
      have hDl := HW.out.sl.len
      clear s1 s2 hi
      cases hmv : mayC D ⟨i, C, P⟩
      · have Hm := hid hmv; clear hmv
        have hNo : Hid (∀ V, Below wr.heap.size wr V → Calls Try.prog 16 #[.slice a5 D.length c5, .agg #[.int .i64 i, .slice ca C.length cc, .slice pa P.length pc]] V fun e w' => ∃ a c, e = .returned (.tuple #[.slice a 0 c, .int .i64 1]) ∧ Below w.heap.size w w') := fun V hV => (hBV.out V hV).mono fun e w' h => by
          obtain ⟨a, c, he, hb1⟩ := app_no Hm.out h
          exact ⟨a, c, he, bthen (bthen hb hV) hb1⟩
        have hN : Hid (rowC s (cgs l) = none) := by
          have e : cgs l = cgs (l.take (k + 1)) ++ cgs (l.drop (k + 1)) := by rw [← cgs_app, List.take_append_drop]
          rw [Hid, e]
          refine rowC_none ?_ _
          rw [HT.out, rowC_snoc_some HD.out, Hm.out]; rfl
        go_wp2_with fail
        refine (hNo.out _ (Below.refl _ _)).mono ?_
        rintro e w1 ⟨a6, c6, rfl, hb1⟩
        have hx1 := hid hb1
        clear hb1
        go_wp2
        go_ret2
        exact ⟨none, 0, [], 1, rfl, hid (.inr ⟨hN.out, rfl, rfl⟩), Own.nil _ _, hx1.out⟩
      · have Hm := hid hmv; clear hmv
        have hYes : Hid (∀ V, Below wr.heap.size wr V → Calls Try.prog 16 #[.slice a5 D.length c5, .agg #[.int .i64 i, .slice ca C.length cc, .slice pa P.length pc]] V fun e w' => ∃ a c L, e = .returned (.tuple #[.slice a (L : List Int).length c, .int .i64 0]) ∧ Hid (L = appC D ⟨i, C, P⟩) ∧ Own w' w.heap.size a c L ∧ Below w.heap.size w w') := fun V hV => (hBV.out V hV).mono fun e w' h => by
          obtain ⟨a, c, L, he, hL, ho, hb1⟩ := app_yes Hm.out h
          exact ⟨a, c, L, he, hL, ho.base_le (bthen hb hV).size, bthen (bthen hb hV) hb1⟩
        go_wp2_with fail
        refine (hYes.out _ (Below.refl _ _)).mono ?_
        rintro e w1 ⟨a6, c6, L6, rfl, hL6, ho6, hx1⟩
        have Ho6 := hid ho6
        clear ho6
        go_wp2
        go_roundw
        case rel => exact ⟨k + 1, a6, c6, L6, by omega, by go_num, rfl, hid (by rw [HT.out, rowC_snoc_some HD.out, Hm.out, hL6.out]; rfl), Ho6, hx1⟩
        case measure => simp [intOf]; omega
    · have hN : Hid (rowC s (cgs l) = some D) := hid (by have := HD.out; rwa [List.take_of_length_le (by omega)] at this)
      go_wp2
      go_ret2
      exact ⟨a5, c5, D, 0, rfl, hid (.inl ⟨hN.out, rfl⟩), HW.out, hb⟩
end Go.Proofs.Ytnaipahapdjakaa
