/- Package change: Apply, Invert; package standishref1: MayChange, Splice, Within. -/
import Derived.Test.YtnaipahapdjakaaChe
namespace Go.Proofs.Ytnaipahapdjakaa
open Go.RowKit

def MakesE (w : World) (l : List Int) (x : Int) (e : Ending) (w' : World) : Prop :=
  ∃ a c, e = .returned (.tuple #[.slice a l.length c, .int .i64 x]) ∧ Own w' w.heap.size a c l ∧ Below w.heap.size w w'
/-- the new list under a name of its own -/
def MakesN (w : World) (l : List Int) (e : Ending) (w' : World) : Prop :=
  ∃ a c L, e = .returned (.slice a (L : List Int).length c) ∧ Hid (L = l) ∧ Own w' w.heap.size a c L ∧ Below w.heap.size w w'
theorem Makes.n {w w' : World} {l : List Int} {e : Ending} (h : Makes w l e w') : MakesN w l e w' := by
  obtain ⟨a, c, he, ho, hb⟩ := h
  exact ⟨a, c, l, he, rfl, ho, hb⟩
def apT (s : List Int) (c : Cg) : List Int := if mayC s c = true then appC s c else []
def apE (s : List Int) (c : Cg) : Int := if mayC s c = true then 0 else 1
set_option maxHeartbeats 4000000 in
theorem apply_c (a a1 a2 : Option Addr) (c c1 c2 : Nat) (l C P : List Int) (i : Int) (w : World) (h : Sl w a l) (h1 : Sl w a1 C) (h2 : Sl w a2 P) (hc : l.length ≤ c) (hi : ir i) :
    Calls Try.prog 25 #[.slice a l.length c, .agg #[.int .i64 i, .slice a1 C.length c1, .slice a2 P.length c2]] w (MakesE w (apT l ⟨i, C, P⟩) (apE l ⟨i, C, P⟩)) := by
  have hl := h.len
  have hl1 := h1.len
  have hl2 := h2.len
  have hb0 : Below w.heap.size w (w.alloc (.cells #[.int .i64 i, .slice a1 C.length c1, .slice a2 P.length c2] 24)) := (Below.refl _ _).alloc (Nat.le_refl _) _
  have k0 : (w.alloc (.cells #[.int .i64 i, .slice a1 C.length c1, .slice a2 P.length c2] 24)).cell? ⟨w.heap.size, 0, none⟩ = some (.int .i64 i) ∧ (w.alloc (.cells #[.int .i64 i, .slice a1 C.length c1, .slice a2 P.length c2] 24)).cell? ⟨w.heap.size, 1, none⟩ = some (.slice a1 C.length c1) ∧ (w.alloc (.cells #[.int .i64 i, .slice a1 C.length c1, .slice a2 P.length c2] 24)).cell? ⟨w.heap.size, 2, none⟩ = some (.slice a2 P.length c2) := by
    refine ⟨?_, ?_, ?_⟩ <;> (rw [cell_alloc_new]; rfl)
  have hsz : w.heap.size < (w.alloc (.cells #[.int .i64 i, .slice a1 C.length c1, .slice a2 P.length c2] 24)).heap.size := by simp
  have hm := may_chg a a1 a2 c c1 c2 l C P i (w.alloc (.cells #[.int .i64 i, .slice a1 C.length c1, .slice a2 P.length c2] 24)) (h.alloc _) (h1.alloc _) (h2.alloc _) hc hi
  go_enter Try.func25, Try.ntmps25
  go_wp2_with fail
  generalize w.alloc (.cells #[.int .i64 i, .slice a1 C.length c1, .slice a2 P.length c2] 24) = V at hb0 k0 hsz hm ⊢
  refine hm.mono ?_
  rintro e w1 ⟨rfl, hb1⟩
  clear hm
  have hx1 : Below w.heap.size w w1 := hb0.trans (hb1.mono (by omega))
  have q0 : w1.cell? ⟨w.heap.size, 0, none⟩ = some (.int .i64 i) := by rw [hb1.cell (by simpa using hsz)]; exact k0.1
  have q1 : w1.cell? ⟨w.heap.size, 1, none⟩ = some (.slice a1 C.length c1) := by rw [hb1.cell (by simpa using hsz)]; exact k0.2.1
  have q2 : w1.cell? ⟨w.heap.size, 2, none⟩ = some (.slice a2 P.length c2) := by rw [hb1.cell (by simpa using hsz)]; exact k0.2.2
  have hs1 : w.heap.size < w1.heap.size := by have := hb1.size; omega
  have S := hid (h.bel hx1); have S2 := hid (h2.bel hx1)
  clear h h1 h2 k0 hb0 hb1
  cases hmv : mayC l ⟨i, C, P⟩
  · have Hm := hid hmv; clear hmv
    go_wp2
    go_ret2
    exact ⟨none, 0, by rw [show apT l ⟨i, C, P⟩ = [] by simp [apT, Hm.out], show apE l ⟨i, C, P⟩ = 1 by simp [apE, Hm.out]]; rfl, by rw [show apT l ⟨i, C, P⟩ = [] by simp [apT, Hm.out]]; exact Own.nil _ _, hx1⟩
  · have Hm := hid hmv; clear hmv
    obtain ⟨n, hin, h3, h4, h5, h6, -⟩ := mayC_iff.1 Hm.out
    simp only at hin h3 h4 h6
    subst hin
    have hP : P.length ≤ 2000 := by omega
    clear h4
    obtain ⟨a3, c3, D1, HD1, sD1, hD1, r1⟩ := slice_to S.out n c (by omega) hc
    obtain ⟨a4, c4, D2, HD2, sD2, hD2, r2⟩ := slice_from S.out (n + C.length) c (by omega) hc
    simp only [Int.natCast_add] at r2
    have hl1 : D1.length ≤ 2000 := by rw [HD1.out]; simp; omega
    have hl2 : D2.length ≤ 2000 := by rw [HD2.out]; simp; omega
    have hwr : IntKind.i64.wrap ((n : Int) + (C.length : Int)) = (n : Int) + (C.length : Int) := by rw [IntKind.wrap_i64]; omega
    have HC := hid (concat3_c w1.heap.size a3 a2 a4 c3 c2 c4 D1 P D2 (w1.drew.alloc (.cells #[.slice a3 D1.length c3, .slice a2 P.length c2, .slice a4 D2.length c4] 22)) (by exact cell_alloc_new w1.drew _ _ 0) (by exact cell_alloc_new w1.drew _ _ 1) (by exact cell_alloc_new w1.drew _ _ 2)
      (sD1.drew.alloc _) (S2.out.drew.alloc _) (sD2.drew.alloc _) hl1 hP hl2 |>.mono fun e w' h => h.n)
    have Hb : Hid (Below w.heap.size w (w1.drew.alloc (.cells #[.slice a3 D1.length c3, .slice a2 P.length c2, .slice a4 D2.length c4] 22))) := bal hx1.drew _
    have HT : Hid (apT l ⟨n, C, P⟩ = D1 ++ P ++ D2) := hid (by rw [apT, if_pos Hm.out, appC_nat (c := ⟨n, C, P⟩) (i := n) rfl, HD1.out, HD2.out])
    have K : Hid (∀ w', Below w1.heap.size w1 w' → w'.cell? ⟨w.heap.size, 0, none⟩ = some (.int .i64 n) ∧ w'.cell? ⟨w.heap.size, 1, none⟩ = some (.slice a1 C.length c1) ∧ w'.cell? ⟨w.heap.size, 2, none⟩ = some (.slice a2 P.length c2)) := by
      intro w' hb
      refine ⟨?_, ?_, ?_⟩
      · rw [hb.cell (by exact hs1)]; exact q0
      · rw [hb.cell (by exact hs1)]; exact q1
      · rw [hb.cell (by exact hs1)]; exact q2
    have Hb1 : Hid (Below w1.heap.size w1 (w1.drew.alloc (.cells #[.slice a3 D1.length c3, .slice a2 P.length c2, .slice a4 D2.length c4] 22))) := bal (Below.refl _ _).drew _
    clear sD1 sD2
    go_wp2
    go_region_held3 (fun w' => w'.cell? ⟨w.heap.size, 0, none⟩ = some (.int .i64 n) ∧ w'.cell? ⟨w.heap.size, 1, none⟩ = some (.slice a1 C.length c1) ∧ w'.cell? ⟨w.heap.size, 2, none⟩ = some (.slice a2 P.length c2)) (first | assumption | exact ⟨by assumption, by assumption, by assumption⟩ | go_keep)
      (first | (go_at_call 39; refine HC.out.mono ?_; rintro e w2 ⟨a5, c5, L5, rfl, hL5, ho5, hb5⟩; have Ho5 := hid ho5; have hx5 : Below w.heap.size w w2 := bthen Hb.out hb5; obtain ⟨z0, z1, z2⟩ := K.out _ (bthen Hb1.out hb5)))
    go_wp2
    go_ret2
    rw [HT.out, ← hL5.out, show apE l ⟨n, C, P⟩ = 0 by simp [apE, Hm.out]]
    exact ⟨a5, c5, rfl, Ho5.out.base_le Hb.out.size, hx5⟩
end Go.Proofs.Ytnaipahapdjakaa
