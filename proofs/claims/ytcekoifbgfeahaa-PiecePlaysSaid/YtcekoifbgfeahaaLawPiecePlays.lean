/- Proved: PiecePlays returns true for every text and every list of deeds, and its arguments read afterwards as before. No condition. -/
import Derived.Test.YtcekoifbgfeahaaLpy
namespace Go.Proofs.Ytcekoifbgfeahaa
open Go.RowKit Go.ChangeShapes Go.WideShapes Go.ChangeAt

set_option maxRecDepth 100000 in
theorem piecePlays_core (H : Type) (enc : TypeId × Value → H) (W : World) (base : Nat) (args : Array Value) (ds gs : List (DataW H)) (before : List MemPlace)
    (hval0 : ∀ (j : Nat) t v, Try.f3.params[j]? = some t → args[j]? = some v → Value.okWide Try.prog W .any base t v)
    (hW : DataW.Whole enc Try.prog Try.f3.params.toList Rows.piecePlaysSpec.vars false W args.toList ds gs before)
    (hsz0 : (DataW.weightsEach Try.prog (Try.f3.params.toList ++ Rows.piecePlaysSpec.plain.varTypes Try.prog) (ds ++ gs)).all (· ≤ reachBytes) = true) :
    Calls Try.prog 3 args W fun e W' => ∃ v, e = .returned v ∧ Rows.piecePlaysSpec.post enc Try.prog Try.f3 false true false false W args v W' := by
  have hW' := hW
  obtain ⟨p, q, hA0, hV, rfl, _, _⟩ := hW
  have hA : DataW.TrodAll enc Try.prog W 0 (fun _ => true) true Try.f3.params.toList args.toList ds p := hA0
  have hval := hval0
  rw [Try.params3] at hA hval
  obtain ⟨rfl, rfl⟩ := trodVars_none hV
  obtain ⟨v0, vs0, d0, ds0, p0, q0, hargs0, rfl, rfl, h0, r0⟩ := trodAll_cons hA
  obtain ⟨v1, vs1, d1, ds1, p1, q1, hargs1, rfl, rfl, h1, r1⟩ := trodAll_cons r0
  obtain ⟨hnil, rfl, rfl⟩ := trodAll_nil r1
  subst hnil; subst hargs1
  obtain rfl : args = #[v0, v1] := by cases args; simp_all
  have hsz : (DataW.weightsEach Try.prog [22, 23] [d0, d1]).all (· ≤ reachBytes) = true := by
    have h := hsz0
    rw [Try.params3] at h
    exact h
  obtain ⟨a0, l0, c0, rfl, hlc0, hd0, hs0⟩ := open_runes (hval 0 22 v0 rfl rfl) h0
  have hc0 := cap_sized hsz 0 rfl rfl hd0
  have q0 : l0.length ≤ 35184372087808 := by omega
  have s0 := hs0 (by omega)
  obtain ⟨a1, n1, c1, f1, rfl, hlc1, hd1, hs1⟩ := open_deeds (hval 1 23 v1 rfl rfl) h1
  obtain ⟨hc1, hp1⟩ := deeds_sized hsz 1 rfl rfl hd1
  have q1 : n1 ≤ 35184372087808 := by omega
  have pb1 : ∀ i, i < n1 → (f1 i).put.length ≤ 35184372087808 := fun i hi => by have := (hs1 i hi).1; have := hp1 i hi; omega
  have s1 : Dds W a1 n1 f1 := fun i hi => (hs1 i hi).2 (by have := pb1 i hi; omega)
  refine (plays_walk a0 a1 c0 c1 n1 l0 f1 W s0 (by omega) s1 q1 pb1).mono fun e W' ⟨he, hb⟩ => ?_
  subst he
  exact ⟨_, rfl, law_post hW' rfl rfl rfl (by rw [Try.params3]; intro t ht; simp at ht; (rcases ht with rfl | rfl <;> exact ⟨by kernel_rfl, of_decide_eq_true (by kernel_rfl)⟩)) hb⟩

set_option maxRecDepth 100000 in
theorem piecePlays_lifted (os : Os) (started : os.Started) (H : Type) (enc : TypeId × Value → H) :
    ReturnsInHanded {} Try.checked os 3 .any (Rows.piecePlaysSpec.pre6 enc Try.prog Try.f3 Rows.piecePlaysRow.domain false) (Rows.piecePlaysSpec.post enc Try.prog Try.f3 false true false false) := by
  refine returnsInHanded_of_change_sized (C := Try.checked) Try.own started (by kernel_rfl) Try.func3
    (ChangeSpec.witness6 (enc := enc) (C := Try.checked) false ⟨#[], #[.slice none 0 0, .slice none 0 0], []⟩ 8 (by kernel_rfl) (by kernel_rfl) (by kernel_rfl) (by kernel_rfl)) ?_
  intro W base args ds gs before hval hW _ hsz _
  exact piecePlays_core H enc W base args ds gs before hval hW hsz
theorem piecePlays_holds : Rows.PiecePlaysSaid :=
  OpenClaim.holds_of_wide 3 Try.f3 rfl rfl rfl rfl rfl rfl rfl ⟨rfl, rfl, rfl, rfl, rfl⟩ rfl rfl rfl rfl rfl (by kernel_rfl) Try.func3 (by kernel_rfl)
    (of_decide_eq_true (by kernel_rfl)) (by unfold Func.isWrapper; rw [if_neg (of_decide_eq_false (by kernel_rfl))]; exact ⟨rfl, rfl⟩)
    (fun os started H enc _ => piecePlays_lifted os started H enc)
end Go.Proofs.Ytcekoifbgfeahaa
