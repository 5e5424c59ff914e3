/- Proved: GravityNear: for changes of up to five elements near 0, near 1 << 40 and at -1: Place and Span agree with the document's at all positions and spans around them. Conditions: none. -/
import Derived.Test.YthciodfkhgpegaaGne
namespace Go.Proofs.Ythciodfkhgpegaa
open Go.RowKit Go.ChangeShapes Go.WideShapes Go.ChangeAt

set_option maxRecDepth 100000 in
theorem gravityNear_core (H : Type) (enc : TypeId × Value → H) (W : World) (base : Nat) (args : Array Value) (ds gs : List (DataW H)) (before : List MemPlace)
    (hval0 : ∀ (j : Nat) t v, Try.f4.params[j]? = some t → args[j]? = some v → Value.okWide Try.prog W .any base t v)
    (hW : DataW.Whole enc Try.prog Try.f4.params.toList Rows.gravityNearSpec.vars false W args.toList ds gs before)
    (hsz0 : (DataW.weightsEach Try.prog (Try.f4.params.toList ++ Rows.gravityNearSpec.plain.varTypes Try.prog) (ds ++ gs)).all (· ≤ reachBytes) = true) :
    Calls Try.prog 4 args W fun e W' => ∃ v, e = .returned v ∧ Rows.gravityNearSpec.post enc Try.prog Try.f4 false true false false W args v W' := by
  have hW' := hW
  obtain ⟨p, q, hA0, hV, rfl, _, _⟩ := hW
  have hA : DataW.TrodAll enc Try.prog W 0 (fun _ => true) true Try.f4.params.toList args.toList ds p := hA0
  have hval := hval0
  rw [Try.params4] at hA hval
  obtain ⟨rfl, rfl⟩ := trodVars_none hV
  obtain ⟨v0, vs0, d0, ds0, p0, q0, hargs0, rfl, rfl, h0, r0⟩ := trodAll_cons hA
  obtain ⟨v1, vs1, d1, ds1, p1, q1, hargs1, rfl, rfl, h1, r1⟩ := trodAll_cons r0
  obtain ⟨v2, vs2, d2, ds2, p2, q2, hargs2, rfl, rfl, h2, r2⟩ := trodAll_cons r1
  obtain ⟨hnil, rfl, rfl⟩ := trodAll_nil r2
  subst hnil; subst hargs2; subst hargs1
  obtain rfl : args = #[v0, v1, v2] := by cases args; simp_all
  have hsz : (DataW.weightsEach Try.prog [3, 22, 22] [d0, d1, d2]).all (· ≤ reachBytes) = true := by
    have h := hsz0
    rw [Try.params4] at h
    exact h
  obtain ⟨x0, rfl, he0, _, wx0⟩ := open_int Try.underlying3 (hval 0 3 v0 rfl rfl) h0
  have y0 := wf_i64 wx0
  obtain ⟨a1, l1, c1, rfl, hlc1, hd1, hs1⟩ := open_runes (hval 1 22 v1 rfl rfl) h1
  have hc1 := cap_sized hsz 1 rfl rfl hd1
  have q1 : l1.length ≤ 35184372087808 := by omega
  have s1 := hs1 (by omega)
  obtain ⟨a2, l2, c2, rfl, hlc2, hd2, hs2⟩ := open_runes (hval 2 22 v2 rfl rfl) h2
  have hc2 := cap_sized hsz 2 rfl rfl hd2
  have q2 : l2.length ≤ 35184372087808 := by omega
  have s2 := hs2 (by omega)
  refine (near_w a1 a2 c1 c2 l1 l2 x0 W s1 s2 hlc1 hlc2).mono fun e W' ⟨he, hb⟩ => ?_
  subst he
  exact ⟨_, rfl, law_post hW' rfl rfl rfl (by rw [Try.params4]; intro t ht; simp at ht; (rcases ht with rfl | rfl | rfl <;> exact ⟨by kernel_rfl, of_decide_eq_true (by kernel_rfl)⟩)) hb⟩

set_option maxRecDepth 100000 in
theorem gravityNear_lifted (os : Os) (started : os.Started) (H : Type) (enc : TypeId × Value → H) :
    ReturnsInHanded {} Try.checked os 4 .any (Rows.gravityNearSpec.pre6 enc Try.prog Try.f4 Rows.gravityNearRow.domain false) (Rows.gravityNearSpec.post enc Try.prog Try.f4 false true false false) := by
  refine returnsInHanded_of_change_sized (C := Try.checked) Try.own started (by kernel_rfl) Try.func4
    (ChangeSpec.witness6 (enc := enc) (C := Try.checked) false ⟨#[], #[.int .i64 0, .slice none 0 0, .slice none 0 0], []⟩ 8 (by kernel_rfl) (by kernel_rfl) (by kernel_rfl) (by kernel_rfl)) ?_
  intro W base args ds gs before hval hW _ hsz _
  exact gravityNear_core H enc W base args ds gs before hval hW hsz
theorem gravityNear_holds : Rows.GravityNearSaid :=
  OpenClaim.holds_of_wide 4 Try.f4 rfl rfl rfl rfl rfl rfl rfl ⟨rfl, rfl, rfl, rfl, rfl⟩ rfl rfl rfl rfl rfl (by kernel_rfl) Try.func4 (by kernel_rfl)
    (of_decide_eq_true (by kernel_rfl)) (by unfold Func.isWrapper; rw [if_neg (of_decide_eq_false (by kernel_rfl))]; exact ⟨rfl, rfl⟩)
    (fun os started H enc _ => gravityNear_lifted os started H enc)
end Go.Proofs.Ythciodfkhgpegaa
