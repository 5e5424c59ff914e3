/- Proved: ChangeParts: Row of a list of changes that fit is Row of its first part followed by Row of the rest; Back of the list is Back of the rest followed by Back of the first part. Conditions: none. -/
import Derived.Test.YtnaipahapdjakaaCpa
namespace Go.Proofs.Ytnaipahapdjakaa
open Go.RowKit Go.ChangeShapes Go.WideShapes Go.ChangeAt

set_option maxRecDepth 100000 in
theorem changeParts_core (H : Type) (enc : TypeId × Value → H) (W : World) (base : Nat) (args : Array Value) (ds gs : List (DataW H)) (before : List MemPlace)
    (hval0 : ∀ (j : Nat) t v, Try.f8.params[j]? = some t → args[j]? = some v → Value.okWide Try.prog W .any base t v)
    (hW : DataW.Whole enc Try.prog Try.f8.params.toList Rows.changePartsSpec.vars false W args.toList ds gs before)
    (hsz0 : (DataW.weightsEach Try.prog (Try.f8.params.toList ++ Rows.changePartsSpec.plain.varTypes Try.prog) (ds ++ gs)).all (· ≤ reachBytes) = true) :
    Calls Try.prog 8 args W fun e W' => ∃ v, e = .returned v ∧ Rows.changePartsSpec.post enc Try.prog Try.f8 false true false false W args v W' := by
  have hW' := hW
  obtain ⟨p, q, hA0, hV, rfl, _, _⟩ := hW
  have hA : DataW.TrodAll enc Try.prog W 0 (fun _ => true) true Try.f8.params.toList args.toList ds p := hA0
  have hval := hval0
  rw [Try.params8] at hA hval
  obtain ⟨rfl, rfl⟩ := trodVars_none hV
  obtain ⟨v0, vs0, d0, ds0, p0, q0, hargs0, rfl, rfl, h0, r0⟩ := trodAll_cons hA
  obtain ⟨v1, vs1, d1, ds1, p1, q1, hargs1, rfl, rfl, h1, r1⟩ := trodAll_cons r0
  obtain ⟨v2, vs2, d2, ds2, p2, q2, hargs2, rfl, rfl, h2, r2⟩ := trodAll_cons r1
  obtain ⟨v3, vs3, d3, ds3, p3, q3, hargs3, rfl, rfl, h3, r3⟩ := trodAll_cons r2
  obtain ⟨v4, vs4, d4, ds4, p4, q4, hargs4, rfl, rfl, h4, r4⟩ := trodAll_cons r3
  obtain ⟨hnil, rfl, rfl⟩ := trodAll_nil r4
  subst hnil; subst hargs4; subst hargs3; subst hargs2; subst hargs1
  obtain rfl : args = #[v0, v1, v2, v3, v4] := by cases args; simp_all
  have hsz : (DataW.weightsEach Try.prog [22, 45, 45, 22, 3] [d0, d1, d2, d3, d4]).all (· ≤ reachBytes) = true := by
    have h := hsz0
    rw [Try.params8] at h
    exact h
  obtain ⟨a0, l0, c0, rfl, hlc0, hd0, hs0⟩ := open_runes (hval 0 22 v0 rfl rfl) h0
  have hc0 := cap_sized hsz 0 rfl rfl hd0
  have q0 : l0.length ≤ 35184372087808 := by omega
  have s0 := hs0 (by omega)
  obtain ⟨a1, l1, c1, rfl, hlc1, hd1, hs1⟩ := I.open_runes (hval 1 45 v1 rfl rfl) h1
  have hc1 := I.cap_sized hsz 1 rfl rfl hd1
  have q1 : l1.length ≤ 17592186043904 := by omega
  have s1 := hs1 (by omega)
  obtain ⟨a2, l2, c2, rfl, hlc2, hd2, hs2⟩ := I.open_runes (hval 2 45 v2 rfl rfl) h2
  have hc2 := I.cap_sized hsz 2 rfl rfl hd2
  have q2 : l2.length ≤ 17592186043904 := by omega
  have s2 := hs2 (by omega)
  obtain ⟨a3, l3, c3, rfl, hlc3, hd3, hs3⟩ := open_runes (hval 3 22 v3 rfl rfl) h3
  have hc3 := cap_sized hsz 3 rfl rfl hd3
  have q3 : l3.length ≤ 35184372087808 := by omega
  have s3 := hs3 (by omega)
  obtain ⟨x4, rfl, he4, _, wx4⟩ := open_int Try.underlying3 (hval 4 3 v4 rfl rfl) h4
  have y4 := wf_i64 wx4
  refine (parts_w a0 a1 a2 a3 c0 c1 c2 c3 l0 l1 l2 l3 x4 W s0 s1 s2 s3 hlc0 hlc3).mono fun e W' ⟨he, hb⟩ => ?_
  subst he
  exact ⟨_, rfl, law_post hW' rfl rfl rfl (by rw [Try.params8]; intro t ht; simp at ht; (rcases ht with rfl | rfl | rfl | rfl | rfl <;> exact ⟨by kernel_rfl, of_decide_eq_true (by kernel_rfl)⟩)) hb⟩

set_option maxRecDepth 100000 in
theorem changeParts_lifted (os : Os) (started : os.Started) (H : Type) (enc : TypeId × Value → H) :
    ReturnsInHanded {} Try.checked os 8 .any (Rows.changePartsSpec.pre6 enc Try.prog Try.f8 Rows.changePartsRow.domain false) (Rows.changePartsSpec.post enc Try.prog Try.f8 false true false false) := by
  refine returnsInHanded_of_change_sized (C := Try.checked) Try.own started (by kernel_rfl) Try.func8
    (ChangeSpec.witness6 (enc := enc) (C := Try.checked) false ⟨#[], #[.slice none 0 0, .slice none 0 0, .slice none 0 0, .slice none 0 0, .int .i64 0], []⟩ 8 (by kernel_rfl) (by kernel_rfl) (by kernel_rfl) (by kernel_rfl)) ?_
  intro W base args ds gs before hval hW _ hsz _
  exact changeParts_core H enc W base args ds gs before hval hW hsz
theorem changeParts_holds : Rows.ChangePartsSaid :=
  OpenClaim.holds_of_wide 8 Try.f8 rfl rfl rfl rfl rfl rfl rfl ⟨rfl, rfl, rfl, rfl, rfl⟩ rfl rfl rfl rfl rfl (by kernel_rfl) Try.func8 (by kernel_rfl)
    (of_decide_eq_true (by kernel_rfl)) (by unfold Func.isWrapper; rw [if_neg (of_decide_eq_false (by kernel_rfl))]; exact ⟨rfl, rfl⟩)
    (fun os started H enc _ => changeParts_lifted os started H enc)
end Go.Proofs.Ytnaipahapdjakaa
