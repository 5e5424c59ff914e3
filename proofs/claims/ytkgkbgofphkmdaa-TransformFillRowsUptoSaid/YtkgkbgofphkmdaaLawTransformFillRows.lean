/- P12.1: for any two rows of numbers, the parts scanned from the formats that the tape makes of them, put together: Fill of both rows is both rows' texts, one behind the other, if all of them may be a format, and empty if not. Where what it reads is of bulk at most 1048576. -/
import Derived.Test.YtkgkbgofphkmdaaTfr
namespace Go.Proofs.Ytkgkbgofphkmdaa
open Go.RowKit Go.ChangeShapes Go.WideShapes Go.ChangeAt

set_option maxRecDepth 100000 in
theorem transformFillRows_core (H : Type) (enc : TypeId × Value → H) (W : World) (base : Nat) (args : Array Value) (ds gs : List (DataW H)) (before : List MemPlace)
    (hval0 : ∀ (j : Nat) t v, Try.f4.params[j]? = some t → args[j]? = some v → Value.okWide Try.prog W .any base t v)
    (hW : DataW.Whole enc Try.prog Try.f4.params.toList Rows.transformFillRowsSpec.vars false W args.toList ds gs before)
    (hk : Rows.uptoSmall H (ds ++ gs) = true) :
    Calls Try.prog 4 args W fun e W' => ∃ v, e = .returned v ∧ Rows.transformFillRowsSpec.post enc Try.prog Try.f4 false true false false W args v W' := by
  have hW' := hW
  obtain ⟨p, q, hA0, hV, rfl, _, _⟩ := hW
  have hA : DataW.TrodAll enc Try.prog W 0 (fun _ => true) true Try.f4.params.toList args.toList ds p := hA0
  have hval := hval0
  rw [Try.params4] at hA hval
  obtain ⟨rfl, rfl⟩ := trodVars_none hV
  obtain ⟨v0, vs0, d0, ds0, p0, q0, hargs0, rfl, rfl, h0, r0⟩ := trodAll_cons hA
  obtain ⟨v1, vs1, d1, ds1, p1, q1, hargs1, rfl, rfl, h1, r1⟩ := trodAll_cons r0
  obtain ⟨v2, vs2, d2, ds2, p2, q2, hargs2, rfl, rfl, h2, r2⟩ := trodAll_cons r1
  obtain ⟨hnil, rfl, rfl⟩ := trodAll_nil r2
  subst hnil; subst hargs2; subst hargs1
  obtain rfl : args = #[v0, v1, v2] := by cases args; simp_all
  have hbulk := upto_bound hk
  simp only [List.append_nil, Rows.uptoBulkAll] at hbulk
  obtain ⟨a0, l0, c0, rfl, hlc0, hd0, hs0⟩ := I.open_runes (hval 0 36 v0 rfl rfl) h0
  have hc0 := bulk_cap hd0
  have q0 : l0.length ≤ 1048576 := by omega
  have s0 := hs0 (by omega)
  obtain ⟨a1, l1, c1, rfl, hlc1, hd1, hs1⟩ := I.open_runes (hval 1 36 v1 rfl rfl) h1
  have hc1 := bulk_cap hd1
  have q1 : l1.length ≤ 1048576 := by omega
  have s1 := hs1 (by omega)
  obtain ⟨a2, l2, c2, rfl, hlc2, hd2, hr2⟩ := open_txs (hval 2 37 v2 rfl rfl) h2
  obtain ⟨hc2, hT2, hK2⟩ := txs_bulk hd2 (n := 1048576) (by omega) (by omega)
  have q2 : l2.length ≤ 1048576 := by omega
  have s2 := And.intro (hr2.rsl (by show _ ≤ 4398046511104; omega)) (And.intro hT2 hK2)
  refine (fillrows_w a0 c0 l0 a1 c1 l1 a2 c2 l2 W s0 s1 s2).mono fun e W' ⟨he, hb⟩ => ?_
  subst he
  exact ⟨_, rfl, law_post hW' rfl rfl rfl (by rw [Try.params4]; intro t ht; simp at ht; (rcases ht with rfl | rfl | rfl <;> exact ⟨by kernel_rfl, of_decide_eq_true (by kernel_rfl)⟩)) hb⟩

set_option maxRecDepth 100000 in
theorem transformFillRows_lifted (os : Os) (started : os.Started) (H : Type) (enc : TypeId × Value → H) (F : Stop.Interp) :
    ReturnsInHanded {} Try.checked os 4 .any ((Rows.OpenSpec.upto Rows.transformFillRowsSpec).pre6 enc Try.prog Try.f4 Rows.transformFillRowsUptoRow.domain false) (((Rows.OpenSpec.upto Rows.transformFillRowsSpec).at F).post enc Try.prog Try.f4 false true false false) := by
  refine returnsInHanded_of_cond (C := Try.checked) (s := Rows.OpenSpec.upto Rows.transformFillRowsSpec) (k := Rows.uptoSmall) rfl Try.own started (by kernel_rfl) Try.func4
    (OpenSpec.witness (enc := enc) (C := Try.checked) (s := Rows.OpenSpec.upto Rows.transformFillRowsSpec) (k := Rows.uptoSmall) rfl false ⟨#[], #[.slice none 0 0, .slice none 0 0, .slice none 0 0], []⟩ 8 (by kernel_rfl) (by kernel_rfl) (by kernel_rfl)
      (x := ([.nil, .nil, .nil], [], [])) (by kernel_rfl) rfl (by kernel_rfl)) ?_
  intro W base args ds gs before hval hW _ hk _
  exact transformFillRows_core H enc W base args ds gs before hval hW hk
theorem transformFillRows_holds : Rows.TransformFillRowsUptoSaid :=
  OpenClaim.holds_of_cond 4 Try.f4 rfl rfl rfl rfl rfl rfl rfl ⟨rfl, rfl, rfl, rfl, rfl⟩ rfl rfl rfl rfl rfl (by kernel_rfl) Try.func4 (by kernel_rfl)
    (of_decide_eq_true (by kernel_rfl)) (by unfold Func.isWrapper; rw [if_neg (of_decide_eq_false (by kernel_rfl))]; exact ⟨rfl, rfl⟩)
    (fun os started H enc _ F => transformFillRows_lifted os started H enc F)
end Go.Proofs.Ytkgkbgofphkmdaa
