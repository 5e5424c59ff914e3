/- Proved: VarsDraws returns true for any two lists of numbers and any two numbers, and its arguments read afterwards as before. Condition: the seven listed package-level variables (tables of vars, math/bits and internal/strconv) hold at the call what the program's text lays in them (the card ties them to the text). -/
import Derived.Test.YtijhkpbnalnpbaaDoorVdr

import Derived.Test.YtijhkpbnalnpbaaDoorTie
import Derived.Test.YtijhkpbnalnpbaaDoorCards
import Derived.ChangeVars
import Derived.JoinedOf
import Derived.Stop.Joined
import Derived.LaidLaws
import Derived.LaidHandle
import Derived.SevenTiedAt
namespace Go.Proofs.YtijhkpbnalnpbaaDoor
open Go.RowKit Go.ChangeShapes Go.WideShapes Go.ChangeAt

set_option maxRecDepth 100000 in
theorem varsDraws_core (H : Type) (enc : TypeId × Value → H) (W : World) (base : Nat) (args : Array Value) (ds gs : List (DataW H)) (before : List MemPlace)
    (hval0 : ∀ (j : Nat) t v, Tryd.f6.params[j]? = some t → args[j]? = some v → Value.okWide Tryd.prog W .any base t v)
    (hW : DataW.Whole enc Tryd.prog Tryd.f6.params.toList Rows.varsDrawsSpec.vars false W args.toList ds gs before)
    (hsz0 : (DataW.weightsEach Tryd.prog (Tryd.f6.params.toList ++ Rows.varsDrawsSpec.plain.varTypes Tryd.prog) (ds ++ gs)).all (· ≤ reachBytes) = true) (hL : laidMetH Tryd.prog Rows.varsDrawsRow.laid W) :
    Calls Tryd.prog 6 args W fun e W' => ∃ v, e = .returned v ∧ Rows.varsDrawsSpec.post enc Tryd.prog Tryd.f6 false true false false W args v W' := by
  have hgH := hid (gl_of_laid hL)
  have hW' := hW
  obtain ⟨p, q, hA0, hV, rfl, _, _⟩ := hW
  have hA : DataW.TrodAll enc Tryd.prog W 0 (fun _ => true) true Tryd.f6.params.toList args.toList ds p := hA0
  have hval := hval0
  rw [Tryd.params6] at hA hval
  obtain ⟨rfl, rfl⟩ := trodVars_none hV
  obtain ⟨v0, vs0, d0, ds0, p0, q0, hargs0, rfl, rfl, h0, r0⟩ := trodAll_cons hA
  obtain ⟨v1, vs1, d1, ds1, p1, q1, hargs1, rfl, rfl, h1, r1⟩ := trodAll_cons r0
  obtain ⟨v2, vs2, d2, ds2, p2, q2, hargs2, rfl, rfl, h2, r2⟩ := trodAll_cons r1
  obtain ⟨v3, vs3, d3, ds3, p3, q3, hargs3, rfl, rfl, h3, r3⟩ := trodAll_cons r2
  obtain ⟨hnil, rfl, rfl⟩ := trodAll_nil r3
  subst hnil; subst hargs3; subst hargs2; subst hargs1
  obtain rfl : args = #[v0, v1, v2, v3] := by cases args; simp_all
  have hsz : (DataW.weightsEach Tryd.prog [24, 3, 3, 24] [d0, d1, d2, d3]).all (· ≤ reachBytes) = true := by
    have h := hsz0
    rw [Tryd.params6] at h
    exact h
  obtain ⟨a0, l0, c0, rfl, hlc0, hd0, hs0⟩ := I.open_runes (hval 0 24 v0 rfl rfl) h0
  have hc0 := I.cap_sized hsz 0 rfl rfl hd0
  have q0 : l0.length ≤ 17592186043904 := by omega
  have s0 := hs0 (by omega)
  obtain ⟨x1, rfl, he1, _, wx1⟩ := open_int Tryd.underlying3 (hval 1 3 v1 rfl rfl) h1
  have y1 := wf_i64 wx1
  obtain ⟨x2, rfl, he2, _, wx2⟩ := open_int Tryd.underlying3 (hval 2 3 v2 rfl rfl) h2
  have y2 := wf_i64 wx2
  obtain ⟨a3, l3, c3, rfl, hlc3, hd3, hs3⟩ := I.open_runes (hval 3 24 v3 rfl rfl) h3
  have hc3 := I.cap_sized hsz 3 rfl rfl hd3
  have q3 : l3.length ≤ 17592186043904 := by omega
  have s3 := hs3 (by omega)
  refine (vdraws_c a0 c0 l0 x1 x2 a3 c3 l3 W (hid s0) (hid s3) hgH).mono fun e W' ⟨he, hb⟩ => ?_
  subst he
  exact ⟨_, rfl, law_post hW' rfl rfl rfl (by rw [Tryd.params6]; intro t ht; simp at ht; (rcases ht with rfl | rfl | rfl | rfl <;> exact ⟨by kernel_rfl, of_decide_eq_true (by kernel_rfl)⟩)) hb⟩
set_option maxRecDepth 100000 in
theorem varsDraws_lifted (os : Os) (started : os.Started) (H : Type) (enc : TypeId × Value → H) :
    ReturnsInHanded {} Tryd.checked os 6 .any (fun w args => (Rows.varsDrawsSpec.pre enc Tryd.prog Tryd.f6 [] false w args ∧ laidMetH Tryd.prog Rows.varsDrawsRow.laid w) ∧ sizedMet enc Tryd.prog Tryd.f6 (OpenSpec.ofChange Rows.varsDrawsSpec) false w args) (Rows.varsDrawsSpec.post enc Tryd.prog Tryd.f6 false true false false) := by
  refine returnsInHanded_of_change_and (C := Tryd.checked) (X := fun w _ => laidMetH Tryd.prog Rows.varsDrawsRow.laid w) (fun _ _ _ hh h => h.of_heap hh) Tryd.own started (by kernel_rfl) Tryd.func6
    (ChangeSpec.witness_at (enc := enc) (C := Tryd.checked) (os := os) (X := fun w _ => laidMetH Tryd.prog Rows.varsDrawsRow.laid w) false (laidWorld os) #[.slice none 0 0, .int .i64 0, .int .i64 0, .slice none 0 0] 8 rfl (by kernel_rfl) (by kernel_rfl) (by kernel_rfl) (by kernel_rfl) (by kernel_rfl) (laidWorld_met os _)) ?_
  intro W base args ds gs before hval hW _ hsz hL _
  exact varsDraws_core H enc W base args ds gs before hval hW hsz hL
theorem varsDraws_row : Rows.VarsDrawsSaid :=
  OpenClaim.holds_of_wide 6 Tryd.f6 rfl rfl rfl rfl rfl rfl rfl ⟨rfl, rfl, rfl, rfl, rfl⟩ rfl rfl rfl rfl rfl (by kernel_rfl) Tryd.func6 (by kernel_rfl)
    (of_decide_eq_true (by kernel_rfl)) (by unfold Func.isWrapper; rw [if_neg (of_decide_eq_false (by kernel_rfl))]; exact ⟨rfl, rfl⟩)
    (fun os started H enc _ => varsDraws_lifted os started H enc)
theorem varsDraws_card_holds : Rows.VarsDrawsCardSaid :=
  Claim7.holds_tied_plain_at .later [] [.data, .data, .data, .data, .data, .data, .data] true Rows.varsDrawsCard.stood.harness false
    varsDraws_row (fun _ h => by cases h) (by kernel_rfl) (fun _ h => by cases h) varsDraws_row_tie rfl ⟨rfl, rfl⟩ (by kernel_rfl) rfl
    (fun f fn hf hfn => by
      obtain rfl : f = 6 := Option.some.inj ((show Tryd.prog.funcNamed "standish/standishlaw16.VarsDraws" = some 6 by kernel_rfl).symm.trans hf) |>.symm
      obtain rfl : fn = Tryd.f6 := (Option.some.inj (Tryd.func6.symm.trans hfn)).symm
      exact ⟨by kernel_rfl, fun j t ht => no_stand (Tryd.params6 ▸ Array.mem_of_getElem? ht)⟩)
    (by kernel_rfl)
end Go.Proofs.YtijhkpbnalnpbaaDoor
