/- Proved: VarsTells returns true for any environment, any text, any list of numbers and any two numbers, and its arguments read afterwards as before. Condition: the seven listed package-level variables (tables of vars, math/bits and internal/strconv) hold at the call what the program's text lays in them (the card ties them to the text). -/
import Derived.Test.YtijhkpbnalnpbaaDoorVtl
import Derived.Test.YtijhkpbnalnpbaaDoorEo
import Derived.Test.YtijhkpbnalnpbaaDoorTie
import Derived.Test.YtijhkpbnalnpbaaDoorCards
import Derived.ChangeVars
import Derived.JoinedOf
import Derived.Stop.Joined
import Derived.LaidLaws
import Derived.LaidHandle
import Derived.SevenTiedAt
namespace Go.Proofs.YtijhkpbnalnpbaaDoor
open Go.RowKit Go.ChangeShapes Go.WideShapes Go.ChangeAt

set_option maxRecDepth 100000 in
theorem varsTells_core (H : Type) (enc : TypeId × Value → H) (W : World) (base : Nat) (args : Array Value) (ds gs : List (DataW H)) (before : List MemPlace)
    (hval0 : ∀ (j : Nat) t v, Tryd.f3.params[j]? = some t → args[j]? = some v → Value.okWide Tryd.prog W .any base t v)
    (hW : DataW.Whole enc Tryd.prog Tryd.f3.params.toList Rows.varsTellsSpec.vars false W args.toList ds gs before)
    (hsz0 : (DataW.weightsEach Tryd.prog (Tryd.f3.params.toList ++ Rows.varsTellsSpec.plain.varTypes Tryd.prog) (ds ++ gs)).all (· ≤ reachBytes) = true) (hL : laidMetH Tryd.prog Rows.varsTellsRow.laid W) :
    Calls Tryd.prog 3 args W fun e W' => ∃ v, e = .returned v ∧ Rows.varsTellsSpec.post enc Tryd.prog Tryd.f3 false true false false W args v W' := by
  have hgH := hid (gl_of_laid hL)
  have hW' := hW
  obtain ⟨p, q, hA0, hV, rfl, _, _⟩ := hW
  have hA : DataW.TrodAll enc Tryd.prog W 0 (fun _ => true) true Tryd.f3.params.toList args.toList ds p := hA0
  have hval := hval0
  rw [Tryd.params3] at hA hval
  obtain ⟨rfl, rfl⟩ := trodVars_none hV
  obtain ⟨v0, vs0, d0, ds0, p0, q0, hargs0, rfl, rfl, h0, r0⟩ := trodAll_cons hA
  obtain ⟨v1, vs1, d1, ds1, p1, q1, hargs1, rfl, rfl, h1, r1⟩ := trodAll_cons r0
  obtain ⟨v2, vs2, d2, ds2, p2, q2, hargs2, rfl, rfl, h2, r2⟩ := trodAll_cons r1
  obtain ⟨v3, vs3, d3, ds3, p3, q3, hargs3, rfl, rfl, h3, r3⟩ := trodAll_cons r2
  obtain ⟨v4, vs4, d4, ds4, p4, q4, hargs4, rfl, rfl, h4, r4⟩ := trodAll_cons r3
  obtain ⟨hnil, rfl, rfl⟩ := trodAll_nil r4
  subst hnil; subst hargs4; subst hargs3; subst hargs2; subst hargs1
  obtain rfl : args = #[v0, v1, v2, v3, v4] := by cases args; simp_all
  have hsz : (DataW.weightsEach Tryd.prog [26, 22, 24, 3, 3] [d0, d1, d2, d3, d4]).all (· ≤ reachBytes) = true := by
    have h := hsz0
    rw [Tryd.params3] at h
    exact h
  obtain ⟨m0, Y00, Y01, Y02, Y03, Y04, Y05, Z0, rfl, rfl, hC0, hlc0, hs0⟩ := open_env (hval 0 26 v0 rfl rfl) h0
  have hc0 := env_sized hsz 0 rfl rfl hC0
  have s0 : EnOk W m0 := hs0 (by omega) (by omega) (by omega) (by omega) (by omega) (by omega) (by omega)
  obtain ⟨a1, l1, c1, rfl, hlc1, hd1, hs1⟩ := open_runes (hval 1 22 v1 rfl rfl) h1
  have hc1 := cap_sized hsz 1 rfl rfl hd1
  have q1 : l1.length ≤ 35184372087808 := by omega
  have s1 := hs1 (by omega)
  obtain ⟨a2, l2, c2, rfl, hlc2, hd2, hs2⟩ := I.open_runes (hval 2 24 v2 rfl rfl) h2
  have hc2 := I.cap_sized hsz 2 rfl rfl hd2
  have q2 : l2.length ≤ 17592186043904 := by omega
  have s2 := hs2 (by omega)
  obtain ⟨x3, rfl, he3, _, wx3⟩ := open_int Tryd.underlying3 (hval 3 3 v3 rfl rfl) h3
  have y3 := wf_i64 wx3
  obtain ⟨x4, rfl, he4, _, wx4⟩ := open_int Tryd.underlying3 (hval 4 3 v4 rfl rfl) h4
  have y4 := wf_i64 wx4
  refine (vtells_c m0 a1 c1 l1 a2 c2 l2 x3 x4 W (hid s0) (hid s1) (hid s2) (by unfold i64; omega) hgH).mono fun e W' ⟨he, hb⟩ => ?_
  subst he
  exact ⟨_, rfl, law_post hW' rfl rfl rfl (by rw [Tryd.params3]; intro t ht; simp at ht; (rcases ht with rfl | rfl | rfl | rfl | rfl <;> exact ⟨by kernel_rfl, of_decide_eq_true (by kernel_rfl)⟩)) hb⟩
set_option maxRecDepth 100000 in
theorem varsTells_lifted (os : Os) (started : os.Started) (H : Type) (enc : TypeId × Value → H) :
    ReturnsInHanded {} Tryd.checked os 3 .any (fun w args => (Rows.varsTellsSpec.pre enc Tryd.prog Tryd.f3 [] false w args ∧ laidMetH Tryd.prog Rows.varsTellsRow.laid w) ∧ sizedMet enc Tryd.prog Tryd.f3 (OpenSpec.ofChange Rows.varsTellsSpec) false w args) (Rows.varsTellsSpec.post enc Tryd.prog Tryd.f3 false true false false) := by
  refine returnsInHanded_of_change_and (C := Tryd.checked) (X := fun w _ => laidMetH Tryd.prog Rows.varsTellsRow.laid w) (fun _ _ _ hh h => h.of_heap hh) Tryd.own started (by kernel_rfl) Tryd.func3
    (ChangeSpec.witness_at (enc := enc) (C := Tryd.checked) (os := os) (X := fun w _ => laidMetH Tryd.prog Rows.varsTellsRow.laid w) false (laidWorld os) #[.agg #[.slice none 0 0, .slice none 0 0, .slice none 0 0, .slice none 0 0, .slice none 0 0, .slice none 0 0, .int .i64 0, .int .i64 0, .int .i64 0, .int .i64 0, .int .i64 0, .int .i64 0, .int .i64 0, .int .i64 0, .slice none 0 0], .slice none 0 0, .slice none 0 0, .int .i64 0, .int .i64 0] 8 rfl (by kernel_rfl) (by kernel_rfl) (by kernel_rfl) (by kernel_rfl) (by kernel_rfl) (laidWorld_met os _)) ?_
  intro W base args ds gs before hval hW _ hsz hL _
  exact varsTells_core H enc W base args ds gs before hval hW hsz hL
theorem varsTells_row : Rows.VarsTellsSaid :=
  OpenClaim.holds_of_wide 3 Tryd.f3 rfl rfl rfl rfl rfl rfl rfl ⟨rfl, rfl, rfl, rfl, rfl⟩ rfl rfl rfl rfl rfl (by kernel_rfl) Tryd.func3 (by kernel_rfl)
    (of_decide_eq_true (by kernel_rfl)) (by unfold Func.isWrapper; rw [if_neg (of_decide_eq_false (by kernel_rfl))]; exact ⟨rfl, rfl⟩)
    (fun os started H enc _ => varsTells_lifted os started H enc)
theorem varsTells_card_holds : Rows.VarsTellsCardSaid :=
  Claim7.holds_tied_plain_at .later [] [.data, .data, .data, .data, .data, .data, .data] true Rows.varsTellsCard.stood.harness false
    varsTells_row (fun _ h => by cases h) (by kernel_rfl) (fun _ h => by cases h) varsTells_row_tie rfl ⟨rfl, rfl⟩ (by kernel_rfl) rfl
    (fun f fn hf hfn => by
      obtain rfl : f = 3 := Option.some.inj ((show Tryd.prog.funcNamed "standish/standishlaw16.VarsTells" = some 3 by kernel_rfl).symm.trans hf) |>.symm
      obtain rfl : fn = Tryd.f3 := (Option.some.inj (Tryd.func3.symm.trans hfn)).symm
      exact ⟨by kernel_rfl, fun j t ht => no_stand (Tryd.params3 ▸ Array.mem_of_getElem? ht)⟩)
    (by kernel_rfl)
end Go.Proofs.YtijhkpbnalnpbaaDoor
