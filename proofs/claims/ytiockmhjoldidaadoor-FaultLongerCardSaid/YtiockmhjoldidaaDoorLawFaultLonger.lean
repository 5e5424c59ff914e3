/- Proved: FaultLonger returns true for any code and any two lists of numbers, and its arguments read afterwards as before. Condition: package errors' variable errorType holds at the call what the program's text lays in it (the card ties it to the text). -/
import Derived.Test.YtiockmhjoldidaaDoorLaw2L
import Derived.Test.YtiockmhjoldidaaDoorLaid
namespace Go.Proofs.YtiockmhjoldidaaDoor
open Go.RowKit Go.ChangeShapes Go.WideShapes Go.ChangeAt

theorem faultLonger_w (c : Int) (a1 a2 : Option Addr) (k1 k2 : Nat) (l1 l2 : List Int) (w : World) (hs1 : I.Sl w a1 l1) (hk1 : l1.length ≤ k1) (hs2 : I.Sl w a2 l2) (hk2 : l2.length ≤ k2) (hg : Hid (Handle w)) :
    Calls Tryd.prog 4 #[.int .i64 c, .slice a1 l1.length k1, .slice a2 l2.length k2] w (Tells w true) := by
  by_cases hc : c = 0
  · subst hc; exact longer_0 a1 a2 k1 k2 l1 l2 w hs1 hk1 hs2 hk2 hg
  · exact longer_1 c a1 a2 k1 k2 l1 l2 w (by simpa using hc) hs1 hk1 hs2 hk2 hg
set_option maxRecDepth 100000 in
theorem faultLonger_core (H : Type) (enc : TypeId × Value → H) (W : World) (base : Nat) (args : Array Value) (ds gs : List (DataW H)) (before : List MemPlace)
    (hval0 : ∀ (j : Nat) t v, Tryd.f4.params[j]? = some t → args[j]? = some v → Value.okWide Tryd.prog W .any base t v)
    (hW : DataW.Whole enc Tryd.prog Tryd.f4.params.toList Rows.faultLongerSpec.vars false W args.toList ds gs before)
    (hsz0 : (DataW.weightsEach Tryd.prog (Tryd.f4.params.toList ++ Rows.faultLongerSpec.plain.varTypes Tryd.prog) (ds ++ gs)).all (· ≤ reachBytes) = true) (hL : laidMetH Tryd.prog Rows.faultLongerRow.laid W) :
    Calls Tryd.prog 4 args W fun e W' => ∃ v, e = .returned v ∧ Rows.faultLongerSpec.post enc Tryd.prog Tryd.f4 false true false false W args v W' := by
  have hgH := hid (handle_of_laid hL)
  have hW' := hW
  obtain ⟨p, q, hA0, hV, rfl, _, _⟩ := hW
  have hA : DataW.TrodAll enc Tryd.prog W 0 (fun _ => true) true Tryd.f4.params.toList args.toList ds p := hA0
  have hval := hval0
  rw [Tryd.params4] at hA hval
  obtain ⟨rfl, rfl⟩ := trodVars_none hV
  obtain ⟨v0, vs0, d0, ds0, p0, q0, hargs0, rfl, rfl, h0, r0⟩ := trodAll_cons hA
  obtain ⟨v1, vs1, d1, ds1, p1, q1, hargs1, rfl, rfl, h1, r1⟩ := trodAll_cons r0
  obtain ⟨v2, vs2, d2, ds2, p2, q2, hargs2, rfl, rfl, h2, r2⟩ := trodAll_cons r1
  obtain ⟨hnil, rfl, rfl⟩ := trodAll_nil r2
  subst hnil; subst hargs2; subst hargs1
  obtain rfl : args = #[v0, v1, v2] := by cases args; simp_all
  have hsz : (DataW.weightsEach Tryd.prog [22, 23, 23] [d0, d1, d2]).all (· ≤ reachBytes) = true := by
    have h := hsz0
    rw [Tryd.params4] at h
    exact h
  obtain ⟨x0, rfl, he0, _, wx0⟩ := open_int Tryd.underlying22 (hval 0 22 v0 rfl rfl) h0
  have y0 := wf_i64 wx0
  obtain ⟨a1, l1, c1, rfl, hlc1, hd1, hs1⟩ := I.open_runes (hval 1 23 v1 rfl rfl) h1
  have hc1 := I.cap_sized hsz 1 rfl rfl hd1
  have q1 : l1.length ≤ 17592186043904 := by omega
  have s1 := hs1 (by omega)
  obtain ⟨a2, l2, c2, rfl, hlc2, hd2, hs2⟩ := I.open_runes (hval 2 23 v2 rfl rfl) h2
  have hc2 := I.cap_sized hsz 2 rfl rfl hd2
  have q2 : l2.length ≤ 17592186043904 := by omega
  have s2 := hs2 (by omega)
  refine (faultLonger_w _ _ _ _ _ _ _ _ s1 hlc1 s2 hlc2 hgH).mono fun e W' ⟨he, hb⟩ => ?_
  subst he
  exact ⟨_, rfl, law_post hW' rfl rfl rfl (by rw [Tryd.params4]; intro t ht; simp at ht; (rcases ht with rfl | rfl | rfl <;> exact ⟨by kernel_rfl, of_decide_eq_true (by kernel_rfl)⟩)) hb⟩
set_option maxRecDepth 100000 in
theorem faultLonger_lifted (os : Os) (started : os.Started) (H : Type) (enc : TypeId × Value → H) :
    ReturnsInHanded {} Tryd.checked os 4 .any (fun w args => (Rows.faultLongerSpec.pre enc Tryd.prog Tryd.f4 [] false w args ∧ laidMetH Tryd.prog Rows.faultLongerRow.laid w) ∧ sizedMet enc Tryd.prog Tryd.f4 (OpenSpec.ofChange Rows.faultLongerSpec) false w args) (Rows.faultLongerSpec.post enc Tryd.prog Tryd.f4 false true false false) := by
  refine returnsInHanded_of_change_and (C := Tryd.checked) (X := fun w _ => laidMetH Tryd.prog Rows.faultLongerRow.laid w) (fun _ _ _ hh h => h.of_heap hh) Tryd.own started (by kernel_rfl) Tryd.func4
    (ChangeSpec.witness_at (enc := enc) (C := Tryd.checked) (os := os) (X := fun w _ => laidMetH Tryd.prog Rows.faultLongerRow.laid w) false (laidWorld os) #[.int .i64 0, .slice none 0 0, .slice none 0 0] 8 rfl (by kernel_rfl) (by kernel_rfl) (by kernel_rfl) (by kernel_rfl) (by kernel_rfl) (laidWorld_met os _)) ?_
  intro W base args ds gs before hval hW _ hsz hL _
  exact faultLonger_core H enc W base args ds gs before hval hW hsz hL
theorem faultLonger_row : Rows.FaultLongerSaid :=
  OpenClaim.holds_of_wide 4 Tryd.f4 rfl rfl rfl rfl rfl rfl rfl ⟨rfl, rfl, rfl, rfl, rfl⟩ rfl rfl rfl rfl rfl (by kernel_rfl) Tryd.func4 (by kernel_rfl)
    (of_decide_eq_true (by kernel_rfl)) (by unfold Func.isWrapper; rw [if_neg (of_decide_eq_false (by kernel_rfl))]; exact ⟨rfl, rfl⟩)
    (fun os started H enc _ => faultLonger_lifted os started H enc)
theorem faultLonger_card_holds : Rows.FaultLongerCardSaid :=
  Claim7.holds_tied_plain_at .later [] [.handle] true Rows.faultLongerCard.stood.harness true
    faultLonger_row (fun _ h => by cases h) (by kernel_rfl) (fun _ h => by cases h) faultLonger_row_tie rfl ⟨rfl, rfl⟩ (by kernel_rfl) rfl
    (fun f fn hf hfn => by
      obtain rfl : f = 4 := Option.some.inj ((show Tryd.prog.funcNamed "standish/standishlaw2.FaultLonger" = some 4 by kernel_rfl).symm.trans hf) |>.symm
      obtain rfl : fn = Tryd.f4 := (Option.some.inj (Tryd.func4.symm.trans hfn)).symm
      exact ⟨by kernel_rfl, fun j t ht => no_stand (Tryd.params4 ▸ Array.mem_of_getElem? ht)⟩)
    (by kernel_rfl)
end Go.Proofs.YtiockmhjoldidaaDoor
