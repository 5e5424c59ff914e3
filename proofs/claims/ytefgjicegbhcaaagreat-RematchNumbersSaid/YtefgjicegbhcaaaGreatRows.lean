/-
  No cell of these rows narrows 'for every input' (looked for: loops, veiled, ifaces, maps, wideKeys, modest, calm, conditions, laid).
  DERIVED. THE GIVEN ROWS OF THIS SEAT. 3 by the template 'for every input the law returns true; each argument reads behind the call as it read before'; 0 by the template 'total and deterministic' (their statements: YtefgjicegbhcaaaGreatTotals.lean).
  GIVEN WITH THE SEED: the statements are not yours to turn. If you find one false, say at which input.
  Laid BY PROGRAM, IN A SANDBOX (cutbox-rows.mjs): the forced cells as the released guide's own fill.sh prints them over the translation 3e7085b98c19fc4d… (all of the seat's roots in one cut). By AI agents, Wed Nov 11 2026. No macro, syntax, notation, axiom, sorry.
-/
import Derived.Test.YtefgjicegbhcaaaGreatChecked
import GoSem.Claim
import GoSem.ClaimJoined
import GoSem.ClaimMapViews
import Derived.JoinedTies
import Derived.KernelRfl
namespace Go.Proofs.YtefgjicegbhcaaaGreat
/- THE CELL 'sum', in the pinned program and in every row, IS THE sha256 OF THE DUMP (.gsa) THAT YtefgjicegbhcaaaGreatProg.lean LOADS. Nothing in Lean hashes anything: it is a label: what it is worth is what the hold of that sum in a sandbox is worth. -/
noncomputable def Tryz.pinned : Pinned := { name := "ytefgjicegbhcaaagreat", sum := "3e7085b98c19fc4db33097e254086d64519f5b672792b4341be993dea72e30e7", checked := Tryz.checked }
namespace Rows
def none {H : Type} : Left H := { results := [], args := [] }

/-- 'standishlaw10.RematchNumbers': WHATEVER THE INPUT: true; the input reads as it did. -/
def rematchNumbersSpec : ChangeSpec := { name := "rematchNumbers", fn := fun _ => fun
  | [] => { results := [.lit (.bool true)], args := [] }
  | _ => none }
def rematchNumbersRow : OpenClaim := { program := "ytefgjicegbhcaaagreat", sum := "3e7085b98c19fc4db33097e254086d64519f5b672792b4341be993dea72e30e7", func := "standish/standishlaw10.RematchNumbers", spec := "rematchNumbers", recurses := true, apart := false }
def RematchNumbersSaid : Prop := rematchNumbersRow.holds Tryz.pinned (OpenSpec.ofChange rematchNumbersSpec)

/-- ITS FALSE NEIGHBOUR: 'it returns false'. Refute it at one input. -/
def rematchNumbersWrong : ChangeSpec := { name := "rematchNumbers", fn := fun _ => fun
  | [] => { results := [.lit (.bool false)], args := [] }
  | _ => none }
def RematchNumbersWrongFalsely : Prop := rematchNumbersRow.holds Tryz.pinned (OpenSpec.ofChange rematchNumbersWrong)

/-- 'standishlaw12.TransformFills': WHATEVER THE INPUT: true; the input reads as it did. -/
def transformFillsSpec : ChangeSpec := { name := "transformFills", fn := fun _ => fun
  | [d1, d2, d3] => { results := [.lit (.bool true)], args := [d1, d2, d3] }
  | _ => none }
def transformFillsRow : OpenClaim := { program := "ytefgjicegbhcaaagreat", sum := "3e7085b98c19fc4db33097e254086d64519f5b672792b4341be993dea72e30e7", func := "standish/standishlaw12.TransformFills", spec := "transformFills", unfollowed := true, recurses := true, apart := false }
def TransformFillsSaid : Prop := transformFillsRow.holds Tryz.pinned (OpenSpec.ofChange transformFillsSpec)

/-- ITS FALSE NEIGHBOUR: 'it returns false'. Refute it at one input. -/
def transformFillsWrong : ChangeSpec := { name := "transformFills", fn := fun _ => fun
  | [d1, d2, d3] => { results := [.lit (.bool false)], args := [d1, d2, d3] }
  | _ => none }
def TransformFillsWrongFalsely : Prop := transformFillsRow.holds Tryz.pinned (OpenSpec.ofChange transformFillsWrong)

/-- 'standishlaw12.TransformParts': WHATEVER THE INPUT: true; the input reads as it did. -/
def transformPartsSpec : ChangeSpec := { name := "transformParts", fn := fun _ => fun
  | [d1, d2] => { results := [.lit (.bool true)], args := [d1, d2] }
  | _ => none }
def transformPartsRow : OpenClaim := { program := "ytefgjicegbhcaaagreat", sum := "3e7085b98c19fc4db33097e254086d64519f5b672792b4341be993dea72e30e7", func := "standish/standishlaw12.TransformParts", spec := "transformParts", unfollowed := true, recurses := true, apart := false }
def TransformPartsSaid : Prop := transformPartsRow.holds Tryz.pinned (OpenSpec.ofChange transformPartsSpec)

/-- ITS FALSE NEIGHBOUR: 'it returns false'. Refute it at one input. -/
def transformPartsWrong : ChangeSpec := { name := "transformParts", fn := fun _ => fun
  | [d1, d2] => { results := [.lit (.bool false)], args := [d1, d2] }
  | _ => none }
def TransformPartsWrongFalsely : Prop := transformPartsRow.holds Tryz.pinned (OpenSpec.ofChange transformPartsWrong)

/- THE SECOND FORM. 'bulk': how many values and letters a reading holds, each counted each time it is reached (what is shared counts as often as it is met; a slice's spare places count too). A statement '..UptoSaid' is the law's where the arguments, and the package variables that the reading takes, are together of bulk at most 1048576: NARROWER than '..Said'. Prove '..Said' where nothing that the law and all that it calls make is longer than what came in: it says more and counts as full. Else prove '..UptoSaid'. A law counts once. -/
mutual
def uptoBulk {H : Type} : DataW H → Nat
  | .lit (.string bytes) => bytes.length + 1
  | .lit _ => 1
  | .nil => 1
  | .ptr d => uptoBulk d + 1
  | .slice elems spare => uptoBulkAll elems + uptoBulkAll spare + 1
  | .agg parts => uptoBulkAll parts + 1
  | .iface _ d => uptoBulk d + 1
  | .map entries => uptoBulkEntries entries + 1
  | .held _ => 1
def uptoBulkAll {H : Type} : List (DataW H) → Nat
  | [] => 0
  | d :: r => uptoBulk d + uptoBulkAll r
def uptoBulkEntries {H : Type} : List (Lit × DataW H) → Nat
  | [] => 0
  | x :: r => uptoBulkEntry x + uptoBulkEntries r
def uptoBulkEntry {H : Type} : Lit × DataW H → Nat
  | (.string bytes, d) => bytes.length + uptoBulk d + 1
  | (_, d) => uptoBulk d + 1
 end
def uptoSmall : (H : Type) → List (DataW H) → Bool := fun _ ds => decide (uptoBulkAll ds ≤ 1048576)
def OpenSpec.upto (s : _root_.Go.ChangeSpec) : _root_.Go.OpenSpec := { _root_.Go.OpenSpec.ofChange s with cond := some uptoSmall }

/-- 'standishlaw10.RematchNumbers', WHERE WHAT IT READS IS OF BULK AT MOST 1048576: true; the input reads as it did. -/
def rematchNumbersUptoRow : OpenClaim := { program := "ytefgjicegbhcaaagreat", sum := "3e7085b98c19fc4db33097e254086d64519f5b672792b4341be993dea72e30e7", func := "standish/standishlaw10.RematchNumbers", spec := "rematchNumbers", recurses := true, apart := false, narrowed := true }
def RematchNumbersUptoSaid : Prop := rematchNumbersUptoRow.holds Tryz.pinned (OpenSpec.upto rematchNumbersSpec)

/-- 'standishlaw12.TransformFills', WHERE WHAT IT READS IS OF BULK AT MOST 1048576: true; the input reads as it did. -/
def transformFillsUptoRow : OpenClaim := { program := "ytefgjicegbhcaaagreat", sum := "3e7085b98c19fc4db33097e254086d64519f5b672792b4341be993dea72e30e7", func := "standish/standishlaw12.TransformFills", spec := "transformFills", unfollowed := true, recurses := true, apart := false, narrowed := true }
def TransformFillsUptoSaid : Prop := transformFillsUptoRow.holds Tryz.pinned (OpenSpec.upto transformFillsSpec)

/-- 'standishlaw12.TransformParts', WHERE WHAT IT READS IS OF BULK AT MOST 1048576: true; the input reads as it did. -/
def transformPartsUptoRow : OpenClaim := { program := "ytefgjicegbhcaaagreat", sum := "3e7085b98c19fc4db33097e254086d64519f5b672792b4341be993dea72e30e7", func := "standish/standishlaw12.TransformParts", spec := "transformParts", unfollowed := true, recurses := true, apart := false, narrowed := true }
def TransformPartsUptoSaid : Prop := transformPartsUptoRow.holds Tryz.pinned (OpenSpec.upto transformPartsSpec)

end Rows
end Go.Proofs.YtefgjicegbhcaaaGreat
