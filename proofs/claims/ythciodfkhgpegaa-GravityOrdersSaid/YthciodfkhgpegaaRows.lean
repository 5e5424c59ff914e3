/-
  No cell of these rows narrows 'for every input' (looked for: loops, veiled, ifaces, maps, wideKeys, modest, calm, conditions, laid).
  DERIVED. THE GIVEN ROWS OF THIS SEAT. 5 by the template 'for every input the law returns true; each argument reads behind the call as it read before'; 0 by the template 'total and deterministic' (their statements: YthciodfkhgpegaaTotals.lean).
  GIVEN WITH THE SEED: the statements are not yours to turn. If you find one false, say at which input.
  Laid BY PROGRAM, IN A SANDBOX (cutbox-rows.mjs): the forced cells as the released guide's own fill.sh prints them over the translation 5e34317e502cca70… (all of the seat's roots in one cut). By AI agents, Wed Nov 11 2026. No macro, syntax, notation, axiom, sorry.
-/
import Derived.Test.YthciodfkhgpegaaChecked
import GoSem.Claim
import GoSem.ClaimJoined
import GoSem.ClaimMapViews
import Derived.JoinedTies
import Derived.KernelRfl
namespace Go.Proofs.Ythciodfkhgpegaa
/- THE CELL 'sum', in the pinned program and in every row, IS THE sha256 OF THE DUMP (.gsa) THAT YthciodfkhgpegaaProg.lean LOADS. Nothing in Lean hashes anything: it is a label: what it is worth is what the hold of that sum in a sandbox is worth. -/
noncomputable def Try.pinned : Pinned := { name := "ythciodfkhgpegaa", sum := "5e34317e502cca70e58b791a8c09bc08ef14dd6cedc170719330c9d914a96282", checked := Try.checked }
namespace Rows
def none {H : Type} : Left H := { results := [], args := [] }

/-- 'standishlaw6.GravityTells': WHATEVER THE INPUT: true; the input reads as it did. -/
def gravityTellsSpec : ChangeSpec := { name := "gravityTells", fn := fun _ => fun
  | [d1, d2, d3, d4, d5] => { results := [.lit (.bool true)], args := [d1, d2, d3, d4, d5] }
  | _ => none }
def gravityTellsRow : OpenClaim := { program := "ythciodfkhgpegaa", sum := "5e34317e502cca70e58b791a8c09bc08ef14dd6cedc170719330c9d914a96282", func := "standish/standishlaw6.GravityTells", spec := "gravityTells", apart := false }
def GravityTellsSaid : Prop := gravityTellsRow.holds Try.pinned (OpenSpec.ofChange gravityTellsSpec)

/-- ITS FALSE NEIGHBOUR: 'it returns false'. Refute it at one input. -/
def gravityTellsWrong : ChangeSpec := { name := "gravityTells", fn := fun _ => fun
  | [d1, d2, d3, d4, d5] => { results := [.lit (.bool false)], args := [d1, d2, d3, d4, d5] }
  | _ => none }
def GravityTellsWrongFalsely : Prop := gravityTellsRow.holds Try.pinned (OpenSpec.ofChange gravityTellsWrong)

/-- 'standishlaw6.GravityNear': WHATEVER THE INPUT: true; the input reads as it did. -/
def gravityNearSpec : ChangeSpec := { name := "gravityNear", fn := fun _ => fun
  | [d1, d2, d3] => { results := [.lit (.bool true)], args := [d1, d2, d3] }
  | _ => none }
def gravityNearRow : OpenClaim := { program := "ythciodfkhgpegaa", sum := "5e34317e502cca70e58b791a8c09bc08ef14dd6cedc170719330c9d914a96282", func := "standish/standishlaw6.GravityNear", spec := "gravityNear", apart := false }
def GravityNearSaid : Prop := gravityNearRow.holds Try.pinned (OpenSpec.ofChange gravityNearSpec)

/-- ITS FALSE NEIGHBOUR: 'it returns false'. Refute it at one input. -/
def gravityNearWrong : ChangeSpec := { name := "gravityNear", fn := fun _ => fun
  | [d1, d2, d3] => { results := [.lit (.bool false)], args := [d1, d2, d3] }
  | _ => none }
def GravityNearWrongFalsely : Prop := gravityNearRow.holds Try.pinned (OpenSpec.ofChange gravityNearWrong)

/-- 'standishlaw6.GravityBack': WHATEVER THE INPUT: true; the input reads as it did. -/
def gravityBackSpec : ChangeSpec := { name := "gravityBack", fn := fun _ => fun
  | [d1, d2, d3, d4, d5, d6] => { results := [.lit (.bool true)], args := [d1, d2, d3, d4, d5, d6] }
  | _ => none }
def gravityBackRow : OpenClaim := { program := "ythciodfkhgpegaa", sum := "5e34317e502cca70e58b791a8c09bc08ef14dd6cedc170719330c9d914a96282", func := "standish/standishlaw6.GravityBack", spec := "gravityBack", apart := false }
def GravityBackSaid : Prop := gravityBackRow.holds Try.pinned (OpenSpec.ofChange gravityBackSpec)

/-- ITS FALSE NEIGHBOUR: 'it returns false'. Refute it at one input. -/
def gravityBackWrong : ChangeSpec := { name := "gravityBack", fn := fun _ => fun
  | [d1, d2, d3, d4, d5, d6] => { results := [.lit (.bool false)], args := [d1, d2, d3, d4, d5, d6] }
  | _ => none }
def GravityBackWrongFalsely : Prop := gravityBackRow.holds Try.pinned (OpenSpec.ofChange gravityBackWrong)

/-- 'standishlaw6.GravityOrders': WHATEVER THE INPUT: true; the input reads as it did. -/
def gravityOrdersSpec : ChangeSpec := { name := "gravityOrders", fn := fun _ => fun
  | [d1, d2, d3] => { results := [.lit (.bool true)], args := [d1, d2, d3] }
  | _ => none }
def gravityOrdersRow : OpenClaim := { program := "ythciodfkhgpegaa", sum := "5e34317e502cca70e58b791a8c09bc08ef14dd6cedc170719330c9d914a96282", func := "standish/standishlaw6.GravityOrders", spec := "gravityOrders", apart := false }
def GravityOrdersSaid : Prop := gravityOrdersRow.holds Try.pinned (OpenSpec.ofChange gravityOrdersSpec)

/-- ITS FALSE NEIGHBOUR: 'it returns false'. Refute it at one input. -/
def gravityOrdersWrong : ChangeSpec := { name := "gravityOrders", fn := fun _ => fun
  | [d1, d2, d3] => { results := [.lit (.bool false)], args := [d1, d2, d3] }
  | _ => none }
def GravityOrdersWrongFalsely : Prop := gravityOrdersRow.holds Try.pinned (OpenSpec.ofChange gravityOrdersWrong)

/-- 'standishlaw6.GravitySigns': WHATEVER THE INPUT: true; the input reads as it did. -/
def gravitySignsSpec : ChangeSpec := { name := "gravitySigns", fn := fun _ => fun
  | [d1, d2, d3, d4] => { results := [.lit (.bool true)], args := [d1, d2, d3, d4] }
  | _ => none }
def gravitySignsRow : OpenClaim := { program := "ythciodfkhgpegaa", sum := "5e34317e502cca70e58b791a8c09bc08ef14dd6cedc170719330c9d914a96282", func := "standish/standishlaw6.GravitySigns", spec := "gravitySigns", apart := false }
def GravitySignsSaid : Prop := gravitySignsRow.holds Try.pinned (OpenSpec.ofChange gravitySignsSpec)

/-- ITS FALSE NEIGHBOUR: 'it returns false'. Refute it at one input. -/
def gravitySignsWrong : ChangeSpec := { name := "gravitySigns", fn := fun _ => fun
  | [d1, d2, d3, d4] => { results := [.lit (.bool false)], args := [d1, d2, d3, d4] }
  | _ => none }
def GravitySignsWrongFalsely : Prop := gravitySignsRow.holds Try.pinned (OpenSpec.ofChange gravitySignsWrong)

/- THE SECOND FORM. 'bulk': how many values and letters a reading holds, each counted each time it is reached (what is shared counts as often as it is met; a slice's spare places count too). A statement '..UptoSaid' is the law's where the arguments, and the package variables that the reading takes, are together of bulk at most 1048576: NARROWER than '..Said'. Prove '..Said' where nothing that the law and all that it calls make is longer than what came in: it says more and counts as full. Else prove '..UptoSaid'. A law counts once. -/
mutual
def uptoBulk {H : Type} : DataW H → Nat
  | .lit (.string bytes) => bytes.length + 1
  | .lit _ => 1
  | .nil => 1
  | .ptr d => uptoBulk d + 1
  | .slice elems spare => uptoBulkAll elems + uptoBulkAll spare + 1
  | .agg parts => uptoBulkAll parts + 1
  | .iface _ d => uptoBulk d + 1
  | .map entries => uptoBulkEntries entries + 1
  | .held _ => 1
def uptoBulkAll {H : Type} : List (DataW H) → Nat
  | [] => 0
  | d :: r => uptoBulk d + uptoBulkAll r
def uptoBulkEntries {H : Type} : List (Lit × DataW H) → Nat
  | [] => 0
  | x :: r => uptoBulkEntry x + uptoBulkEntries r
def uptoBulkEntry {H : Type} : Lit × DataW H → Nat
  | (.string bytes, d) => bytes.length + uptoBulk d + 1
  | (_, d) => uptoBulk d + 1
 end
def uptoSmall : (H : Type) → List (DataW H) → Bool := fun _ ds => decide (uptoBulkAll ds ≤ 1048576)
def OpenSpec.upto (s : _root_.Go.ChangeSpec) : _root_.Go.OpenSpec := { _root_.Go.OpenSpec.ofChange s with cond := some uptoSmall }

/-- 'standishlaw6.GravityTells', WHERE WHAT IT READS IS OF BULK AT MOST 1048576: true; the input reads as it did. -/
def gravityTellsUptoRow : OpenClaim := { program := "ythciodfkhgpegaa", sum := "5e34317e502cca70e58b791a8c09bc08ef14dd6cedc170719330c9d914a96282", func := "standish/standishlaw6.GravityTells", spec := "gravityTells", apart := false, narrowed := true }
def GravityTellsUptoSaid : Prop := gravityTellsUptoRow.holds Try.pinned (OpenSpec.upto gravityTellsSpec)

/-- 'standishlaw6.GravityNear', WHERE WHAT IT READS IS OF BULK AT MOST 1048576: true; the input reads as it did. -/
def gravityNearUptoRow : OpenClaim := { program := "ythciodfkhgpegaa", sum := "5e34317e502cca70e58b791a8c09bc08ef14dd6cedc170719330c9d914a96282", func := "standish/standishlaw6.GravityNear", spec := "gravityNear", apart := false, narrowed := true }
def GravityNearUptoSaid : Prop := gravityNearUptoRow.holds Try.pinned (OpenSpec.upto gravityNearSpec)

/-- 'standishlaw6.GravityBack', WHERE WHAT IT READS IS OF BULK AT MOST 1048576: true; the input reads as it did. -/
def gravityBackUptoRow : OpenClaim := { program := "ythciodfkhgpegaa", sum := "5e34317e502cca70e58b791a8c09bc08ef14dd6cedc170719330c9d914a96282", func := "standish/standishlaw6.GravityBack", spec := "gravityBack", apart := false, narrowed := true }
def GravityBackUptoSaid : Prop := gravityBackUptoRow.holds Try.pinned (OpenSpec.upto gravityBackSpec)

/-- 'standishlaw6.GravityOrders', WHERE WHAT IT READS IS OF BULK AT MOST 1048576: true; the input reads as it did. -/
def gravityOrdersUptoRow : OpenClaim := { program := "ythciodfkhgpegaa", sum := "5e34317e502cca70e58b791a8c09bc08ef14dd6cedc170719330c9d914a96282", func := "standish/standishlaw6.GravityOrders", spec := "gravityOrders", apart := false, narrowed := true }
def GravityOrdersUptoSaid : Prop := gravityOrdersUptoRow.holds Try.pinned (OpenSpec.upto gravityOrdersSpec)

/-- 'standishlaw6.GravitySigns', WHERE WHAT IT READS IS OF BULK AT MOST 1048576: true; the input reads as it did. -/
def gravitySignsUptoRow : OpenClaim := { program := "ythciodfkhgpegaa", sum := "5e34317e502cca70e58b791a8c09bc08ef14dd6cedc170719330c9d914a96282", func := "standish/standishlaw6.GravitySigns", spec := "gravitySigns", apart := false, narrowed := true }
def GravitySignsUptoSaid : Prop := gravitySignsUptoRow.holds Try.pinned (OpenSpec.upto gravitySignsSpec)

end Rows
end Go.Proofs.Ythciodfkhgpegaa
