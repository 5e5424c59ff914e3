/-
  No cell of these rows narrows 'for every input' (looked for: loops, veiled, ifaces, maps, wideKeys, modest, calm, conditions, laid).
  DERIVED. THE GIVEN ROWS OF THIS SEAT. 2 by the template 'for every input the law returns true; each argument reads behind the call as it read before'; 0 by the template 'total and deterministic' (their statements: YtniilphbbcbpcaaTotals.lean).
  GIVEN WITH THE SEED: the statements are not yours to turn. If you find one false, say at which input.
  Laid BY PROGRAM, IN A SANDBOX (cutbox-rows.mjs): the forced cells as the released guide's own fill.sh prints them over the translation f55674cca7eed874… (all of the seat's roots in one cut). By AI agents, Wed Nov 11 2026. No macro, syntax, notation, axiom, sorry.
-/
import Derived.Test.YtniilphbbcbpcaaChecked
import GoSem.Claim
import GoSem.ClaimJoined
import GoSem.ClaimMapViews
import Derived.JoinedTies
import Derived.KernelRfl
namespace Go.Proofs.Ytniilphbbcbpcaa
/- THE CELL 'sum', in the pinned program and in every row, IS THE sha256 OF THE DUMP (.gsa) THAT YtniilphbbcbpcaaProg.lean LOADS. Nothing in Lean hashes anything: it is a label: what it is worth is what the hold of that sum in a sandbox is worth. -/
noncomputable def Try.pinned : Pinned := { name := "ytniilphbbcbpcaa", sum := "f55674cca7eed8746e5d4f3e6aff5e384738f58dc34311a6b9b46668a7d8f874", checked := Try.checked }
namespace Rows
def none {H : Type} : Left H := { results := [], args := [] }

/-- 'standishlaw8.ResynMade': WHATEVER THE INPUT: true; the input reads as it did. -/
def resynMadeSpec : ChangeSpec := { name := "resynMade", fn := fun _ => fun
  | [d1, d2, d3, d4, d5] => { results := [.lit (.bool true)], args := [d1, d2, d3, d4, d5] }
  | _ => none }
def resynMadeRow : OpenClaim := { program := "ytniilphbbcbpcaa", sum := "f55674cca7eed8746e5d4f3e6aff5e384738f58dc34311a6b9b46668a7d8f874", func := "standish/standishlaw8.ResynMade", spec := "resynMade", recurses := true, apart := false }
def ResynMadeSaid : Prop := resynMadeRow.holds Try.pinned (OpenSpec.ofChange resynMadeSpec)

/-- ITS FALSE NEIGHBOUR: 'it returns false'. Refute it at one input. -/
def resynMadeWrong : ChangeSpec := { name := "resynMade", fn := fun _ => fun
  | [d1, d2, d3, d4, d5] => { results := [.lit (.bool false)], args := [d1, d2, d3, d4, d5] }
  | _ => none }
def ResynMadeWrongFalsely : Prop := resynMadeRow.holds Try.pinned (OpenSpec.ofChange resynMadeWrong)

/-- 'standishlaw9.ReprogNumbers': WHATEVER THE INPUT: true; the input reads as it did. -/
def reprogNumbersSpec : ChangeSpec := { name := "reprogNumbers", fn := fun _ => fun
  | [] => { results := [.lit (.bool true)], args := [] }
  | _ => none }
def reprogNumbersRow : OpenClaim := { program := "ytniilphbbcbpcaa", sum := "f55674cca7eed8746e5d4f3e6aff5e384738f58dc34311a6b9b46668a7d8f874", func := "standish/standishlaw9.ReprogNumbers", spec := "reprogNumbers", recurses := true, apart := false }
def ReprogNumbersSaid : Prop := reprogNumbersRow.holds Try.pinned (OpenSpec.ofChange reprogNumbersSpec)

/-- ITS FALSE NEIGHBOUR: 'it returns false'. Refute it at one input. -/
def reprogNumbersWrong : ChangeSpec := { name := "reprogNumbers", fn := fun _ => fun
  | [] => { results := [.lit (.bool false)], args := [] }
  | _ => none }
def ReprogNumbersWrongFalsely : Prop := reprogNumbersRow.holds Try.pinned (OpenSpec.ofChange reprogNumbersWrong)

/- THE SECOND FORM. 'bulk': how many values and letters a reading holds, each counted each time it is reached (what is shared counts as often as it is met; a slice's spare places count too). A statement '..UptoSaid' is the law's where the arguments, and the package variables that the reading takes, are together of bulk at most 1048576: NARROWER than '..Said'. Prove '..Said' where nothing that the law and all that it calls make is longer than what came in: it says more and counts as full. Else prove '..UptoSaid'. A law counts once. -/
mutual
def uptoBulk {H : Type} : DataW H → Nat
  | .lit (.string bytes) => bytes.length + 1
  | .lit _ => 1
  | .nil => 1
  | .ptr d => uptoBulk d + 1
  | .slice elems spare => uptoBulkAll elems + uptoBulkAll spare + 1
  | .agg parts => uptoBulkAll parts + 1
  | .iface _ d => uptoBulk d + 1
  | .map entries => uptoBulkEntries entries + 1
  | .held _ => 1
def uptoBulkAll {H : Type} : List (DataW H) → Nat
  | [] => 0
  | d :: r => uptoBulk d + uptoBulkAll r
def uptoBulkEntries {H : Type} : List (Lit × DataW H) → Nat
  | [] => 0
  | x :: r => uptoBulkEntry x + uptoBulkEntries r
def uptoBulkEntry {H : Type} : Lit × DataW H → Nat
  | (.string bytes, d) => bytes.length + uptoBulk d + 1
  | (_, d) => uptoBulk d + 1
 end
def uptoSmall : (H : Type) → List (DataW H) → Bool := fun _ ds => decide (uptoBulkAll ds ≤ 1048576)
def OpenSpec.upto (s : _root_.Go.ChangeSpec) : _root_.Go.OpenSpec := { _root_.Go.OpenSpec.ofChange s with cond := some uptoSmall }

/-- 'standishlaw8.ResynMade', WHERE WHAT IT READS IS OF BULK AT MOST 1048576: true; the input reads as it did. -/
def resynMadeUptoRow : OpenClaim := { program := "ytniilphbbcbpcaa", sum := "f55674cca7eed8746e5d4f3e6aff5e384738f58dc34311a6b9b46668a7d8f874", func := "standish/standishlaw8.ResynMade", spec := "resynMade", recurses := true, apart := false, narrowed := true }
def ResynMadeUptoSaid : Prop := resynMadeUptoRow.holds Try.pinned (OpenSpec.upto resynMadeSpec)

/-- 'standishlaw9.ReprogNumbers', WHERE WHAT IT READS IS OF BULK AT MOST 1048576: true; the input reads as it did. -/
def reprogNumbersUptoRow : OpenClaim := { program := "ytniilphbbcbpcaa", sum := "f55674cca7eed8746e5d4f3e6aff5e384738f58dc34311a6b9b46668a7d8f874", func := "standish/standishlaw9.ReprogNumbers", spec := "reprogNumbers", recurses := true, apart := false, narrowed := true }
def ReprogNumbersUptoSaid : Prop := reprogNumbersUptoRow.holds Try.pinned (OpenSpec.upto reprogNumbersSpec)

end Rows
end Go.Proofs.Ytniilphbbcbpcaa
