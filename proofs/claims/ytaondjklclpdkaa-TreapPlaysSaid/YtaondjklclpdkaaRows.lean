/-
  No cell of these rows narrows 'for every input' (looked for: loops, veiled, ifaces, maps, wideKeys, modest, calm, conditions, laid).
  DERIVED. THE GIVEN ROWS OF THIS SEAT. 6 by the template 'for every input the law returns true; each argument reads behind the call as it read before'; 0 by the template 'total and deterministic' (their statements: YtaondjklclpdkaaTotals.lean).
  GIVEN WITH THE SEED: the statements are not yours to turn. If you find one false, say at which input.
  Laid BY PROGRAM, IN A SANDBOX (cutbox-rows.mjs): the forced cells as the released guide's own fill.sh prints them over the translation 6f0442a2b1cec219… (all of the seat's roots in one cut). By AI agents, Wed Nov 11 2026. No macro, syntax, notation, axiom, sorry.
-/
import Derived.Test.YtaondjklclpdkaaChecked
import GoSem.Claim
import GoSem.ClaimJoined
import GoSem.ClaimMapViews
import Derived.JoinedTies
import Derived.KernelRfl
namespace Go.Proofs.Ytaondjklclpdkaa
/- THE CELL 'sum', in the pinned program and in every row, IS THE sha256 OF THE DUMP (.gsa) THAT YtaondjklclpdkaaProg.lean LOADS. Nothing in Lean hashes anything: it is a label: what it is worth is what the hold of that sum in a sandbox is worth. -/
noncomputable def Try.pinned : Pinned := { name := "ytaondjklclpdkaa", sum := "6f0442a2b1cec219dad168d536811cfa77a9e4da6305d8cecdeb042914896f81", checked := Try.checked }
namespace Rows
def none {H : Type} : Left H := { results := [], args := [] }

/-- 'standishlaw7.TreapPlays': WHATEVER THE INPUT: true; the input reads as it did. -/
def treapPlaysSpec : ChangeSpec := { name := "treapPlays", fn := fun _ => fun
  | [d] => { results := [.lit (.bool true)], args := [d] }
  | _ => none }
def treapPlaysRow : OpenClaim := { program := "ytaondjklclpdkaa", sum := "6f0442a2b1cec219dad168d536811cfa77a9e4da6305d8cecdeb042914896f81", func := "standish/standishlaw7.TreapPlays", spec := "treapPlays", recurses := true, apart := false }
def TreapPlaysSaid : Prop := treapPlaysRow.holds Try.pinned (OpenSpec.ofChange treapPlaysSpec)

/-- ITS FALSE NEIGHBOUR: 'it returns false'. Refute it at one input. -/
def treapPlaysWrong : ChangeSpec := { name := "treapPlays", fn := fun _ => fun
  | [d] => { results := [.lit (.bool false)], args := [d] }
  | _ => none }
def TreapPlaysWrongFalsely : Prop := treapPlaysRow.holds Try.pinned (OpenSpec.ofChange treapPlaysWrong)

/-- 'standishlaw7.TreapNear': WHATEVER THE INPUT: true; the input reads as it did. -/
def treapNearSpec : ChangeSpec := { name := "treapNear", fn := fun _ => fun
  | [d] => { results := [.lit (.bool true)], args := [d] }
  | _ => none }
def treapNearRow : OpenClaim := { program := "ytaondjklclpdkaa", sum := "6f0442a2b1cec219dad168d536811cfa77a9e4da6305d8cecdeb042914896f81", func := "standish/standishlaw7.TreapNear", spec := "treapNear", recurses := true, apart := false }
def TreapNearSaid : Prop := treapNearRow.holds Try.pinned (OpenSpec.ofChange treapNearSpec)

/-- ITS FALSE NEIGHBOUR: 'it returns false'. Refute it at one input. -/
def treapNearWrong : ChangeSpec := { name := "treapNear", fn := fun _ => fun
  | [d] => { results := [.lit (.bool false)], args := [d] }
  | _ => none }
def TreapNearWrongFalsely : Prop := treapNearRow.holds Try.pinned (OpenSpec.ofChange treapNearWrong)

/-- 'standishlaw7.TreapOne': WHATEVER THE INPUT: true; the input reads as it did. -/
def treapOneSpec : ChangeSpec := { name := "treapOne", fn := fun _ => fun
  | [d1, d2] => { results := [.lit (.bool true)], args := [d1, d2] }
  | _ => none }
def treapOneRow : OpenClaim := { program := "ytaondjklclpdkaa", sum := "6f0442a2b1cec219dad168d536811cfa77a9e4da6305d8cecdeb042914896f81", func := "standish/standishlaw7.TreapOne", spec := "treapOne", recurses := true, apart := false }
def TreapOneSaid : Prop := treapOneRow.holds Try.pinned (OpenSpec.ofChange treapOneSpec)

/-- ITS FALSE NEIGHBOUR: 'it returns false'. Refute it at one input. -/
def treapOneWrong : ChangeSpec := { name := "treapOne", fn := fun _ => fun
  | [d1, d2] => { results := [.lit (.bool false)], args := [d1, d2] }
  | _ => none }
def TreapOneWrongFalsely : Prop := treapOneRow.holds Try.pinned (OpenSpec.ofChange treapOneWrong)

/-- 'standishlaw7.TreapHeap': WHATEVER THE INPUT: true; the input reads as it did. -/
def treapHeapSpec : ChangeSpec := { name := "treapHeap", fn := fun _ => fun
  | [d] => { results := [.lit (.bool true)], args := [d] }
  | _ => none }
def treapHeapRow : OpenClaim := { program := "ytaondjklclpdkaa", sum := "6f0442a2b1cec219dad168d536811cfa77a9e4da6305d8cecdeb042914896f81", func := "standish/standishlaw7.TreapHeap", spec := "treapHeap", recurses := true, apart := false }
def TreapHeapSaid : Prop := treapHeapRow.holds Try.pinned (OpenSpec.ofChange treapHeapSpec)

/-- ITS FALSE NEIGHBOUR: 'it returns false'. Refute it at one input. -/
def treapHeapWrong : ChangeSpec := { name := "treapHeap", fn := fun _ => fun
  | [d] => { results := [.lit (.bool false)], args := [d] }
  | _ => none }
def TreapHeapWrongFalsely : Prop := treapHeapRow.holds Try.pinned (OpenSpec.ofChange treapHeapWrong)

/-- 'standishlaw7.TreapAsks': WHATEVER THE INPUT: true; the input reads as it did. -/
def treapAsksSpec : ChangeSpec := { name := "treapAsks", fn := fun _ => fun
  | [d1, d2, d3] => { results := [.lit (.bool true)], args := [d1, d2, d3] }
  | _ => none }
def treapAsksRow : OpenClaim := { program := "ytaondjklclpdkaa", sum := "6f0442a2b1cec219dad168d536811cfa77a9e4da6305d8cecdeb042914896f81", func := "standish/standishlaw7.TreapAsks", spec := "treapAsks", recurses := true, apart := false }
def TreapAsksSaid : Prop := treapAsksRow.holds Try.pinned (OpenSpec.ofChange treapAsksSpec)

/-- ITS FALSE NEIGHBOUR: 'it returns false'. Refute it at one input. -/
def treapAsksWrong : ChangeSpec := { name := "treapAsks", fn := fun _ => fun
  | [d1, d2, d3] => { results := [.lit (.bool false)], args := [d1, d2, d3] }
  | _ => none }
def TreapAsksWrongFalsely : Prop := treapAsksRow.holds Try.pinned (OpenSpec.ofChange treapAsksWrong)

/-- 'standishlaw7.TreapFull': WHATEVER THE INPUT: true; the input reads as it did. -/
def treapFullSpec : ChangeSpec := { name := "treapFull", fn := fun _ => fun
  | [d] => { results := [.lit (.bool true)], args := [d] }
  | _ => none }
def treapFullRow : OpenClaim := { program := "ytaondjklclpdkaa", sum := "6f0442a2b1cec219dad168d536811cfa77a9e4da6305d8cecdeb042914896f81", func := "standish/standishlaw7.TreapFull", spec := "treapFull", recurses := true, apart := false }
def TreapFullSaid : Prop := treapFullRow.holds Try.pinned (OpenSpec.ofChange treapFullSpec)

/-- ITS FALSE NEIGHBOUR: 'it returns false'. Refute it at one input. -/
def treapFullWrong : ChangeSpec := { name := "treapFull", fn := fun _ => fun
  | [d] => { results := [.lit (.bool false)], args := [d] }
  | _ => none }
def TreapFullWrongFalsely : Prop := treapFullRow.holds Try.pinned (OpenSpec.ofChange treapFullWrong)

/- THE SECOND FORM. 'bulk': how many values and letters a reading holds, each counted each time it is reached (what is shared counts as often as it is met; a slice's spare places count too). A statement '..UptoSaid' is the law's where the arguments, and the package variables that the reading takes, are together of bulk at most 1048576: NARROWER than '..Said'. Prove '..Said' where nothing that the law and all that it calls make is longer than what came in: it says more and counts as full. Else prove '..UptoSaid'. A law counts once. -/
mutual
def uptoBulk {H : Type} : DataW H → Nat
  | .lit (.string bytes) => bytes.length + 1
  | .lit _ => 1
  | .nil => 1
  | .ptr d => uptoBulk d + 1
  | .slice elems spare => uptoBulkAll elems + uptoBulkAll spare + 1
  | .agg parts => uptoBulkAll parts + 1
  | .iface _ d => uptoBulk d + 1
  | .map entries => uptoBulkEntries entries + 1
  | .held _ => 1
def uptoBulkAll {H : Type} : List (DataW H) → Nat
  | [] => 0
  | d :: r => uptoBulk d + uptoBulkAll r
def uptoBulkEntries {H : Type} : List (Lit × DataW H) → Nat
  | [] => 0
  | x :: r => uptoBulkEntry x + uptoBulkEntries r
def uptoBulkEntry {H : Type} : Lit × DataW H → Nat
  | (.string bytes, d) => bytes.length + uptoBulk d + 1
  | (_, d) => uptoBulk d + 1
 end
def uptoSmall : (H : Type) → List (DataW H) → Bool := fun _ ds => decide (uptoBulkAll ds ≤ 1048576)
def OpenSpec.upto (s : _root_.Go.ChangeSpec) : _root_.Go.OpenSpec := { _root_.Go.OpenSpec.ofChange s with cond := some uptoSmall }

/-- 'standishlaw7.TreapPlays', WHERE WHAT IT READS IS OF BULK AT MOST 1048576: true; the input reads as it did. -/
def treapPlaysUptoRow : OpenClaim := { program := "ytaondjklclpdkaa", sum := "6f0442a2b1cec219dad168d536811cfa77a9e4da6305d8cecdeb042914896f81", func := "standish/standishlaw7.TreapPlays", spec := "treapPlays", recurses := true, apart := false, narrowed := true }
def TreapPlaysUptoSaid : Prop := treapPlaysUptoRow.holds Try.pinned (OpenSpec.upto treapPlaysSpec)

/-- 'standishlaw7.TreapNear', WHERE WHAT IT READS IS OF BULK AT MOST 1048576: true; the input reads as it did. -/
def treapNearUptoRow : OpenClaim := { program := "ytaondjklclpdkaa", sum := "6f0442a2b1cec219dad168d536811cfa77a9e4da6305d8cecdeb042914896f81", func := "standish/standishlaw7.TreapNear", spec := "treapNear", recurses := true, apart := false, narrowed := true }
def TreapNearUptoSaid : Prop := treapNearUptoRow.holds Try.pinned (OpenSpec.upto treapNearSpec)

/-- 'standishlaw7.TreapOne', WHERE WHAT IT READS IS OF BULK AT MOST 1048576: true; the input reads as it did. -/
def treapOneUptoRow : OpenClaim := { program := "ytaondjklclpdkaa", sum := "6f0442a2b1cec219dad168d536811cfa77a9e4da6305d8cecdeb042914896f81", func := "standish/standishlaw7.TreapOne", spec := "treapOne", recurses := true, apart := false, narrowed := true }
def TreapOneUptoSaid : Prop := treapOneUptoRow.holds Try.pinned (OpenSpec.upto treapOneSpec)

/-- 'standishlaw7.TreapHeap', WHERE WHAT IT READS IS OF BULK AT MOST 1048576: true; the input reads as it did. -/
def treapHeapUptoRow : OpenClaim := { program := "ytaondjklclpdkaa", sum := "6f0442a2b1cec219dad168d536811cfa77a9e4da6305d8cecdeb042914896f81", func := "standish/standishlaw7.TreapHeap", spec := "treapHeap", recurses := true, apart := false, narrowed := true }
def TreapHeapUptoSaid : Prop := treapHeapUptoRow.holds Try.pinned (OpenSpec.upto treapHeapSpec)

/-- 'standishlaw7.TreapAsks', WHERE WHAT IT READS IS OF BULK AT MOST 1048576: true; the input reads as it did. -/
def treapAsksUptoRow : OpenClaim := { program := "ytaondjklclpdkaa", sum := "6f0442a2b1cec219dad168d536811cfa77a9e4da6305d8cecdeb042914896f81", func := "standish/standishlaw7.TreapAsks", spec := "treapAsks", recurses := true, apart := false, narrowed := true }
def TreapAsksUptoSaid : Prop := treapAsksUptoRow.holds Try.pinned (OpenSpec.upto treapAsksSpec)

/-- 'standishlaw7.TreapFull', WHERE WHAT IT READS IS OF BULK AT MOST 1048576: true; the input reads as it did. -/
def treapFullUptoRow : OpenClaim := { program := "ytaondjklclpdkaa", sum := "6f0442a2b1cec219dad168d536811cfa77a9e4da6305d8cecdeb042914896f81", func := "standish/standishlaw7.TreapFull", spec := "treapFull", recurses := true, apart := false, narrowed := true }
def TreapFullUptoSaid : Prop := treapFullUptoRow.holds Try.pinned (OpenSpec.upto treapFullSpec)

end Rows
end Go.Proofs.Ytaondjklclpdkaa
