/-
  NARROWER THAN 'FOR EVERY INPUT', by the rows' own cells (each row's printed sentence says how): VarsTells: laid · VarsTurned: laid · VarsNumbers: laid · VarsDraws: laid.
  DERIVED. THE GIVEN ROWS OF THIS SEAT. 4 by the template 'for every input the law returns true; each argument reads behind the call as it read before'; 0 by the template 'total and deterministic' (their statements: YtijhkpbnalnpbaaDoorTotals.lean).
  GIVEN WITH THE SEED: the statements are not yours to turn. If you find one false, say at which input.
  Laid BY PROGRAM, IN A SANDBOX (cutbox-rows.mjs): the forced cells as the released guide's own fill.sh prints them over the translation a297454de5a8125e… (all of the seat's roots in one cut). By AI agents, Wed Nov 11 2026. No macro, syntax, notation, axiom, sorry.
-/
import Derived.Test.YtijhkpbnalnpbaaDoorChecked
import GoSem.Claim
import GoSem.ClaimJoined
import GoSem.ClaimMapViews
import Derived.JoinedTies
import Derived.KernelRfl
namespace Go.Proofs.YtijhkpbnalnpbaaDoor
/- THE CELL 'sum', in the pinned program and in every row, IS THE sha256 OF THE DUMP (.gsa) THAT YtijhkpbnalnpbaaDoorProg.lean LOADS. Nothing in Lean hashes anything: it is a label: what it is worth is what the hold of that sum in a sandbox is worth. -/
noncomputable def Tryd.pinned : Pinned := { name := "ytijhkpbnalnpbaadoor", sum := "a297454de5a8125e6e41db2d6f1a9e5901deb7f65f3eca7454273011d2ccc84b", checked := Tryd.checked }
namespace Rows
def none {H : Type} : Left H := { results := [], args := [] }

/- WHAT THE LISTED PACKAGE-LEVEL VARIABLES READ AS WHEN THE CALL BEGINS. Each datum BY PROGRAM (the guide's laid-datum.mjs) off the statement by which the dump's own 'gosem.cut.vars' lays the variable. In a bare row this is a premise. The card (YtijhkpbnalnpbaaDoorCards.lean) ties it to the program's text. -/
def laid_math_bits_deBruijn32tab {H : Type} : DataW H := .agg [.lit (.int .u8 0), .lit (.int .u8 1), .lit (.int .u8 28), .lit (.int .u8 2), .lit (.int .u8 29), .lit (.int .u8 14), .lit (.int .u8 24), .lit (.int .u8 3), .lit (.int .u8 30), .lit (.int .u8 22), .lit (.int .u8 20), .lit (.int .u8 15), .lit (.int .u8 25), .lit (.int .u8 17), .lit (.int .u8 4), .lit (.int .u8 8), .lit (.int .u8 31), .lit (.int .u8 27), .lit (.int .u8 13), .lit (.int .u8 23), .lit (.int .u8 21), .lit (.int .u8 19), .lit (.int .u8 16), .lit (.int .u8 7), .lit (.int .u8 26), .lit (.int .u8 12), .lit (.int .u8 18), .lit (.int .u8 6), .lit (.int .u8 11), .lit (.int .u8 5), .lit (.int .u8 10), .lit (.int .u8 9)]
def laid_math_bits_deBruijn64tab {H : Type} : DataW H := .agg [.lit (.int .u8 0), .lit (.int .u8 1), .lit (.int .u8 56), .lit (.int .u8 2), .lit (.int .u8 57), .lit (.int .u8 49), .lit (.int .u8 28), .lit (.int .u8 3), .lit (.int .u8 61), .lit (.int .u8 58), .lit (.int .u8 42), .lit (.int .u8 50), .lit (.int .u8 38), .lit (.int .u8 29), .lit (.int .u8 17), .lit (.int .u8 4), .lit (.int .u8 62), .lit (.int .u8 47), .lit (.int .u8 59), .lit (.int .u8 36), .lit (.int .u8 45), .lit (.int .u8 43), .lit (.int .u8 51), .lit (.int .u8 22), .lit (.int .u8 53), .lit (.int .u8 39), .lit (.int .u8 33), .lit (.int .u8 30), .lit (.int .u8 24), .lit (.int .u8 18), .lit (.int .u8 12), .lit (.int .u8 5), .lit (.int .u8 63), .lit (.int .u8 55), .lit (.int .u8 48), .lit (.int .u8 27), .lit (.int .u8 60), .lit (.int .u8 41), .lit (.int .u8 37), .lit (.int .u8 16), .lit (.int .u8 46), .lit (.int .u8 35), .lit (.int .u8 44), .lit (.int .u8 21), .lit (.int .u8 52), .lit (.int .u8 32), .lit (.int .u8 23), .lit (.int .u8 11), .lit (.int .u8 54), .lit (.int .u8 26), .lit (.int .u8 40), .lit (.int .u8 15), .lit (.int .u8 34), .lit (.int .u8 20), .lit (.int .u8 31), .lit (.int .u8 10), .lit (.int .u8 25), .lit (.int .u8 14), .lit (.int .u8 19), .lit (.int .u8 9), .lit (.int .u8 13), .lit (.int .u8 8), .lit (.int .u8 7), .lit (.int .u8 6)]
def laid_internal_strconv_uint64pow10 {H : Type} : DataW H := .agg [.lit (.int .u64 1), .lit (.int .u64 10), .lit (.int .u64 100), .lit (.int .u64 1000), .lit (.int .u64 10000), .lit (.int .u64 100000), .lit (.int .u64 1000000), .lit (.int .u64 10000000), .lit (.int .u64 100000000), .lit (.int .u64 1000000000), .lit (.int .u64 10000000000), .lit (.int .u64 100000000000), .lit (.int .u64 1000000000000), .lit (.int .u64 10000000000000), .lit (.int .u64 100000000000000), .lit (.int .u64 1000000000000000), .lit (.int .u64 10000000000000000), .lit (.int .u64 100000000000000000), .lit (.int .u64 1000000000000000000), .lit (.int .u64 10000000000000000000)]
def laid_standish_vars_table {H : Type} : DataW H := .agg [.agg [.lit (.string [84, 77, 95, 83, 69, 76, 69, 67, 84, 69, 68, 95, 84, 69, 88, 84]), .lit (.int .i64 0), .lit (.int .i64 0)], .agg [.lit (.string [84, 77, 95, 67, 85, 82, 82, 69, 78, 84, 95, 76, 73, 78, 69]), .lit (.int .i64 1), .lit (.int .i64 0)], .agg [.lit (.string [84, 77, 95, 67, 85, 82, 82, 69, 78, 84, 95, 87, 79, 82, 68]), .lit (.int .i64 2), .lit (.int .i64 0)], .agg [.lit (.string [84, 77, 95, 76, 73, 78, 69, 95, 73, 78, 68, 69, 88]), .lit (.int .i64 3), .lit (.int .i64 0)], .agg [.lit (.string [84, 77, 95, 76, 73, 78, 69, 95, 78, 85, 77, 66, 69, 82]), .lit (.int .i64 4), .lit (.int .i64 0)], .agg [.lit (.string [84, 77, 95, 70, 73, 76, 69, 78, 65, 77, 69]), .lit (.int .i64 5), .lit (.int .i64 0)], .agg [.lit (.string [84, 77, 95, 70, 73, 76, 69, 78, 65, 77, 69, 95, 66, 65, 83, 69]), .lit (.int .i64 6), .lit (.int .i64 0)], .agg [.lit (.string [84, 77, 95, 68, 73, 82, 69, 67, 84, 79, 82, 89]), .lit (.int .i64 7), .lit (.int .i64 0)], .agg [.lit (.string [84, 77, 95, 70, 73, 76, 69, 80, 65, 84, 72]), .lit (.int .i64 8), .lit (.int .i64 0)], .agg [.lit (.string [67, 76, 73, 80, 66, 79, 65, 82, 68]), .lit (.int .i64 9), .lit (.int .i64 0)], .agg [.lit (.string [67, 85, 82, 82, 69, 78, 84, 95, 89, 69, 65, 82]), .lit (.int .i64 10), .lit (.int .i64 0)], .agg [.lit (.string [67, 85, 82, 82, 69, 78, 84, 95, 89, 69, 65, 82, 95, 83, 72, 79, 82, 84]), .lit (.int .i64 11), .lit (.int .i64 0)], .agg [.lit (.string [67, 85, 82, 82, 69, 78, 84, 95, 77, 79, 78, 84, 72]), .lit (.int .i64 12), .lit (.int .i64 1)], .agg [.lit (.string [67, 85, 82, 82, 69, 78, 84, 95, 68, 65, 84, 69]), .lit (.int .i64 12), .lit (.int .i64 2)], .agg [.lit (.string [67, 85, 82, 82, 69, 78, 84, 95, 72, 79, 85, 82]), .lit (.int .i64 12), .lit (.int .i64 3)], .agg [.lit (.string [67, 85, 82, 82, 69, 78, 84, 95, 77, 73, 78, 85, 84, 69]), .lit (.int .i64 12), .lit (.int .i64 4)], .agg [.lit (.string [67, 85, 82, 82, 69, 78, 84, 95, 83, 69, 67, 79, 78, 68]), .lit (.int .i64 12), .lit (.int .i64 5)], .agg [.lit (.string [67, 85, 82, 82, 69, 78, 84, 95, 77, 79, 78, 84, 72, 95, 78, 65, 77, 69]), .lit (.int .i64 13), .lit (.int .i64 1)], .agg [.lit (.string [67, 85, 82, 82, 69, 78, 84, 95, 77, 79, 78, 84, 72, 95, 78, 65, 77, 69, 95, 83, 72, 79, 82, 84]), .lit (.int .i64 14), .lit (.int .i64 1)], .agg [.lit (.string [67, 85, 82, 82, 69, 78, 84, 95, 68, 65, 89, 95, 78, 65, 77, 69]), .lit (.int .i64 15), .lit (.int .i64 6)], .agg [.lit (.string [67, 85, 82, 82, 69, 78, 84, 95, 68, 65, 89, 95, 78, 65, 77, 69, 95, 83, 72, 79, 82, 84]), .lit (.int .i64 16), .lit (.int .i64 6)], .agg [.lit (.string [82, 65, 78, 68, 79, 77]), .lit (.int .i64 17), .lit (.int .i64 0)], .agg [.lit (.string [82, 65, 78, 68, 79, 77, 95, 72, 69, 88]), .lit (.int .i64 18), .lit (.int .i64 0)], .agg [.lit (.string [85, 85, 73, 68]), .lit (.int .i64 19), .lit (.int .i64 0)]]
def laid_standish_vars_months {H : Type} : DataW H := .agg [.lit (.string [74, 97, 110, 117, 97, 114, 121]), .lit (.string [70, 101, 98, 114, 117, 97, 114, 121]), .lit (.string [77, 97, 114, 99, 104]), .lit (.string [65, 112, 114, 105, 108]), .lit (.string [77, 97, 121]), .lit (.string [74, 117, 110, 101]), .lit (.string [74, 117, 108, 121]), .lit (.string [65, 117, 103, 117, 115, 116]), .lit (.string [83, 101, 112, 116, 101, 109, 98, 101, 114]), .lit (.string [79, 99, 116, 111, 98, 101, 114]), .lit (.string [78, 111, 118, 101, 109, 98, 101, 114]), .lit (.string [68, 101, 99, 101, 109, 98, 101, 114])]
def laid_standish_vars_days {H : Type} : DataW H := .agg [.lit (.string [83, 117, 110, 100, 97, 121]), .lit (.string [77, 111, 110, 100, 97, 121]), .lit (.string [84, 117, 101, 115, 100, 97, 121]), .lit (.string [87, 101, 100, 110, 101, 115, 100, 97, 121]), .lit (.string [84, 104, 117, 114, 115, 100, 97, 121]), .lit (.string [70, 114, 105, 100, 97, 121]), .lit (.string [83, 97, 116, 117, 114, 100, 97, 121])]
def laid_standish_vars_clockBounds {H : Type} : DataW H := .agg [.agg [.lit (.int .i64 0), .lit (.int .i64 9999)], .agg [.lit (.int .i64 1), .lit (.int .i64 12)], .agg [.lit (.int .i64 1), .lit (.int .i64 31)], .agg [.lit (.int .i64 0), .lit (.int .i64 23)], .agg [.lit (.int .i64 0), .lit (.int .i64 59)], .agg [.lit (.int .i64 0), .lit (.int .i64 59)], .agg [.lit (.int .i64 0), .lit (.int .i64 6)]]

/-- 'standishlaw16.VarsTells': WHATEVER THE INPUT: true; the input reads as it did. -/
def varsTellsSpec : ChangeSpec := { name := "varsTells", fn := fun _ => fun
  | [d1, d2, d3, d4, d5] => { results := [.lit (.bool true)], args := [d1, d2, d3, d4, d5] }
  | _ => none }
def varsTellsRow : OpenClaim := { program := "ytijhkpbnalnpbaadoor", sum := "a297454de5a8125e6e41db2d6f1a9e5901deb7f65f3eca7454273011d2ccc84b", func := "standish/standishlaw16.VarsTells", spec := "varsTells", inPlace := ["internal/abi.NoEscape", "internal/bytealg.MakeNoZero"], named := ["standish/vars.table", "standish/vars.clockBounds", "internal/strconv.uint64pow10", "math/bits.deBruijn32tab", "math/bits.deBruijn64tab", "standish/vars.months", "standish/vars.days"], apart := false, laid := [("math/bits.deBruijn32tab", laid_math_bits_deBruijn32tab), ("math/bits.deBruijn64tab", laid_math_bits_deBruijn64tab), ("internal/strconv.uint64pow10", laid_internal_strconv_uint64pow10), ("standish/vars.table", laid_standish_vars_table), ("standish/vars.months", laid_standish_vars_months), ("standish/vars.days", laid_standish_vars_days), ("standish/vars.clockBounds", laid_standish_vars_clockBounds)] }
def VarsTellsSaid : Prop := varsTellsRow.holds Tryd.pinned (OpenSpec.ofChange varsTellsSpec)

/-- ITS FALSE NEIGHBOUR: 'it returns false'. Refute it at one input. -/
def varsTellsWrong : ChangeSpec := { name := "varsTells", fn := fun _ => fun
  | [d1, d2, d3, d4, d5] => { results := [.lit (.bool false)], args := [d1, d2, d3, d4, d5] }
  | _ => none }
def VarsTellsWrongFalsely : Prop := varsTellsRow.holds Tryd.pinned (OpenSpec.ofChange varsTellsWrong)

/-- 'standishlaw16.VarsTurned': WHATEVER THE INPUT: true; the input reads as it did. -/
def varsTurnedSpec : ChangeSpec := { name := "varsTurned", fn := fun _ => fun
  | [d1, d2, d3, d4, d5] => { results := [.lit (.bool true)], args := [d1, d2, d3, d4, d5] }
  | _ => none }
def varsTurnedRow : OpenClaim := { program := "ytijhkpbnalnpbaadoor", sum := "a297454de5a8125e6e41db2d6f1a9e5901deb7f65f3eca7454273011d2ccc84b", func := "standish/standishlaw16.VarsTurned", spec := "varsTurned", inPlace := ["internal/abi.NoEscape", "internal/bytealg.MakeNoZero"], named := ["standish/vars.table", "standish/vars.clockBounds", "internal/strconv.uint64pow10", "math/bits.deBruijn32tab", "math/bits.deBruijn64tab", "standish/vars.months", "standish/vars.days"], apart := false, laid := [("math/bits.deBruijn32tab", laid_math_bits_deBruijn32tab), ("math/bits.deBruijn64tab", laid_math_bits_deBruijn64tab), ("internal/strconv.uint64pow10", laid_internal_strconv_uint64pow10), ("standish/vars.table", laid_standish_vars_table), ("standish/vars.months", laid_standish_vars_months), ("standish/vars.days", laid_standish_vars_days), ("standish/vars.clockBounds", laid_standish_vars_clockBounds)] }
def VarsTurnedSaid : Prop := varsTurnedRow.holds Tryd.pinned (OpenSpec.ofChange varsTurnedSpec)

/-- ITS FALSE NEIGHBOUR: 'it returns false'. Refute it at one input. -/
def varsTurnedWrong : ChangeSpec := { name := "varsTurned", fn := fun _ => fun
  | [d1, d2, d3, d4, d5] => { results := [.lit (.bool false)], args := [d1, d2, d3, d4, d5] }
  | _ => none }
def VarsTurnedWrongFalsely : Prop := varsTurnedRow.holds Tryd.pinned (OpenSpec.ofChange varsTurnedWrong)

/-- 'standishlaw16.VarsNumbers': WHATEVER THE INPUT: true; the input reads as it did. -/
def varsNumbersSpec : ChangeSpec := { name := "varsNumbers", fn := fun _ => fun
  | [] => { results := [.lit (.bool true)], args := [] }
  | _ => none }
def varsNumbersRow : OpenClaim := { program := "ytijhkpbnalnpbaadoor", sum := "a297454de5a8125e6e41db2d6f1a9e5901deb7f65f3eca7454273011d2ccc84b", func := "standish/standishlaw16.VarsNumbers", spec := "varsNumbers", inPlace := ["internal/abi.NoEscape", "internal/bytealg.MakeNoZero"], named := ["standish/vars.table", "standish/vars.clockBounds", "internal/strconv.uint64pow10", "math/bits.deBruijn32tab", "math/bits.deBruijn64tab", "standish/vars.months", "standish/vars.days"], apart := false, laid := [("math/bits.deBruijn32tab", laid_math_bits_deBruijn32tab), ("math/bits.deBruijn64tab", laid_math_bits_deBruijn64tab), ("internal/strconv.uint64pow10", laid_internal_strconv_uint64pow10), ("standish/vars.table", laid_standish_vars_table), ("standish/vars.months", laid_standish_vars_months), ("standish/vars.days", laid_standish_vars_days), ("standish/vars.clockBounds", laid_standish_vars_clockBounds)] }
def VarsNumbersSaid : Prop := varsNumbersRow.holds Tryd.pinned (OpenSpec.ofChange varsNumbersSpec)

/-- ITS FALSE NEIGHBOUR: 'it returns false'. Refute it at one input. -/
def varsNumbersWrong : ChangeSpec := { name := "varsNumbers", fn := fun _ => fun
  | [] => { results := [.lit (.bool false)], args := [] }
  | _ => none }
def VarsNumbersWrongFalsely : Prop := varsNumbersRow.holds Tryd.pinned (OpenSpec.ofChange varsNumbersWrong)

/-- 'standishlaw16.VarsDraws': WHATEVER THE INPUT: true; the input reads as it did. -/
def varsDrawsSpec : ChangeSpec := { name := "varsDraws", fn := fun _ => fun
  | [d1, d2, d3, d4] => { results := [.lit (.bool true)], args := [d1, d2, d3, d4] }
  | _ => none }
def varsDrawsRow : OpenClaim := { program := "ytijhkpbnalnpbaadoor", sum := "a297454de5a8125e6e41db2d6f1a9e5901deb7f65f3eca7454273011d2ccc84b", func := "standish/standishlaw16.VarsDraws", spec := "varsDraws", inPlace := ["internal/abi.NoEscape", "internal/bytealg.MakeNoZero"], named := ["standish/vars.table", "standish/vars.clockBounds", "internal/strconv.uint64pow10", "math/bits.deBruijn32tab", "math/bits.deBruijn64tab", "standish/vars.months", "standish/vars.days"], apart := false, laid := [("math/bits.deBruijn32tab", laid_math_bits_deBruijn32tab), ("math/bits.deBruijn64tab", laid_math_bits_deBruijn64tab), ("internal/strconv.uint64pow10", laid_internal_strconv_uint64pow10), ("standish/vars.table", laid_standish_vars_table), ("standish/vars.months", laid_standish_vars_months), ("standish/vars.days", laid_standish_vars_days), ("standish/vars.clockBounds", laid_standish_vars_clockBounds)] }
def VarsDrawsSaid : Prop := varsDrawsRow.holds Tryd.pinned (OpenSpec.ofChange varsDrawsSpec)

/-- ITS FALSE NEIGHBOUR: 'it returns false'. Refute it at one input. -/
def varsDrawsWrong : ChangeSpec := { name := "varsDraws", fn := fun _ => fun
  | [d1, d2, d3, d4] => { results := [.lit (.bool false)], args := [d1, d2, d3, d4] }
  | _ => none }
def VarsDrawsWrongFalsely : Prop := varsDrawsRow.holds Tryd.pinned (OpenSpec.ofChange varsDrawsWrong)

/- THE SECOND FORM. 'bulk': how many values and letters a reading holds, each counted each time it is reached (what is shared counts as often as it is met; a slice's spare places count too). A statement '..UptoSaid' is the law's where the arguments, and the package variables that the reading takes, are together of bulk at most 1048576: NARROWER than '..Said'. Prove '..Said' where nothing that the law and all that it calls make is longer than what came in: it says more and counts as full. Else prove '..UptoSaid'. A law counts once. -/
mutual
def uptoBulk {H : Type} : DataW H → Nat
  | .lit (.string bytes) => bytes.length + 1
  | .lit _ => 1
  | .nil => 1
  | .ptr d => uptoBulk d + 1
  | .slice elems spare => uptoBulkAll elems + uptoBulkAll spare + 1
  | .agg parts => uptoBulkAll parts + 1
  | .iface _ d => uptoBulk d + 1
  | .map entries => uptoBulkEntries entries + 1
  | .held _ => 1
def uptoBulkAll {H : Type} : List (DataW H) → Nat
  | [] => 0
  | d :: r => uptoBulk d + uptoBulkAll r
def uptoBulkEntries {H : Type} : List (Lit × DataW H) → Nat
  | [] => 0
  | x :: r => uptoBulkEntry x + uptoBulkEntries r
def uptoBulkEntry {H : Type} : Lit × DataW H → Nat
  | (.string bytes, d) => bytes.length + uptoBulk d + 1
  | (_, d) => uptoBulk d + 1
 end
def uptoSmall : (H : Type) → List (DataW H) → Bool := fun _ ds => decide (uptoBulkAll ds ≤ 1048576)
def OpenSpec.upto (s : _root_.Go.ChangeSpec) : _root_.Go.OpenSpec := { _root_.Go.OpenSpec.ofChange s with cond := some uptoSmall }

/-- 'standishlaw16.VarsTells', WHERE WHAT IT READS IS OF BULK AT MOST 1048576: true; the input reads as it did. -/
def varsTellsUptoRow : OpenClaim := { program := "ytijhkpbnalnpbaadoor", sum := "a297454de5a8125e6e41db2d6f1a9e5901deb7f65f3eca7454273011d2ccc84b", func := "standish/standishlaw16.VarsTells", spec := "varsTells", inPlace := ["internal/abi.NoEscape", "internal/bytealg.MakeNoZero"], named := ["standish/vars.table", "standish/vars.clockBounds", "internal/strconv.uint64pow10", "math/bits.deBruijn32tab", "math/bits.deBruijn64tab", "standish/vars.months", "standish/vars.days"], apart := false, laid := [("math/bits.deBruijn32tab", laid_math_bits_deBruijn32tab), ("math/bits.deBruijn64tab", laid_math_bits_deBruijn64tab), ("internal/strconv.uint64pow10", laid_internal_strconv_uint64pow10), ("standish/vars.table", laid_standish_vars_table), ("standish/vars.months", laid_standish_vars_months), ("standish/vars.days", laid_standish_vars_days), ("standish/vars.clockBounds", laid_standish_vars_clockBounds)], narrowed := true }
def VarsTellsUptoSaid : Prop := varsTellsUptoRow.holds Tryd.pinned (OpenSpec.upto varsTellsSpec)

/-- 'standishlaw16.VarsTurned', WHERE WHAT IT READS IS OF BULK AT MOST 1048576: true; the input reads as it did. -/
def varsTurnedUptoRow : OpenClaim := { program := "ytijhkpbnalnpbaadoor", sum := "a297454de5a8125e6e41db2d6f1a9e5901deb7f65f3eca7454273011d2ccc84b", func := "standish/standishlaw16.VarsTurned", spec := "varsTurned", inPlace := ["internal/abi.NoEscape", "internal/bytealg.MakeNoZero"], named := ["standish/vars.table", "standish/vars.clockBounds", "internal/strconv.uint64pow10", "math/bits.deBruijn32tab", "math/bits.deBruijn64tab", "standish/vars.months", "standish/vars.days"], apart := false, laid := [("math/bits.deBruijn32tab", laid_math_bits_deBruijn32tab), ("math/bits.deBruijn64tab", laid_math_bits_deBruijn64tab), ("internal/strconv.uint64pow10", laid_internal_strconv_uint64pow10), ("standish/vars.table", laid_standish_vars_table), ("standish/vars.months", laid_standish_vars_months), ("standish/vars.days", laid_standish_vars_days), ("standish/vars.clockBounds", laid_standish_vars_clockBounds)], narrowed := true }
def VarsTurnedUptoSaid : Prop := varsTurnedUptoRow.holds Tryd.pinned (OpenSpec.upto varsTurnedSpec)

/-- 'standishlaw16.VarsNumbers', WHERE WHAT IT READS IS OF BULK AT MOST 1048576: true; the input reads as it did. -/
def varsNumbersUptoRow : OpenClaim := { program := "ytijhkpbnalnpbaadoor", sum := "a297454de5a8125e6e41db2d6f1a9e5901deb7f65f3eca7454273011d2ccc84b", func := "standish/standishlaw16.VarsNumbers", spec := "varsNumbers", inPlace := ["internal/abi.NoEscape", "internal/bytealg.MakeNoZero"], named := ["standish/vars.table", "standish/vars.clockBounds", "internal/strconv.uint64pow10", "math/bits.deBruijn32tab", "math/bits.deBruijn64tab", "standish/vars.months", "standish/vars.days"], apart := false, laid := [("math/bits.deBruijn32tab", laid_math_bits_deBruijn32tab), ("math/bits.deBruijn64tab", laid_math_bits_deBruijn64tab), ("internal/strconv.uint64pow10", laid_internal_strconv_uint64pow10), ("standish/vars.table", laid_standish_vars_table), ("standish/vars.months", laid_standish_vars_months), ("standish/vars.days", laid_standish_vars_days), ("standish/vars.clockBounds", laid_standish_vars_clockBounds)], narrowed := true }
def VarsNumbersUptoSaid : Prop := varsNumbersUptoRow.holds Tryd.pinned (OpenSpec.upto varsNumbersSpec)

/-- 'standishlaw16.VarsDraws', WHERE WHAT IT READS IS OF BULK AT MOST 1048576: true; the input reads as it did. -/
def varsDrawsUptoRow : OpenClaim := { program := "ytijhkpbnalnpbaadoor", sum := "a297454de5a8125e6e41db2d6f1a9e5901deb7f65f3eca7454273011d2ccc84b", func := "standish/standishlaw16.VarsDraws", spec := "varsDraws", inPlace := ["internal/abi.NoEscape", "internal/bytealg.MakeNoZero"], named := ["standish/vars.table", "standish/vars.clockBounds", "internal/strconv.uint64pow10", "math/bits.deBruijn32tab", "math/bits.deBruijn64tab", "standish/vars.months", "standish/vars.days"], apart := false, laid := [("math/bits.deBruijn32tab", laid_math_bits_deBruijn32tab), ("math/bits.deBruijn64tab", laid_math_bits_deBruijn64tab), ("internal/strconv.uint64pow10", laid_internal_strconv_uint64pow10), ("standish/vars.table", laid_standish_vars_table), ("standish/vars.months", laid_standish_vars_months), ("standish/vars.days", laid_standish_vars_days), ("standish/vars.clockBounds", laid_standish_vars_clockBounds)], narrowed := true }
def VarsDrawsUptoSaid : Prop := varsDrawsUptoRow.holds Tryd.pinned (OpenSpec.upto varsDrawsSpec)

end Rows
end Go.Proofs.YtijhkpbnalnpbaaDoor
