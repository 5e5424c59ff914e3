/-
  DERIVED. GIVEN WITH THE SEED: THE CARDS: each row of YtiockmhjoldidaaDoorRows.lean that lists a variable, with what it lists TIED to the program's text (the seventh form; the later family's looks); each row that meets fmt, with fmt's text TOLD by the authors' own Lean function (tested against real Go, not proved from fmt's source: count such statements apart). THE CARD IS WHAT COUNTS. Prove the row's statement (the work); the ties are given (YtiockmhjoldidaaDoorTie.lean); close each card by the builder's one call (the guide's Derived/Test/ToyasCard.lean, 'card_holds'). Laid BY PROGRAM, IN A SANDBOX (cutbox-door.mjs). By AI agents, Wed Nov 11 2026. No macro, syntax, notation, axiom, sorry.
-/
import Derived.Test.YtiockmhjoldidaaDoorRows
import GoSem.ClaimSeven
namespace Go.Proofs.YtiockmhjoldidaaDoor
namespace Rows

/-- THE TIED CARD OF 'standishlaw2.FaultTells'. -/
def faultTellsCard : Claim7 := { stood := { row := faultTellsRow, standIns := [], harness := (true, "e7817804ddc8764801b311f7ed30e1b97cd0bca7fea99ced3b2eb8555096f1ea"), looks := true }, kinds := [], alts := [], laidByText := true, laidKinds := [.handle], laidTests := true, laidLooks := .later }
def FaultTellsCardSaid : Prop := Claim7.holds Tryd.pinned (.plain (OpenSpec.ofChange faultTellsSpec)) faultTellsCard

/-- THE TIED CARD OF 'standishlaw2.FaultLonger'. -/
def faultLongerCard : Claim7 := { stood := { row := faultLongerRow, standIns := [], harness := (true, "e7817804ddc8764801b311f7ed30e1b97cd0bca7fea99ced3b2eb8555096f1ea"), looks := true }, kinds := [], alts := [], laidByText := true, laidKinds := [.handle], laidTests := true, laidLooks := .later }
def FaultLongerCardSaid : Prop := Claim7.holds Tryd.pinned (.plain (OpenSpec.ofChange faultLongerSpec)) faultLongerCard

/-- THE TIED CARD OF 'standishlaw2.FaultOnes'. -/
def faultOnesCard : Claim7 := { stood := { row := faultOnesRow, standIns := [], harness := (true, "e7817804ddc8764801b311f7ed30e1b97cd0bca7fea99ced3b2eb8555096f1ea"), looks := true }, kinds := [], alts := [], laidByText := true, laidKinds := [.handle], laidTests := true, laidLooks := .later }
def FaultOnesCardSaid : Prop := Claim7.holds Tryd.pinned (.plain (OpenSpec.ofChange faultOnesSpec)) faultOnesCard

/-- THE SECOND FORM's CARD OF 'standishlaw2.FaultTells'. -/
def faultTellsUptoCard : Claim7 := { stood := { row := faultTellsUptoRow, standIns := [], harness := (true, "e7817804ddc8764801b311f7ed30e1b97cd0bca7fea99ced3b2eb8555096f1ea"), looks := true }, kinds := [], alts := [], laidByText := true, laidKinds := [.handle], laidTests := true, laidLooks := .later }
def FaultTellsUptoCardSaid : Prop := Claim7.holds Tryd.pinned (.plain (OpenSpec.upto faultTellsSpec)) faultTellsUptoCard

/-- THE SECOND FORM's CARD OF 'standishlaw2.FaultLonger'. -/
def faultLongerUptoCard : Claim7 := { stood := { row := faultLongerUptoRow, standIns := [], harness := (true, "e7817804ddc8764801b311f7ed30e1b97cd0bca7fea99ced3b2eb8555096f1ea"), looks := true }, kinds := [], alts := [], laidByText := true, laidKinds := [.handle], laidTests := true, laidLooks := .later }
def FaultLongerUptoCardSaid : Prop := Claim7.holds Tryd.pinned (.plain (OpenSpec.upto faultLongerSpec)) faultLongerUptoCard

/-- THE SECOND FORM's CARD OF 'standishlaw2.FaultOnes'. -/
def faultOnesUptoCard : Claim7 := { stood := { row := faultOnesUptoRow, standIns := [], harness := (true, "e7817804ddc8764801b311f7ed30e1b97cd0bca7fea99ced3b2eb8555096f1ea"), looks := true }, kinds := [], alts := [], laidByText := true, laidKinds := [.handle], laidTests := true, laidLooks := .later }
def FaultOnesUptoCardSaid : Prop := Claim7.holds Tryd.pinned (.plain (OpenSpec.upto faultOnesSpec)) faultOnesUptoCard
end Rows
end Go.Proofs.YtiockmhjoldidaaDoor
