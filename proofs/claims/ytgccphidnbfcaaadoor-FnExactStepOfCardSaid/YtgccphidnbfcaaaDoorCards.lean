/-
  DERIVED. GIVEN WITH THE SEED: THE CARDS: each row of YtgccphidnbfcaaaDoorRows.lean that lists a variable, with what it lists TIED to the program's text (the seventh form; the later family's looks); each row that meets fmt, with fmt's text TOLD by the authors' own Lean function (tested against real Go, not proved from fmt's source: count such statements apart). THE CARD IS WHAT COUNTS. Prove the row's statement (the work); the ties are given (YtgccphidnbfcaaaDoorTie.lean); close each card by the builder's one call (the guide's Derived/Test/ToyasCard.lean, 'card_holds'). Laid BY PROGRAM, IN A SANDBOX (cutbox-door.mjs). By AI agents, Wed Nov 11 2026. No macro, syntax, notation, axiom, sorry.
-/
import Derived.Test.YtgccphidnbfcaaaDoorRows
import GoSem.ClaimSeven
namespace Go.Proofs.YtgccphidnbfcaaaDoor
namespace Rows

/-- THE TIED CARD OF 'laws.FnSteps'. -/
def fnStepsCard : Claim7 := { stood := { row := fnStepsRow, standIns := [], harness := (true, "242f924b354eb361665f02b76e6488d2a5b36f50caaaedea9221137621fa5722"), looks := false }, kinds := [], alts := [], laidByText := true, laidKinds := [.data], laidTests := true, laidLooks := .later }
def FnStepsCardSaid : Prop := Claim7.holds Tryd.pinned (.plain (OpenSpec.ofChange fnStepsSpec)) fnStepsCard

/-- THE TIED CARD OF 'laws.FnExactStepOf'. -/
def fnExactStepOfCard : Claim7 := { stood := { row := fnExactStepOfRow, standIns := [], harness := (true, "242f924b354eb361665f02b76e6488d2a5b36f50caaaedea9221137621fa5722"), looks := false }, kinds := [], alts := [], laidByText := true, laidKinds := [.data], laidTests := true, laidLooks := .later }
def FnExactStepOfCardSaid : Prop := Claim7.holds Tryd.pinned (.plain (OpenSpec.ofChange fnExactStepOfSpec)) fnExactStepOfCard

/-- THE TIED CARD OF 'laws.FnExactScaled'. -/
def fnExactScaledCard : Claim7 := { stood := { row := fnExactScaledRow, standIns := [], harness := (true, "242f924b354eb361665f02b76e6488d2a5b36f50caaaedea9221137621fa5722"), looks := false }, kinds := [], alts := [], laidByText := true, laidKinds := [.data], laidTests := true, laidLooks := .later }
def FnExactScaledCardSaid : Prop := Claim7.holds Tryd.pinned (.plain (OpenSpec.ofChange fnExactScaledSpec)) fnExactScaledCard

/-- THE TIED CARD OF 'laws.FnExactQuantized'. -/
def fnExactQuantizedCard : Claim7 := { stood := { row := fnExactQuantizedRow, standIns := [], harness := (true, "242f924b354eb361665f02b76e6488d2a5b36f50caaaedea9221137621fa5722"), looks := false }, kinds := [], alts := [], laidByText := true, laidKinds := [.data], laidTests := true, laidLooks := .later }
def FnExactQuantizedCardSaid : Prop := Claim7.holds Tryd.pinned (.plain (OpenSpec.ofChange fnExactQuantizedSpec)) fnExactQuantizedCard

/-- THE SECOND FORM's CARD OF 'laws.FnSteps'. -/
def fnStepsUptoCard : Claim7 := { stood := { row := fnStepsUptoRow, standIns := [], harness := (true, "242f924b354eb361665f02b76e6488d2a5b36f50caaaedea9221137621fa5722"), looks := false }, kinds := [], alts := [], laidByText := true, laidKinds := [.data], laidTests := true, laidLooks := .later }
def FnStepsUptoCardSaid : Prop := Claim7.holds Tryd.pinned (.plain (OpenSpec.upto fnStepsSpec)) fnStepsUptoCard

/-- THE SECOND FORM's CARD OF 'laws.FnExactStepOf'. -/
def fnExactStepOfUptoCard : Claim7 := { stood := { row := fnExactStepOfUptoRow, standIns := [], harness := (true, "242f924b354eb361665f02b76e6488d2a5b36f50caaaedea9221137621fa5722"), looks := false }, kinds := [], alts := [], laidByText := true, laidKinds := [.data], laidTests := true, laidLooks := .later }
def FnExactStepOfUptoCardSaid : Prop := Claim7.holds Tryd.pinned (.plain (OpenSpec.upto fnExactStepOfSpec)) fnExactStepOfUptoCard

/-- THE SECOND FORM's CARD OF 'laws.FnExactScaled'. -/
def fnExactScaledUptoCard : Claim7 := { stood := { row := fnExactScaledUptoRow, standIns := [], harness := (true, "242f924b354eb361665f02b76e6488d2a5b36f50caaaedea9221137621fa5722"), looks := false }, kinds := [], alts := [], laidByText := true, laidKinds := [.data], laidTests := true, laidLooks := .later }
def FnExactScaledUptoCardSaid : Prop := Claim7.holds Tryd.pinned (.plain (OpenSpec.upto fnExactScaledSpec)) fnExactScaledUptoCard

/-- THE SECOND FORM's CARD OF 'laws.FnExactQuantized'. -/
def fnExactQuantizedUptoCard : Claim7 := { stood := { row := fnExactQuantizedUptoRow, standIns := [], harness := (true, "242f924b354eb361665f02b76e6488d2a5b36f50caaaedea9221137621fa5722"), looks := false }, kinds := [], alts := [], laidByText := true, laidKinds := [.data], laidTests := true, laidLooks := .later }
def FnExactQuantizedUptoCardSaid : Prop := Claim7.holds Tryd.pinned (.plain (OpenSpec.upto fnExactQuantizedSpec)) fnExactQuantizedUptoCard
end Rows
end Go.Proofs.YtgccphidnbfcaaaDoor
