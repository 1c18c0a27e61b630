/-
  DERIVED. GIVEN WITH THE SEED: THE CARDS: each row of YtknnmacmohpanaaDoorRows.lean that lists a variable, with what it lists TIED to the program's text (the seventh form; the later family's looks); each row that meets fmt, with fmt's text TOLD by the authors' own Lean function (tested against real Go, not proved from fmt's source: count such statements apart). THE CARD IS WHAT COUNTS. Prove the row's statement (the work); the ties are given (YtknnmacmohpanaaDoorTie.lean); close each card by the builder's one call (the guide's Derived/Test/ToyasCard.lean, 'card_holds'). Laid BY PROGRAM, IN A SANDBOX (cutbox-door.mjs). By AI agents, Wed Nov 11 2026. No macro, syntax, notation, axiom, sorry.
-/
import Derived.Test.YtknnmacmohpanaaDoorRows
import GoSem.ClaimSeven
namespace Go.Proofs.YtknnmacmohpanaaDoor
namespace Rows

/-- THE TIED CARD OF 'pennantlaw02.MachSteps'. -/
def machStepsCard : Claim7 := { stood := { row := machStepsRow, standIns := [], harness := (true, "4ba2784d00634596352c4b0f8ed0cd9458c6fbafcd50a4b7e8df7abe26f936cc"), looks := false }, kinds := [], alts := [], laidByText := true, laidKinds := [.data], laidTests := true, laidLooks := .later }
def MachStepsCardSaid : Prop := Claim7.holds Tryd.pinned (.plain (OpenSpec.ofChange machStepsSpec)) machStepsCard

/-- THE TIED CARD OF 'pennantlaw02.MachRuns'. -/
def machRunsCard : Claim7 := { stood := { row := machRunsRow, standIns := [], harness := (true, "4ba2784d00634596352c4b0f8ed0cd9458c6fbafcd50a4b7e8df7abe26f936cc"), looks := false }, kinds := [], alts := [], laidByText := true, laidKinds := [.data], laidTests := true, laidLooks := .later }
def MachRunsCardSaid : Prop := Claim7.holds Tryd.pinned (.plain (OpenSpec.ofChange machRunsSpec)) machRunsCard

/-- THE TIED CARD OF 'pennantlaw02.MachParts'. -/
def machPartsCard : Claim7 := { stood := { row := machPartsRow, standIns := [], harness := (true, "4ba2784d00634596352c4b0f8ed0cd9458c6fbafcd50a4b7e8df7abe26f936cc"), looks := false }, kinds := [], alts := [], laidByText := true, laidKinds := [.data], laidTests := true, laidLooks := .later }
def MachPartsCardSaid : Prop := Claim7.holds Tryd.pinned (.plain (OpenSpec.ofChange machPartsSpec)) machPartsCard

/-- THE TIED CARD OF 'pennantlaw02.MachInput'. -/
def machInputCard : Claim7 := { stood := { row := machInputRow, standIns := [], harness := (true, "4ba2784d00634596352c4b0f8ed0cd9458c6fbafcd50a4b7e8df7abe26f936cc"), looks := false }, kinds := [], alts := [], laidByText := true, laidKinds := [.data], laidTests := true, laidLooks := .later }
def MachInputCardSaid : Prop := Claim7.holds Tryd.pinned (.plain (OpenSpec.ofChange machInputSpec)) machInputCard

/-- THE TIED CARD OF 'pennantlaw02.MachKnown'. -/
def machKnownCard : Claim7 := { stood := { row := machKnownRow, standIns := [], harness := (true, "4ba2784d00634596352c4b0f8ed0cd9458c6fbafcd50a4b7e8df7abe26f936cc"), looks := false }, kinds := [], alts := [], laidByText := true, laidKinds := [.data], laidTests := true, laidLooks := .later }
def MachKnownCardSaid : Prop := Claim7.holds Tryd.pinned (.plain (OpenSpec.ofChange machKnownSpec)) machKnownCard

/-- THE SECOND FORM's CARD OF 'pennantlaw02.MachSteps'. -/
def machStepsUptoCard : Claim7 := { stood := { row := machStepsUptoRow, standIns := [], harness := (true, "4ba2784d00634596352c4b0f8ed0cd9458c6fbafcd50a4b7e8df7abe26f936cc"), looks := false }, kinds := [], alts := [], laidByText := true, laidKinds := [.data], laidTests := true, laidLooks := .later }
def MachStepsUptoCardSaid : Prop := Claim7.holds Tryd.pinned (.plain (OpenSpec.upto machStepsSpec)) machStepsUptoCard

/-- THE SECOND FORM's CARD OF 'pennantlaw02.MachRuns'. -/
def machRunsUptoCard : Claim7 := { stood := { row := machRunsUptoRow, standIns := [], harness := (true, "4ba2784d00634596352c4b0f8ed0cd9458c6fbafcd50a4b7e8df7abe26f936cc"), looks := false }, kinds := [], alts := [], laidByText := true, laidKinds := [.data], laidTests := true, laidLooks := .later }
def MachRunsUptoCardSaid : Prop := Claim7.holds Tryd.pinned (.plain (OpenSpec.upto machRunsSpec)) machRunsUptoCard

/-- THE SECOND FORM's CARD OF 'pennantlaw02.MachParts'. -/
def machPartsUptoCard : Claim7 := { stood := { row := machPartsUptoRow, standIns := [], harness := (true, "4ba2784d00634596352c4b0f8ed0cd9458c6fbafcd50a4b7e8df7abe26f936cc"), looks := false }, kinds := [], alts := [], laidByText := true, laidKinds := [.data], laidTests := true, laidLooks := .later }
def MachPartsUptoCardSaid : Prop := Claim7.holds Tryd.pinned (.plain (OpenSpec.upto machPartsSpec)) machPartsUptoCard

/-- THE SECOND FORM's CARD OF 'pennantlaw02.MachInput'. -/
def machInputUptoCard : Claim7 := { stood := { row := machInputUptoRow, standIns := [], harness := (true, "4ba2784d00634596352c4b0f8ed0cd9458c6fbafcd50a4b7e8df7abe26f936cc"), looks := false }, kinds := [], alts := [], laidByText := true, laidKinds := [.data], laidTests := true, laidLooks := .later }
def MachInputUptoCardSaid : Prop := Claim7.holds Tryd.pinned (.plain (OpenSpec.upto machInputSpec)) machInputUptoCard

/-- THE SECOND FORM's CARD OF 'pennantlaw02.MachKnown'. -/
def machKnownUptoCard : Claim7 := { stood := { row := machKnownUptoRow, standIns := [], harness := (true, "4ba2784d00634596352c4b0f8ed0cd9458c6fbafcd50a4b7e8df7abe26f936cc"), looks := false }, kinds := [], alts := [], laidByText := true, laidKinds := [.data], laidTests := true, laidLooks := .later }
def MachKnownUptoCardSaid : Prop := Claim7.holds Tryd.pinned (.plain (OpenSpec.upto machKnownSpec)) machKnownUptoCard
end Rows
end Go.Proofs.YtknnmacmohpanaaDoor
