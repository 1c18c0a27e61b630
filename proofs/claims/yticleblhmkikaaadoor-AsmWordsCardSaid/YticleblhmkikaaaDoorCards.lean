/-
  DERIVED. GIVEN WITH THE SEED: THE CARDS: each row of YticleblhmkikaaaDoorRows.lean that lists a variable, with what it lists TIED to the program's text (the seventh form; the later family's looks); each row that meets fmt, with fmt's text TOLD by the authors' own Lean function (tested against real Go, not proved from fmt's source: count such statements apart). THE CARD IS WHAT COUNTS. Prove the row's statement (the work); the ties are given (YticleblhmkikaaaDoorTie.lean); close each card by the builder's one call (the guide's Derived/Test/ToyasCard.lean, 'card_holds'). Laid BY PROGRAM, IN A SANDBOX (cutbox-door.mjs). By AI agents, Wed Nov 11 2026. No macro, syntax, notation, axiom, sorry.
-/
import Derived.Test.YticleblhmkikaaaDoorRows
import GoSem.ClaimSeven
namespace Go.Proofs.YticleblhmkikaaaDoor
namespace Rows

/-- THE TIED CARD OF 'pennantlaw03.AsmWords'. -/
def asmWordsCard : Claim7 := { stood := { row := asmWordsRow, standIns := [], harness := (true, "78ae58b4a4ad67d3785c75a2a6cf79ecf748985dc3a49d014c3c4c7c2f482f1c"), looks := false }, kinds := [], alts := [], laidByText := true, laidKinds := [.data], laidTests := true, laidLooks := .later }
def AsmWordsCardSaid : Prop := Claim7.holds Tryd.pinned (.plain (OpenSpec.ofChange asmWordsSpec)) asmWordsCard

/-- THE TIED CARD OF 'pennantlaw03.AsmKnown'. -/
def asmKnownCard : Claim7 := { stood := { row := asmKnownRow, standIns := [], harness := (true, "78ae58b4a4ad67d3785c75a2a6cf79ecf748985dc3a49d014c3c4c7c2f482f1c"), looks := false }, kinds := [], alts := [], laidByText := true, laidKinds := [.data], laidTests := true, laidLooks := .later }
def AsmKnownCardSaid : Prop := Claim7.holds Tryd.pinned (.plain (OpenSpec.ofChange asmKnownSpec)) asmKnownCard

/-- THE TIED CARD OF 'pennantlaw03.AsmLeads'. -/
def asmLeadsCard : Claim7 := { stood := { row := asmLeadsRow, standIns := [], harness := (true, "78ae58b4a4ad67d3785c75a2a6cf79ecf748985dc3a49d014c3c4c7c2f482f1c"), looks := false }, kinds := [], alts := [], laidByText := true, laidKinds := [.data], laidTests := true, laidLooks := .later }
def AsmLeadsCardSaid : Prop := Claim7.holds Tryd.pinned (.plain (OpenSpec.ofChange asmLeadsSpec)) asmLeadsCard

/-- THE TIED CARD OF 'pennantlaw03.AsmLeast'. -/
def asmLeastCard : Claim7 := { stood := { row := asmLeastRow, standIns := [], harness := (true, "78ae58b4a4ad67d3785c75a2a6cf79ecf748985dc3a49d014c3c4c7c2f482f1c"), looks := false }, kinds := [], alts := [], laidByText := true, laidKinds := [.data], laidTests := true, laidLooks := .later }
def AsmLeastCardSaid : Prop := Claim7.holds Tryd.pinned (.plain (OpenSpec.ofChange asmLeastSpec)) asmLeastCard

/-- THE SECOND FORM's CARD OF 'pennantlaw03.AsmWords'. -/
def asmWordsUptoCard : Claim7 := { stood := { row := asmWordsUptoRow, standIns := [], harness := (true, "78ae58b4a4ad67d3785c75a2a6cf79ecf748985dc3a49d014c3c4c7c2f482f1c"), looks := false }, kinds := [], alts := [], laidByText := true, laidKinds := [.data], laidTests := true, laidLooks := .later }
def AsmWordsUptoCardSaid : Prop := Claim7.holds Tryd.pinned (.plain (OpenSpec.upto asmWordsSpec)) asmWordsUptoCard

/-- THE SECOND FORM's CARD OF 'pennantlaw03.AsmKnown'. -/
def asmKnownUptoCard : Claim7 := { stood := { row := asmKnownUptoRow, standIns := [], harness := (true, "78ae58b4a4ad67d3785c75a2a6cf79ecf748985dc3a49d014c3c4c7c2f482f1c"), looks := false }, kinds := [], alts := [], laidByText := true, laidKinds := [.data], laidTests := true, laidLooks := .later }
def AsmKnownUptoCardSaid : Prop := Claim7.holds Tryd.pinned (.plain (OpenSpec.upto asmKnownSpec)) asmKnownUptoCard

/-- THE SECOND FORM's CARD OF 'pennantlaw03.AsmLeads'. -/
def asmLeadsUptoCard : Claim7 := { stood := { row := asmLeadsUptoRow, standIns := [], harness := (true, "78ae58b4a4ad67d3785c75a2a6cf79ecf748985dc3a49d014c3c4c7c2f482f1c"), looks := false }, kinds := [], alts := [], laidByText := true, laidKinds := [.data], laidTests := true, laidLooks := .later }
def AsmLeadsUptoCardSaid : Prop := Claim7.holds Tryd.pinned (.plain (OpenSpec.upto asmLeadsSpec)) asmLeadsUptoCard

/-- THE SECOND FORM's CARD OF 'pennantlaw03.AsmLeast'. -/
def asmLeastUptoCard : Claim7 := { stood := { row := asmLeastUptoRow, standIns := [], harness := (true, "78ae58b4a4ad67d3785c75a2a6cf79ecf748985dc3a49d014c3c4c7c2f482f1c"), looks := false }, kinds := [], alts := [], laidByText := true, laidKinds := [.data], laidTests := true, laidLooks := .later }
def AsmLeastUptoCardSaid : Prop := Claim7.holds Tryd.pinned (.plain (OpenSpec.upto asmLeastSpec)) asmLeastUptoCard
end Rows
end Go.Proofs.YticleblhmkikaaaDoor
