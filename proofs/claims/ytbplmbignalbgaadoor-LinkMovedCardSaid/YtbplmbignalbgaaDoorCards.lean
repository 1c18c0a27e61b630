/-
  DERIVED. GIVEN WITH THE SEED: THE CARDS: each row of YtbplmbignalbgaaDoorRows.lean that lists a variable, with what it lists TIED to the program's text (the seventh form; the later family's looks); each row that meets fmt, with fmt's text TOLD by the authors' own Lean function (tested against real Go, not proved from fmt's source: count such statements apart). THE CARD IS WHAT COUNTS. Prove the row's statement (the work); the ties are given (YtbplmbignalbgaaDoorTie.lean); close each card by the builder's one call (the guide's Derived/Test/ToyasCard.lean, 'card_holds'). Laid BY PROGRAM, IN A SANDBOX (cutbox-door.mjs). By AI agents, Wed Nov 11 2026. No macro, syntax, notation, axiom, sorry.
-/
import Derived.Test.YtbplmbignalbgaaDoorRows
import GoSem.ClaimSeven
namespace Go.Proofs.YtbplmbignalbgaaDoor
namespace Rows

/-- THE TIED CARD OF 'pennantlaw04.LinkImages'. -/
def linkImagesCard : Claim7 := { stood := { row := linkImagesRow, standIns := [], harness := (true, "8541fa7dd50b458fce19d5d5b08e9a1807afd56540cdbc28dab96fee6cc60d97"), looks := false }, kinds := [], alts := [], laidByText := true, laidKinds := [.data], laidTests := true, laidLooks := .later }
def LinkImagesCardSaid : Prop := Claim7.holds Tryd.pinned (.plain (OpenSpec.ofChange linkImagesSpec)) linkImagesCard

/-- THE TIED CARD OF 'pennantlaw04.LinkFinds'. -/
def linkFindsCard : Claim7 := { stood := { row := linkFindsRow, standIns := [], harness := (true, "8541fa7dd50b458fce19d5d5b08e9a1807afd56540cdbc28dab96fee6cc60d97"), looks := false }, kinds := [], alts := [], laidByText := true, laidKinds := [.data], laidTests := true, laidLooks := .later }
def LinkFindsCardSaid : Prop := Claim7.holds Tryd.pinned (.plain (OpenSpec.ofChange linkFindsSpec)) linkFindsCard

/-- THE TIED CARD OF 'pennantlaw04.LinkMoved'. -/
def linkMovedCard : Claim7 := { stood := { row := linkMovedRow, standIns := [], harness := (true, "8541fa7dd50b458fce19d5d5b08e9a1807afd56540cdbc28dab96fee6cc60d97"), looks := false }, kinds := [], alts := [], laidByText := true, laidKinds := [.data], laidTests := true, laidLooks := .later }
def LinkMovedCardSaid : Prop := Claim7.holds Tryd.pinned (.plain (OpenSpec.ofChange linkMovedSpec)) linkMovedCard

/-- THE TIED CARD OF 'pennantlaw04.LinkOwn'. -/
def linkOwnCard : Claim7 := { stood := { row := linkOwnRow, standIns := [], harness := (true, "8541fa7dd50b458fce19d5d5b08e9a1807afd56540cdbc28dab96fee6cc60d97"), looks := false }, kinds := [], alts := [], laidByText := true, laidKinds := [.data], laidTests := true, laidLooks := .later }
def LinkOwnCardSaid : Prop := Claim7.holds Tryd.pinned (.plain (OpenSpec.ofChange linkOwnSpec)) linkOwnCard

/-- THE TIED CARD OF 'pennantlaw04.LinkKnown'. -/
def linkKnownCard : Claim7 := { stood := { row := linkKnownRow, standIns := [], harness := (true, "8541fa7dd50b458fce19d5d5b08e9a1807afd56540cdbc28dab96fee6cc60d97"), looks := false }, kinds := [], alts := [], laidByText := true, laidKinds := [.data], laidTests := true, laidLooks := .later }
def LinkKnownCardSaid : Prop := Claim7.holds Tryd.pinned (.plain (OpenSpec.ofChange linkKnownSpec)) linkKnownCard

/-- THE SECOND FORM's CARD OF 'pennantlaw04.LinkImages'. -/
def linkImagesUptoCard : Claim7 := { stood := { row := linkImagesUptoRow, standIns := [], harness := (true, "8541fa7dd50b458fce19d5d5b08e9a1807afd56540cdbc28dab96fee6cc60d97"), looks := false }, kinds := [], alts := [], laidByText := true, laidKinds := [.data], laidTests := true, laidLooks := .later }
def LinkImagesUptoCardSaid : Prop := Claim7.holds Tryd.pinned (.plain (OpenSpec.upto linkImagesSpec)) linkImagesUptoCard

/-- THE SECOND FORM's CARD OF 'pennantlaw04.LinkFinds'. -/
def linkFindsUptoCard : Claim7 := { stood := { row := linkFindsUptoRow, standIns := [], harness := (true, "8541fa7dd50b458fce19d5d5b08e9a1807afd56540cdbc28dab96fee6cc60d97"), looks := false }, kinds := [], alts := [], laidByText := true, laidKinds := [.data], laidTests := true, laidLooks := .later }
def LinkFindsUptoCardSaid : Prop := Claim7.holds Tryd.pinned (.plain (OpenSpec.upto linkFindsSpec)) linkFindsUptoCard

/-- THE SECOND FORM's CARD OF 'pennantlaw04.LinkMoved'. -/
def linkMovedUptoCard : Claim7 := { stood := { row := linkMovedUptoRow, standIns := [], harness := (true, "8541fa7dd50b458fce19d5d5b08e9a1807afd56540cdbc28dab96fee6cc60d97"), looks := false }, kinds := [], alts := [], laidByText := true, laidKinds := [.data], laidTests := true, laidLooks := .later }
def LinkMovedUptoCardSaid : Prop := Claim7.holds Tryd.pinned (.plain (OpenSpec.upto linkMovedSpec)) linkMovedUptoCard

/-- THE SECOND FORM's CARD OF 'pennantlaw04.LinkOwn'. -/
def linkOwnUptoCard : Claim7 := { stood := { row := linkOwnUptoRow, standIns := [], harness := (true, "8541fa7dd50b458fce19d5d5b08e9a1807afd56540cdbc28dab96fee6cc60d97"), looks := false }, kinds := [], alts := [], laidByText := true, laidKinds := [.data], laidTests := true, laidLooks := .later }
def LinkOwnUptoCardSaid : Prop := Claim7.holds Tryd.pinned (.plain (OpenSpec.upto linkOwnSpec)) linkOwnUptoCard

/-- THE SECOND FORM's CARD OF 'pennantlaw04.LinkKnown'. -/
def linkKnownUptoCard : Claim7 := { stood := { row := linkKnownUptoRow, standIns := [], harness := (true, "8541fa7dd50b458fce19d5d5b08e9a1807afd56540cdbc28dab96fee6cc60d97"), looks := false }, kinds := [], alts := [], laidByText := true, laidKinds := [.data], laidTests := true, laidLooks := .later }
def LinkKnownUptoCardSaid : Prop := Claim7.holds Tryd.pinned (.plain (OpenSpec.upto linkKnownSpec)) linkKnownUptoCard
end Rows
end Go.Proofs.YtbplmbignalbgaaDoor
