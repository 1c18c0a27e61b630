/-
  NARROWER THAN 'FOR EVERY INPUT', by the rows' own cells (each row's printed sentence says how): LinkImages: laid · LinkFinds: laid · LinkMoved: laid · LinkOwn: laid · LinkKnown: laid.
  DERIVED. THE GIVEN ROWS OF THIS SEAT. 5 by the template 'for every input the law returns true; each argument reads behind the call as it read before'; 0 by the template 'total and deterministic' (their statements: YtbplmbignalbgaaDoorTotals.lean).
  GIVEN WITH THE SEED: the statements are not yours to turn. If you find one false, say at which input.
  Laid BY PROGRAM, IN A SANDBOX (cutbox-rows.mjs): the forced cells as the released guide's own fill.sh prints them over the translation 45bf07466410c832… (all of the seat's roots in one cut). By AI agents, Wed Nov 11 2026. No macro, syntax, notation, axiom, sorry.
-/
import Derived.Test.YtbplmbignalbgaaDoorChecked
import GoSem.Claim
import GoSem.ClaimJoined
import GoSem.ClaimMapViews
import Derived.JoinedTies
import Derived.KernelRfl
namespace Go.Proofs.YtbplmbignalbgaaDoor
/- THE CELL 'sum', in the pinned program and in every row, IS THE sha256 OF THE DUMP (.gsa) THAT YtbplmbignalbgaaDoorProg.lean LOADS. Nothing in Lean hashes anything: it is a label: what it is worth is what the hold of that sum in a sandbox is worth. -/
noncomputable def Tryd.pinned : Pinned := { name := "ytbplmbignalbgaadoor", sum := "45bf07466410c83230165452173173a03c8305076db5bfcecb4d93cd0882fc74", checked := Tryd.checked }
namespace Rows
def none {H : Type} : Left H := { results := [], args := [] }

/- WHAT THE LISTED PACKAGE-LEVEL VARIABLES READ AS WHEN THE CALL BEGINS. Each datum BY PROGRAM (the guide's laid-datum.mjs) off the statement by which the dump's own 'gosem.cut.vars' lays the variable. In a bare row this is a premise. The card (YtbplmbignalbgaaDoorCards.lean) ties it to the program's text. -/
def laid_pennant_isa_shapes {H : Type} : DataW H := .agg [.agg [.agg [.lit (.bool false), .lit (.bool false), .lit (.bool false)], .lit (.bool false)], .agg [.agg [.lit (.bool true), .lit (.bool true), .lit (.bool true)], .lit (.bool false)], .agg [.agg [.lit (.bool true), .lit (.bool true), .lit (.bool false)], .lit (.bool true)], .agg [.agg [.lit (.bool true), .lit (.bool false), .lit (.bool false)], .lit (.bool true)], .agg [.agg [.lit (.bool false), .lit (.bool true), .lit (.bool true)], .lit (.bool true)], .agg [.agg [.lit (.bool true), .lit (.bool false), .lit (.bool false)], .lit (.bool true)], .agg [.agg [.lit (.bool true), .lit (.bool false), .lit (.bool false)], .lit (.bool false)], .agg [.agg [.lit (.bool false), .lit (.bool true), .lit (.bool false)], .lit (.bool false)]]

/-- 'pennantlaw04.LinkImages': WHATEVER THE INPUT: true; the input reads as it did. -/
def linkImagesSpec : ChangeSpec := { name := "linkImages", fn := fun _ => fun
  | [d1, d2] => { results := [.lit (.bool true)], args := [d1, d2] }
  | _ => none }
def linkImagesRow : OpenClaim := { program := "ytbplmbignalbgaadoor", sum := "45bf07466410c83230165452173173a03c8305076db5bfcecb4d93cd0882fc74", func := "pennant/pennantlaw04.LinkImages", spec := "linkImages", unfollowed := true, recurses := true, named := ["pennant/isa.shapes"], apart := false, laid := [("pennant/isa.shapes", laid_pennant_isa_shapes)] }
def LinkImagesSaid : Prop := linkImagesRow.holds Tryd.pinned (OpenSpec.ofChange linkImagesSpec)

/-- ITS FALSE NEIGHBOUR: 'it returns false'. Refute it at one input. -/
def linkImagesWrong : ChangeSpec := { name := "linkImages", fn := fun _ => fun
  | [d1, d2] => { results := [.lit (.bool false)], args := [d1, d2] }
  | _ => none }
def LinkImagesWrongFalsely : Prop := linkImagesRow.holds Tryd.pinned (OpenSpec.ofChange linkImagesWrong)

/-- 'pennantlaw04.LinkFinds': WHATEVER THE INPUT: true; the input reads as it did. -/
def linkFindsSpec : ChangeSpec := { name := "linkFinds", fn := fun _ => fun
  | [d1, d2, d3] => { results := [.lit (.bool true)], args := [d1, d2, d3] }
  | _ => none }
def linkFindsRow : OpenClaim := { program := "ytbplmbignalbgaadoor", sum := "45bf07466410c83230165452173173a03c8305076db5bfcecb4d93cd0882fc74", func := "pennant/pennantlaw04.LinkFinds", spec := "linkFinds", unfollowed := true, recurses := true, named := ["pennant/isa.shapes"], apart := false, laid := [("pennant/isa.shapes", laid_pennant_isa_shapes)] }
def LinkFindsSaid : Prop := linkFindsRow.holds Tryd.pinned (OpenSpec.ofChange linkFindsSpec)

/-- ITS FALSE NEIGHBOUR: 'it returns false'. Refute it at one input. -/
def linkFindsWrong : ChangeSpec := { name := "linkFinds", fn := fun _ => fun
  | [d1, d2, d3] => { results := [.lit (.bool false)], args := [d1, d2, d3] }
  | _ => none }
def LinkFindsWrongFalsely : Prop := linkFindsRow.holds Tryd.pinned (OpenSpec.ofChange linkFindsWrong)

/-- 'pennantlaw04.LinkMoved': WHATEVER THE INPUT: true; the input reads as it did. -/
def linkMovedSpec : ChangeSpec := { name := "linkMoved", fn := fun _ => fun
  | [d1, d2, d3] => { results := [.lit (.bool true)], args := [d1, d2, d3] }
  | _ => none }
def linkMovedRow : OpenClaim := { program := "ytbplmbignalbgaadoor", sum := "45bf07466410c83230165452173173a03c8305076db5bfcecb4d93cd0882fc74", func := "pennant/pennantlaw04.LinkMoved", spec := "linkMoved", unfollowed := true, recurses := true, named := ["pennant/isa.shapes"], apart := false, laid := [("pennant/isa.shapes", laid_pennant_isa_shapes)] }
def LinkMovedSaid : Prop := linkMovedRow.holds Tryd.pinned (OpenSpec.ofChange linkMovedSpec)

/-- ITS FALSE NEIGHBOUR: 'it returns false'. Refute it at one input. -/
def linkMovedWrong : ChangeSpec := { name := "linkMoved", fn := fun _ => fun
  | [d1, d2, d3] => { results := [.lit (.bool false)], args := [d1, d2, d3] }
  | _ => none }
def LinkMovedWrongFalsely : Prop := linkMovedRow.holds Tryd.pinned (OpenSpec.ofChange linkMovedWrong)

/-- 'pennantlaw04.LinkOwn': WHATEVER THE INPUT: true; the input reads as it did. -/
def linkOwnSpec : ChangeSpec := { name := "linkOwn", fn := fun _ => fun
  | [d1, d2] => { results := [.lit (.bool true)], args := [d1, d2] }
  | _ => none }
def linkOwnRow : OpenClaim := { program := "ytbplmbignalbgaadoor", sum := "45bf07466410c83230165452173173a03c8305076db5bfcecb4d93cd0882fc74", func := "pennant/pennantlaw04.LinkOwn", spec := "linkOwn", unfollowed := true, recurses := true, named := ["pennant/isa.shapes"], apart := false, laid := [("pennant/isa.shapes", laid_pennant_isa_shapes)] }
def LinkOwnSaid : Prop := linkOwnRow.holds Tryd.pinned (OpenSpec.ofChange linkOwnSpec)

/-- ITS FALSE NEIGHBOUR: 'it returns false'. Refute it at one input. -/
def linkOwnWrong : ChangeSpec := { name := "linkOwn", fn := fun _ => fun
  | [d1, d2] => { results := [.lit (.bool false)], args := [d1, d2] }
  | _ => none }
def LinkOwnWrongFalsely : Prop := linkOwnRow.holds Tryd.pinned (OpenSpec.ofChange linkOwnWrong)

/-- 'pennantlaw04.LinkKnown': WHATEVER THE INPUT: true; the input reads as it did. -/
def linkKnownSpec : ChangeSpec := { name := "linkKnown", fn := fun _ => fun
  | [] => { results := [.lit (.bool true)], args := [] }
  | _ => none }
def linkKnownRow : OpenClaim := { program := "ytbplmbignalbgaadoor", sum := "45bf07466410c83230165452173173a03c8305076db5bfcecb4d93cd0882fc74", func := "pennant/pennantlaw04.LinkKnown", spec := "linkKnown", unfollowed := true, recurses := true, named := ["pennant/isa.shapes"], apart := false, laid := [("pennant/isa.shapes", laid_pennant_isa_shapes)] }
def LinkKnownSaid : Prop := linkKnownRow.holds Tryd.pinned (OpenSpec.ofChange linkKnownSpec)

/-- ITS FALSE NEIGHBOUR: 'it returns false'. Refute it at one input. -/
def linkKnownWrong : ChangeSpec := { name := "linkKnown", fn := fun _ => fun
  | [] => { results := [.lit (.bool false)], args := [] }
  | _ => none }
def LinkKnownWrongFalsely : Prop := linkKnownRow.holds Tryd.pinned (OpenSpec.ofChange linkKnownWrong)

/- THE SECOND FORM. 'bulk': how many values and letters a reading holds, each counted each time it is reached (what is shared counts as often as it is met; a slice's spare places count too). A statement '..UptoSaid' is the law's where the arguments, and the package variables that the reading takes, are together of bulk at most 1048576: NARROWER than '..Said'. Prove '..Said' where nothing that the law and all that it calls make is longer than what came in: it says more and counts as full. Else prove '..UptoSaid'. A law counts once. -/
mutual
def uptoBulk {H : Type} : DataW H → Nat
  | .lit (.string bytes) => bytes.length + 1
  | .lit _ => 1
  | .nil => 1
  | .ptr d => uptoBulk d + 1
  | .slice elems spare => uptoBulkAll elems + uptoBulkAll spare + 1
  | .agg parts => uptoBulkAll parts + 1
  | .iface _ d => uptoBulk d + 1
  | .map entries => uptoBulkEntries entries + 1
  | .held _ => 1
def uptoBulkAll {H : Type} : List (DataW H) → Nat
  | [] => 0
  | d :: r => uptoBulk d + uptoBulkAll r
def uptoBulkEntries {H : Type} : List (Lit × DataW H) → Nat
  | [] => 0
  | x :: r => uptoBulkEntry x + uptoBulkEntries r
def uptoBulkEntry {H : Type} : Lit × DataW H → Nat
  | (.string bytes, d) => bytes.length + uptoBulk d + 1
  | (_, d) => uptoBulk d + 1
 end
def uptoSmall : (H : Type) → List (DataW H) → Bool := fun _ ds => decide (uptoBulkAll ds ≤ 1048576)
def OpenSpec.upto (s : _root_.Go.ChangeSpec) : _root_.Go.OpenSpec := { _root_.Go.OpenSpec.ofChange s with cond := some uptoSmall }

/-- 'pennantlaw04.LinkImages', WHERE WHAT IT READS IS OF BULK AT MOST 1048576: true; the input reads as it did. -/
def linkImagesUptoRow : OpenClaim := { program := "ytbplmbignalbgaadoor", sum := "45bf07466410c83230165452173173a03c8305076db5bfcecb4d93cd0882fc74", func := "pennant/pennantlaw04.LinkImages", spec := "linkImages", unfollowed := true, recurses := true, named := ["pennant/isa.shapes"], apart := false, laid := [("pennant/isa.shapes", laid_pennant_isa_shapes)], narrowed := true }
def LinkImagesUptoSaid : Prop := linkImagesUptoRow.holds Tryd.pinned (OpenSpec.upto linkImagesSpec)

/-- 'pennantlaw04.LinkFinds', WHERE WHAT IT READS IS OF BULK AT MOST 1048576: true; the input reads as it did. -/
def linkFindsUptoRow : OpenClaim := { program := "ytbplmbignalbgaadoor", sum := "45bf07466410c83230165452173173a03c8305076db5bfcecb4d93cd0882fc74", func := "pennant/pennantlaw04.LinkFinds", spec := "linkFinds", unfollowed := true, recurses := true, named := ["pennant/isa.shapes"], apart := false, laid := [("pennant/isa.shapes", laid_pennant_isa_shapes)], narrowed := true }
def LinkFindsUptoSaid : Prop := linkFindsUptoRow.holds Tryd.pinned (OpenSpec.upto linkFindsSpec)

/-- 'pennantlaw04.LinkMoved', WHERE WHAT IT READS IS OF BULK AT MOST 1048576: true; the input reads as it did. -/
def linkMovedUptoRow : OpenClaim := { program := "ytbplmbignalbgaadoor", sum := "45bf07466410c83230165452173173a03c8305076db5bfcecb4d93cd0882fc74", func := "pennant/pennantlaw04.LinkMoved", spec := "linkMoved", unfollowed := true, recurses := true, named := ["pennant/isa.shapes"], apart := false, laid := [("pennant/isa.shapes", laid_pennant_isa_shapes)], narrowed := true }
def LinkMovedUptoSaid : Prop := linkMovedUptoRow.holds Tryd.pinned (OpenSpec.upto linkMovedSpec)

/-- 'pennantlaw04.LinkOwn', WHERE WHAT IT READS IS OF BULK AT MOST 1048576: true; the input reads as it did. -/
def linkOwnUptoRow : OpenClaim := { program := "ytbplmbignalbgaadoor", sum := "45bf07466410c83230165452173173a03c8305076db5bfcecb4d93cd0882fc74", func := "pennant/pennantlaw04.LinkOwn", spec := "linkOwn", unfollowed := true, recurses := true, named := ["pennant/isa.shapes"], apart := false, laid := [("pennant/isa.shapes", laid_pennant_isa_shapes)], narrowed := true }
def LinkOwnUptoSaid : Prop := linkOwnUptoRow.holds Tryd.pinned (OpenSpec.upto linkOwnSpec)

/-- 'pennantlaw04.LinkKnown', WHERE WHAT IT READS IS OF BULK AT MOST 1048576: true; the input reads as it did. -/
def linkKnownUptoRow : OpenClaim := { program := "ytbplmbignalbgaadoor", sum := "45bf07466410c83230165452173173a03c8305076db5bfcecb4d93cd0882fc74", func := "pennant/pennantlaw04.LinkKnown", spec := "linkKnown", unfollowed := true, recurses := true, named := ["pennant/isa.shapes"], apart := false, laid := [("pennant/isa.shapes", laid_pennant_isa_shapes)], narrowed := true }
def LinkKnownUptoSaid : Prop := linkKnownUptoRow.holds Tryd.pinned (OpenSpec.upto linkKnownSpec)

end Rows
end Go.Proofs.YtbplmbignalbgaaDoor
