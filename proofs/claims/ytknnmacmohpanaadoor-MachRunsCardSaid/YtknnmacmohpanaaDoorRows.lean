/-
  NARROWER THAN 'FOR EVERY INPUT', by the rows' own cells (each row's printed sentence says how): MachSteps: laid · MachRuns: laid · MachParts: laid · MachInput: laid · MachKnown: laid.
  DERIVED. THE GIVEN ROWS OF THIS SEAT. 5 by the template 'for every input the law returns true; each argument reads behind the call as it read before'; 0 by the template 'total and deterministic' (their statements: YtknnmacmohpanaaDoorTotals.lean).
  GIVEN WITH THE SEED: the statements are not yours to turn. If you find one false, say at which input.
  Laid BY PROGRAM, IN A SANDBOX (cutbox-rows.mjs): the forced cells as the released guide's own fill.sh prints them over the translation d11a6bfae805ce21… (all of the seat's roots in one cut). By AI agents, Wed Nov 11 2026. No macro, syntax, notation, axiom, sorry.
-/
import Derived.Test.YtknnmacmohpanaaDoorChecked
import GoSem.Claim
import GoSem.ClaimJoined
import GoSem.ClaimMapViews
import Derived.JoinedTies
import Derived.KernelRfl
namespace Go.Proofs.YtknnmacmohpanaaDoor
/- THE CELL 'sum', in the pinned program and in every row, IS THE sha256 OF THE DUMP (.gsa) THAT YtknnmacmohpanaaDoorProg.lean LOADS. Nothing in Lean hashes anything: it is a label: what it is worth is what the hold of that sum in a sandbox is worth. -/
noncomputable def Tryd.pinned : Pinned := { name := "ytknnmacmohpanaadoor", sum := "d11a6bfae805ce2186d3e48962f5b47913983b7a0f967ce0b27124b6547b29ab", checked := Tryd.checked }
namespace Rows
def none {H : Type} : Left H := { results := [], args := [] }

/- WHAT THE LISTED PACKAGE-LEVEL VARIABLES READ AS WHEN THE CALL BEGINS. Each datum BY PROGRAM (the guide's laid-datum.mjs) off the statement by which the dump's own 'gosem.cut.vars' lays the variable. In a bare row this is a premise. The card (YtknnmacmohpanaaDoorCards.lean) ties it to the program's text. -/
def laid_pennant_isa_shapes {H : Type} : DataW H := .agg [.agg [.agg [.lit (.bool false), .lit (.bool false), .lit (.bool false)], .lit (.bool false)], .agg [.agg [.lit (.bool true), .lit (.bool true), .lit (.bool true)], .lit (.bool false)], .agg [.agg [.lit (.bool true), .lit (.bool true), .lit (.bool false)], .lit (.bool true)], .agg [.agg [.lit (.bool true), .lit (.bool false), .lit (.bool false)], .lit (.bool true)], .agg [.agg [.lit (.bool false), .lit (.bool true), .lit (.bool true)], .lit (.bool true)], .agg [.agg [.lit (.bool true), .lit (.bool false), .lit (.bool false)], .lit (.bool true)], .agg [.agg [.lit (.bool true), .lit (.bool false), .lit (.bool false)], .lit (.bool false)], .agg [.agg [.lit (.bool false), .lit (.bool true), .lit (.bool false)], .lit (.bool false)]]

/-- 'pennantlaw02.MachSteps': WHATEVER THE INPUT: true; the input reads as it did. -/
def machStepsSpec : ChangeSpec := { name := "machSteps", fn := fun _ => fun
  | [d1, d2] => { results := [.lit (.bool true)], args := [d1, d2] }
  | _ => none }
def machStepsRow : OpenClaim := { program := "ytknnmacmohpanaadoor", sum := "d11a6bfae805ce2186d3e48962f5b47913983b7a0f967ce0b27124b6547b29ab", func := "pennant/pennantlaw02.MachSteps", spec := "machSteps", unfollowed := true, recurses := true, named := ["pennant/isa.shapes"], apart := false, laid := [("pennant/isa.shapes", laid_pennant_isa_shapes)] }
def MachStepsSaid : Prop := machStepsRow.holds Tryd.pinned (OpenSpec.ofChange machStepsSpec)

/-- ITS FALSE NEIGHBOUR: 'it returns false'. Refute it at one input. -/
def machStepsWrong : ChangeSpec := { name := "machSteps", fn := fun _ => fun
  | [d1, d2] => { results := [.lit (.bool false)], args := [d1, d2] }
  | _ => none }
def MachStepsWrongFalsely : Prop := machStepsRow.holds Tryd.pinned (OpenSpec.ofChange machStepsWrong)

/-- 'pennantlaw02.MachRuns': WHATEVER THE INPUT: true; the input reads as it did. -/
def machRunsSpec : ChangeSpec := { name := "machRuns", fn := fun _ => fun
  | [d1, d2, d3] => { results := [.lit (.bool true)], args := [d1, d2, d3] }
  | _ => none }
def machRunsRow : OpenClaim := { program := "ytknnmacmohpanaadoor", sum := "d11a6bfae805ce2186d3e48962f5b47913983b7a0f967ce0b27124b6547b29ab", func := "pennant/pennantlaw02.MachRuns", spec := "machRuns", unfollowed := true, recurses := true, named := ["pennant/isa.shapes"], apart := false, laid := [("pennant/isa.shapes", laid_pennant_isa_shapes)] }
def MachRunsSaid : Prop := machRunsRow.holds Tryd.pinned (OpenSpec.ofChange machRunsSpec)

/-- ITS FALSE NEIGHBOUR: 'it returns false'. Refute it at one input. -/
def machRunsWrong : ChangeSpec := { name := "machRuns", fn := fun _ => fun
  | [d1, d2, d3] => { results := [.lit (.bool false)], args := [d1, d2, d3] }
  | _ => none }
def MachRunsWrongFalsely : Prop := machRunsRow.holds Tryd.pinned (OpenSpec.ofChange machRunsWrong)

/-- 'pennantlaw02.MachParts': WHATEVER THE INPUT: true; the input reads as it did. -/
def machPartsSpec : ChangeSpec := { name := "machParts", fn := fun _ => fun
  | [d1, d2, d3] => { results := [.lit (.bool true)], args := [d1, d2, d3] }
  | _ => none }
def machPartsRow : OpenClaim := { program := "ytknnmacmohpanaadoor", sum := "d11a6bfae805ce2186d3e48962f5b47913983b7a0f967ce0b27124b6547b29ab", func := "pennant/pennantlaw02.MachParts", spec := "machParts", unfollowed := true, recurses := true, named := ["pennant/isa.shapes"], apart := false, laid := [("pennant/isa.shapes", laid_pennant_isa_shapes)] }
def MachPartsSaid : Prop := machPartsRow.holds Tryd.pinned (OpenSpec.ofChange machPartsSpec)

/-- ITS FALSE NEIGHBOUR: 'it returns false'. Refute it at one input. -/
def machPartsWrong : ChangeSpec := { name := "machParts", fn := fun _ => fun
  | [d1, d2, d3] => { results := [.lit (.bool false)], args := [d1, d2, d3] }
  | _ => none }
def MachPartsWrongFalsely : Prop := machPartsRow.holds Tryd.pinned (OpenSpec.ofChange machPartsWrong)

/-- 'pennantlaw02.MachInput': WHATEVER THE INPUT: true; the input reads as it did. -/
def machInputSpec : ChangeSpec := { name := "machInput", fn := fun _ => fun
  | [d1, d2, d3] => { results := [.lit (.bool true)], args := [d1, d2, d3] }
  | _ => none }
def machInputRow : OpenClaim := { program := "ytknnmacmohpanaadoor", sum := "d11a6bfae805ce2186d3e48962f5b47913983b7a0f967ce0b27124b6547b29ab", func := "pennant/pennantlaw02.MachInput", spec := "machInput", unfollowed := true, recurses := true, named := ["pennant/isa.shapes"], apart := false, laid := [("pennant/isa.shapes", laid_pennant_isa_shapes)] }
def MachInputSaid : Prop := machInputRow.holds Tryd.pinned (OpenSpec.ofChange machInputSpec)

/-- ITS FALSE NEIGHBOUR: 'it returns false'. Refute it at one input. -/
def machInputWrong : ChangeSpec := { name := "machInput", fn := fun _ => fun
  | [d1, d2, d3] => { results := [.lit (.bool false)], args := [d1, d2, d3] }
  | _ => none }
def MachInputWrongFalsely : Prop := machInputRow.holds Tryd.pinned (OpenSpec.ofChange machInputWrong)

/-- 'pennantlaw02.MachKnown': WHATEVER THE INPUT: true; the input reads as it did. -/
def machKnownSpec : ChangeSpec := { name := "machKnown", fn := fun _ => fun
  | [] => { results := [.lit (.bool true)], args := [] }
  | _ => none }
def machKnownRow : OpenClaim := { program := "ytknnmacmohpanaadoor", sum := "d11a6bfae805ce2186d3e48962f5b47913983b7a0f967ce0b27124b6547b29ab", func := "pennant/pennantlaw02.MachKnown", spec := "machKnown", unfollowed := true, recurses := true, named := ["pennant/isa.shapes"], apart := false, laid := [("pennant/isa.shapes", laid_pennant_isa_shapes)] }
def MachKnownSaid : Prop := machKnownRow.holds Tryd.pinned (OpenSpec.ofChange machKnownSpec)

/-- ITS FALSE NEIGHBOUR: 'it returns false'. Refute it at one input. -/
def machKnownWrong : ChangeSpec := { name := "machKnown", fn := fun _ => fun
  | [] => { results := [.lit (.bool false)], args := [] }
  | _ => none }
def MachKnownWrongFalsely : Prop := machKnownRow.holds Tryd.pinned (OpenSpec.ofChange machKnownWrong)

/- THE SECOND FORM. 'bulk': how many values and letters a reading holds, each counted each time it is reached (what is shared counts as often as it is met; a slice's spare places count too). A statement '..UptoSaid' is the law's where the arguments, and the package variables that the reading takes, are together of bulk at most 1048576: NARROWER than '..Said'. Prove '..Said' where nothing that the law and all that it calls make is longer than what came in: it says more and counts as full. Else prove '..UptoSaid'. A law counts once. -/
mutual
def uptoBulk {H : Type} : DataW H → Nat
  | .lit (.string bytes) => bytes.length + 1
  | .lit _ => 1
  | .nil => 1
  | .ptr d => uptoBulk d + 1
  | .slice elems spare => uptoBulkAll elems + uptoBulkAll spare + 1
  | .agg parts => uptoBulkAll parts + 1
  | .iface _ d => uptoBulk d + 1
  | .map entries => uptoBulkEntries entries + 1
  | .held _ => 1
def uptoBulkAll {H : Type} : List (DataW H) → Nat
  | [] => 0
  | d :: r => uptoBulk d + uptoBulkAll r
def uptoBulkEntries {H : Type} : List (Lit × DataW H) → Nat
  | [] => 0
  | x :: r => uptoBulkEntry x + uptoBulkEntries r
def uptoBulkEntry {H : Type} : Lit × DataW H → Nat
  | (.string bytes, d) => bytes.length + uptoBulk d + 1
  | (_, d) => uptoBulk d + 1
 end
def uptoSmall : (H : Type) → List (DataW H) → Bool := fun _ ds => decide (uptoBulkAll ds ≤ 1048576)
def OpenSpec.upto (s : _root_.Go.ChangeSpec) : _root_.Go.OpenSpec := { _root_.Go.OpenSpec.ofChange s with cond := some uptoSmall }

/-- 'pennantlaw02.MachSteps', WHERE WHAT IT READS IS OF BULK AT MOST 1048576: true; the input reads as it did. -/
def machStepsUptoRow : OpenClaim := { program := "ytknnmacmohpanaadoor", sum := "d11a6bfae805ce2186d3e48962f5b47913983b7a0f967ce0b27124b6547b29ab", func := "pennant/pennantlaw02.MachSteps", spec := "machSteps", unfollowed := true, recurses := true, named := ["pennant/isa.shapes"], apart := false, laid := [("pennant/isa.shapes", laid_pennant_isa_shapes)], narrowed := true }
def MachStepsUptoSaid : Prop := machStepsUptoRow.holds Tryd.pinned (OpenSpec.upto machStepsSpec)

/-- 'pennantlaw02.MachRuns', WHERE WHAT IT READS IS OF BULK AT MOST 1048576: true; the input reads as it did. -/
def machRunsUptoRow : OpenClaim := { program := "ytknnmacmohpanaadoor", sum := "d11a6bfae805ce2186d3e48962f5b47913983b7a0f967ce0b27124b6547b29ab", func := "pennant/pennantlaw02.MachRuns", spec := "machRuns", unfollowed := true, recurses := true, named := ["pennant/isa.shapes"], apart := false, laid := [("pennant/isa.shapes", laid_pennant_isa_shapes)], narrowed := true }
def MachRunsUptoSaid : Prop := machRunsUptoRow.holds Tryd.pinned (OpenSpec.upto machRunsSpec)

/-- 'pennantlaw02.MachParts', WHERE WHAT IT READS IS OF BULK AT MOST 1048576: true; the input reads as it did. -/
def machPartsUptoRow : OpenClaim := { program := "ytknnmacmohpanaadoor", sum := "d11a6bfae805ce2186d3e48962f5b47913983b7a0f967ce0b27124b6547b29ab", func := "pennant/pennantlaw02.MachParts", spec := "machParts", unfollowed := true, recurses := true, named := ["pennant/isa.shapes"], apart := false, laid := [("pennant/isa.shapes", laid_pennant_isa_shapes)], narrowed := true }
def MachPartsUptoSaid : Prop := machPartsUptoRow.holds Tryd.pinned (OpenSpec.upto machPartsSpec)

/-- 'pennantlaw02.MachInput', WHERE WHAT IT READS IS OF BULK AT MOST 1048576: true; the input reads as it did. -/
def machInputUptoRow : OpenClaim := { program := "ytknnmacmohpanaadoor", sum := "d11a6bfae805ce2186d3e48962f5b47913983b7a0f967ce0b27124b6547b29ab", func := "pennant/pennantlaw02.MachInput", spec := "machInput", unfollowed := true, recurses := true, named := ["pennant/isa.shapes"], apart := false, laid := [("pennant/isa.shapes", laid_pennant_isa_shapes)], narrowed := true }
def MachInputUptoSaid : Prop := machInputUptoRow.holds Tryd.pinned (OpenSpec.upto machInputSpec)

/-- 'pennantlaw02.MachKnown', WHERE WHAT IT READS IS OF BULK AT MOST 1048576: true; the input reads as it did. -/
def machKnownUptoRow : OpenClaim := { program := "ytknnmacmohpanaadoor", sum := "d11a6bfae805ce2186d3e48962f5b47913983b7a0f967ce0b27124b6547b29ab", func := "pennant/pennantlaw02.MachKnown", spec := "machKnown", unfollowed := true, recurses := true, named := ["pennant/isa.shapes"], apart := false, laid := [("pennant/isa.shapes", laid_pennant_isa_shapes)], narrowed := true }
def MachKnownUptoSaid : Prop := machKnownUptoRow.holds Tryd.pinned (OpenSpec.upto machKnownSpec)

end Rows
end Go.Proofs.YtknnmacmohpanaaDoor
