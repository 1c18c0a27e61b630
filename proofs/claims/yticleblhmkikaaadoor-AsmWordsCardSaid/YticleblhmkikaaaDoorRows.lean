/-
  NARROWER THAN 'FOR EVERY INPUT', by the rows' own cells (each row's printed sentence says how): AsmWords: laid · AsmKnown: laid · AsmLeads: laid · AsmLeast: laid.
  DERIVED. THE GIVEN ROWS OF THIS SEAT. 4 by the template 'for every input the law returns true; each argument reads behind the call as it read before'; 0 by the template 'total and deterministic' (their statements: YticleblhmkikaaaDoorTotals.lean).
  GIVEN WITH THE SEED: the statements are not yours to turn. If you find one false, say at which input.
  Laid BY PROGRAM, IN A SANDBOX (cutbox-rows.mjs): the forced cells as the released guide's own fill.sh prints them over the translation 56609d80f0d1bc63… (all of the seat's roots in one cut). By AI agents, Wed Nov 11 2026. No macro, syntax, notation, axiom, sorry.
-/
import Derived.Test.YticleblhmkikaaaDoorChecked
import GoSem.Claim
import GoSem.ClaimJoined
import GoSem.ClaimMapViews
import Derived.JoinedTies
import Derived.KernelRfl
namespace Go.Proofs.YticleblhmkikaaaDoor
/- THE CELL 'sum', in the pinned program and in every row, IS THE sha256 OF THE DUMP (.gsa) THAT YticleblhmkikaaaDoorProg.lean LOADS. Nothing in Lean hashes anything: it is a label: what it is worth is what the hold of that sum in a sandbox is worth. -/
noncomputable def Tryd.pinned : Pinned := { name := "yticleblhmkikaaadoor", sum := "56609d80f0d1bc633be082ca1523eccf73e4bd9b32d4a3e03366a6637fcf2cd9", checked := Tryd.checked }
namespace Rows
def none {H : Type} : Left H := { results := [], args := [] }

/- WHAT THE LISTED PACKAGE-LEVEL VARIABLES READ AS WHEN THE CALL BEGINS. Each datum BY PROGRAM (the guide's laid-datum.mjs) off the statement by which the dump's own 'gosem.cut.vars' lays the variable. In a bare row this is a premise. The card (YticleblhmkikaaaDoorCards.lean) ties it to the program's text. -/
def laid_pennant_isa_shapes {H : Type} : DataW H := .agg [.agg [.agg [.lit (.bool false), .lit (.bool false), .lit (.bool false)], .lit (.bool false)], .agg [.agg [.lit (.bool true), .lit (.bool true), .lit (.bool true)], .lit (.bool false)], .agg [.agg [.lit (.bool true), .lit (.bool true), .lit (.bool false)], .lit (.bool true)], .agg [.agg [.lit (.bool true), .lit (.bool false), .lit (.bool false)], .lit (.bool true)], .agg [.agg [.lit (.bool false), .lit (.bool true), .lit (.bool true)], .lit (.bool true)], .agg [.agg [.lit (.bool true), .lit (.bool false), .lit (.bool false)], .lit (.bool true)], .agg [.agg [.lit (.bool true), .lit (.bool false), .lit (.bool false)], .lit (.bool false)], .agg [.agg [.lit (.bool false), .lit (.bool true), .lit (.bool false)], .lit (.bool false)]]

/-- 'pennantlaw03.AsmWords': WHATEVER THE INPUT: true; the input reads as it did. -/
def asmWordsSpec : ChangeSpec := { name := "asmWords", fn := fun _ => fun
  | [d1, d2] => { results := [.lit (.bool true)], args := [d1, d2] }
  | _ => none }
def asmWordsRow : OpenClaim := { program := "yticleblhmkikaaadoor", sum := "56609d80f0d1bc633be082ca1523eccf73e4bd9b32d4a3e03366a6637fcf2cd9", func := "pennant/pennantlaw03.AsmWords", spec := "asmWords", unfollowed := true, recurses := true, named := ["pennant/isa.shapes"], apart := false, laid := [("pennant/isa.shapes", laid_pennant_isa_shapes)] }
def AsmWordsSaid : Prop := asmWordsRow.holds Tryd.pinned (OpenSpec.ofChange asmWordsSpec)

/-- ITS FALSE NEIGHBOUR: 'it returns false'. Refute it at one input. -/
def asmWordsWrong : ChangeSpec := { name := "asmWords", fn := fun _ => fun
  | [d1, d2] => { results := [.lit (.bool false)], args := [d1, d2] }
  | _ => none }
def AsmWordsWrongFalsely : Prop := asmWordsRow.holds Tryd.pinned (OpenSpec.ofChange asmWordsWrong)

/-- 'pennantlaw03.AsmKnown': WHATEVER THE INPUT: true; the input reads as it did. -/
def asmKnownSpec : ChangeSpec := { name := "asmKnown", fn := fun _ => fun
  | [] => { results := [.lit (.bool true)], args := [] }
  | _ => none }
def asmKnownRow : OpenClaim := { program := "yticleblhmkikaaadoor", sum := "56609d80f0d1bc633be082ca1523eccf73e4bd9b32d4a3e03366a6637fcf2cd9", func := "pennant/pennantlaw03.AsmKnown", spec := "asmKnown", unfollowed := true, recurses := true, named := ["pennant/isa.shapes"], apart := false, laid := [("pennant/isa.shapes", laid_pennant_isa_shapes)] }
def AsmKnownSaid : Prop := asmKnownRow.holds Tryd.pinned (OpenSpec.ofChange asmKnownSpec)

/-- ITS FALSE NEIGHBOUR: 'it returns false'. Refute it at one input. -/
def asmKnownWrong : ChangeSpec := { name := "asmKnown", fn := fun _ => fun
  | [] => { results := [.lit (.bool false)], args := [] }
  | _ => none }
def AsmKnownWrongFalsely : Prop := asmKnownRow.holds Tryd.pinned (OpenSpec.ofChange asmKnownWrong)

/-- 'pennantlaw03.AsmLeads': WHATEVER THE INPUT: true; the input reads as it did. -/
def asmLeadsSpec : ChangeSpec := { name := "asmLeads", fn := fun _ => fun
  | [d1, d2] => { results := [.lit (.bool true)], args := [d1, d2] }
  | _ => none }
def asmLeadsRow : OpenClaim := { program := "yticleblhmkikaaadoor", sum := "56609d80f0d1bc633be082ca1523eccf73e4bd9b32d4a3e03366a6637fcf2cd9", func := "pennant/pennantlaw03.AsmLeads", spec := "asmLeads", unfollowed := true, recurses := true, named := ["pennant/isa.shapes"], apart := false, laid := [("pennant/isa.shapes", laid_pennant_isa_shapes)] }
def AsmLeadsSaid : Prop := asmLeadsRow.holds Tryd.pinned (OpenSpec.ofChange asmLeadsSpec)

/-- ITS FALSE NEIGHBOUR: 'it returns false'. Refute it at one input. -/
def asmLeadsWrong : ChangeSpec := { name := "asmLeads", fn := fun _ => fun
  | [d1, d2] => { results := [.lit (.bool false)], args := [d1, d2] }
  | _ => none }
def AsmLeadsWrongFalsely : Prop := asmLeadsRow.holds Tryd.pinned (OpenSpec.ofChange asmLeadsWrong)

/-- 'pennantlaw03.AsmLeast': WHATEVER THE INPUT: true; the input reads as it did. -/
def asmLeastSpec : ChangeSpec := { name := "asmLeast", fn := fun _ => fun
  | [d1, d2] => { results := [.lit (.bool true)], args := [d1, d2] }
  | _ => none }
def asmLeastRow : OpenClaim := { program := "yticleblhmkikaaadoor", sum := "56609d80f0d1bc633be082ca1523eccf73e4bd9b32d4a3e03366a6637fcf2cd9", func := "pennant/pennantlaw03.AsmLeast", spec := "asmLeast", unfollowed := true, recurses := true, named := ["pennant/isa.shapes"], apart := false, laid := [("pennant/isa.shapes", laid_pennant_isa_shapes)] }
def AsmLeastSaid : Prop := asmLeastRow.holds Tryd.pinned (OpenSpec.ofChange asmLeastSpec)

/-- ITS FALSE NEIGHBOUR: 'it returns false'. Refute it at one input. -/
def asmLeastWrong : ChangeSpec := { name := "asmLeast", fn := fun _ => fun
  | [d1, d2] => { results := [.lit (.bool false)], args := [d1, d2] }
  | _ => none }
def AsmLeastWrongFalsely : Prop := asmLeastRow.holds Tryd.pinned (OpenSpec.ofChange asmLeastWrong)

/- THE SECOND FORM. 'bulk': how many values and letters a reading holds, each counted each time it is reached (what is shared counts as often as it is met; a slice's spare places count too). A statement '..UptoSaid' is the law's where the arguments, and the package variables that the reading takes, are together of bulk at most 1048576: NARROWER than '..Said'. Prove '..Said' where nothing that the law and all that it calls make is longer than what came in: it says more and counts as full. Else prove '..UptoSaid'. A law counts once. -/
mutual
def uptoBulk {H : Type} : DataW H → Nat
  | .lit (.string bytes) => bytes.length + 1
  | .lit _ => 1
  | .nil => 1
  | .ptr d => uptoBulk d + 1
  | .slice elems spare => uptoBulkAll elems + uptoBulkAll spare + 1
  | .agg parts => uptoBulkAll parts + 1
  | .iface _ d => uptoBulk d + 1
  | .map entries => uptoBulkEntries entries + 1
  | .held _ => 1
def uptoBulkAll {H : Type} : List (DataW H) → Nat
  | [] => 0
  | d :: r => uptoBulk d + uptoBulkAll r
def uptoBulkEntries {H : Type} : List (Lit × DataW H) → Nat
  | [] => 0
  | x :: r => uptoBulkEntry x + uptoBulkEntries r
def uptoBulkEntry {H : Type} : Lit × DataW H → Nat
  | (.string bytes, d) => bytes.length + uptoBulk d + 1
  | (_, d) => uptoBulk d + 1
 end
def uptoSmall : (H : Type) → List (DataW H) → Bool := fun _ ds => decide (uptoBulkAll ds ≤ 1048576)
def OpenSpec.upto (s : _root_.Go.ChangeSpec) : _root_.Go.OpenSpec := { _root_.Go.OpenSpec.ofChange s with cond := some uptoSmall }

/-- 'pennantlaw03.AsmWords', WHERE WHAT IT READS IS OF BULK AT MOST 1048576: true; the input reads as it did. -/
def asmWordsUptoRow : OpenClaim := { program := "yticleblhmkikaaadoor", sum := "56609d80f0d1bc633be082ca1523eccf73e4bd9b32d4a3e03366a6637fcf2cd9", func := "pennant/pennantlaw03.AsmWords", spec := "asmWords", unfollowed := true, recurses := true, named := ["pennant/isa.shapes"], apart := false, laid := [("pennant/isa.shapes", laid_pennant_isa_shapes)], narrowed := true }
def AsmWordsUptoSaid : Prop := asmWordsUptoRow.holds Tryd.pinned (OpenSpec.upto asmWordsSpec)

/-- 'pennantlaw03.AsmKnown', WHERE WHAT IT READS IS OF BULK AT MOST 1048576: true; the input reads as it did. -/
def asmKnownUptoRow : OpenClaim := { program := "yticleblhmkikaaadoor", sum := "56609d80f0d1bc633be082ca1523eccf73e4bd9b32d4a3e03366a6637fcf2cd9", func := "pennant/pennantlaw03.AsmKnown", spec := "asmKnown", unfollowed := true, recurses := true, named := ["pennant/isa.shapes"], apart := false, laid := [("pennant/isa.shapes", laid_pennant_isa_shapes)], narrowed := true }
def AsmKnownUptoSaid : Prop := asmKnownUptoRow.holds Tryd.pinned (OpenSpec.upto asmKnownSpec)

/-- 'pennantlaw03.AsmLeads', WHERE WHAT IT READS IS OF BULK AT MOST 1048576: true; the input reads as it did. -/
def asmLeadsUptoRow : OpenClaim := { program := "yticleblhmkikaaadoor", sum := "56609d80f0d1bc633be082ca1523eccf73e4bd9b32d4a3e03366a6637fcf2cd9", func := "pennant/pennantlaw03.AsmLeads", spec := "asmLeads", unfollowed := true, recurses := true, named := ["pennant/isa.shapes"], apart := false, laid := [("pennant/isa.shapes", laid_pennant_isa_shapes)], narrowed := true }
def AsmLeadsUptoSaid : Prop := asmLeadsUptoRow.holds Tryd.pinned (OpenSpec.upto asmLeadsSpec)

/-- 'pennantlaw03.AsmLeast', WHERE WHAT IT READS IS OF BULK AT MOST 1048576: true; the input reads as it did. -/
def asmLeastUptoRow : OpenClaim := { program := "yticleblhmkikaaadoor", sum := "56609d80f0d1bc633be082ca1523eccf73e4bd9b32d4a3e03366a6637fcf2cd9", func := "pennant/pennantlaw03.AsmLeast", spec := "asmLeast", unfollowed := true, recurses := true, named := ["pennant/isa.shapes"], apart := false, laid := [("pennant/isa.shapes", laid_pennant_isa_shapes)], narrowed := true }
def AsmLeastUptoSaid : Prop := asmLeastUptoRow.holds Tryd.pinned (OpenSpec.upto asmLeastSpec)

end Rows
end Go.Proofs.YticleblhmkikaaaDoor
