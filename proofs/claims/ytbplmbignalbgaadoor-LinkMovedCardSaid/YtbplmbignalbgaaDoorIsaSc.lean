/- Plain arithmetic: the fields of a word. Conditions: none. -/
import Derived.Test.YtbplmbignalbgaaDoorIsaSb
namespace Go.Proofs.YtbplmbignalbgaaDoor
namespace Isa

def dOp (w : Int) : Int := w / 67108864
def dD (s0 : Bool) (w : Int) : Int := if s0 then w / 2097152 % 32 else 0
def dA (s0 s1 : Bool) (w : Int) : Int := if s1 then (if s0 then w / 65536 % 32 else w / 2097152 % 32) else 0
def dB (s0 s1 s2 : Bool) (w : Int) : Int := if s2 then (if s0 && s1 then w / 2048 % 32 else w / 65536 % 32) else 0
def dSize (s0 s1 s2 : Bool) : Int :=
  match s0, s1, s2 with
  | true, true, true => 2048
  | true, true, false => 65536
  | true, false, true => 65536
  | false, true, true => 65536
  | false, false, false => 67108864
  | _, _, _ => 2097152
def dRaw (op size w : Int) : Int := if low op < 0 ∧ high op < w % size then w % size - size else w % size
def sh (w : Int) (j : Nat) : Bool := shape (form (dOp w)) j
/-- The fields of a word. -/
def fD (w : Int) : Int := dD (sh w 0) w
def fA (w : Int) : Int := dA (sh w 0) (sh w 1) w
def fB (w : Int) : Int := dB (sh w 0) (sh w 1) (sh w 2) w
def fImm (w : Int) : Int := dRaw (dOp w) (dSize (sh w 0) (sh w 1) (sh w 2)) w
def dOk (w : Int) : Bool := ok (dOp w) (fD w) (fA w) (fB w) (fImm w)

/-- The combinations that there are. -/
theorem shapes_of (f : Nat) : (shape f 0, shape f 1, shape f 2) ∈ [(true, true, true), (true, true, false), (true, false, false), (false, true, true), (false, true, false), (false, false, false)] := by
  match f with
  | 0 => decide
  | 1 => decide
  | 2 => decide
  | 3 => decide
  | 4 => decide
  | 5 => decide
  | 6 => decide
  | 7 => decide
  | n + 8 => simp [shape]

end Isa
end Go.Proofs.YtbplmbignalbgaaDoor
