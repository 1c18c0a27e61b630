/- Plain definitions for the instructions: forms, ranges. Conditions: none. -/
namespace Go.Proofs.YtbplmbignalbgaaDoor
namespace Isa

/-- An operation's form; 0, if there is none. -/
def form (op : Int) : Nat :=
  if 1 ≤ op ∧ op ≤ 14 then 1 else if op = 23 then 3 else if (15 ≤ op ∧ op ≤ 24) ∨ op = 33 then 2
  else if 25 ≤ op ∧ op ≤ 31 then 4 else if op = 32 then 5 else if op = 34 then 6 else if op = 35 ∨ op = 36 then 7 else 0
theorem form_le (op : Int) : form op ≤ 7 := by unfold form; (repeat' split) <;> omega
theorem form_pos (op : Int) : form op = 0 ↔ (op < 1 ∨ 36 < op) := by unfold form; constructor <;> intro h <;> (repeat' split at h) <;> (repeat' split) <;> omega

/-- Which fields a form has: D, A, B, Imm. -/
def shape (f j : Nat) : Bool :=
  match f, j with
  | 1, 0 => true | 1, 1 => true | 1, 2 => true
  | 2, 0 => true | 2, 1 => true | 2, 3 => true
  | 3, 0 => true | 3, 3 => true
  | 4, 1 => true | 4, 2 => true | 4, 3 => true
  | 5, 0 => true | 5, 3 => true
  | 6, 0 => true
  | 7, 1 => true
  | _, _ => false
/-- The names' bytes, by number. -/
def nameL (i : Nat) : List UInt8 :=
  match i with
  | 1 => [97, 100, 100]
  | 2 => [115, 117, 98]
  | 3 => [109, 117, 108]
  | 4 => [109, 117, 108, 104]
  | 5 => [100, 105, 118]
  | 6 => [114, 101, 109]
  | 7 => [97, 110, 100]
  | 8 => [111, 114]
  | 9 => [120, 111, 114]
  | 10 => [115, 108, 108]
  | 11 => [115, 114, 108]
  | 12 => [115, 114, 97]
  | 13 => [115, 108, 116]
  | 14 => [115, 108, 116, 117]
  | 15 => [97, 100, 100, 105]
  | 16 => [97, 110, 100, 105]
  | 17 => [111, 114, 105]
  | 18 => [120, 111, 114, 105]
  | 19 => [115, 108, 108, 105]
  | 20 => [115, 114, 108, 105]
  | 21 => [115, 114, 97, 105]
  | 22 => [115, 108, 116, 105]
  | 23 => [108, 117, 105]
  | 24 => [108, 119]
  | 25 => [115, 119]
  | 26 => [98, 101, 113]
  | 27 => [98, 110, 101]
  | 28 => [98, 108, 116]
  | 29 => [98, 103, 101]
  | 30 => [98, 108, 116, 117]
  | 31 => [98, 103, 101, 117]
  | 32 => [106, 97, 108]
  | 33 => [106, 97, 108, 114]
  | 34 => [105, 110]
  | 35 => [111, 117, 116]
  | 36 => [104, 97, 108, 116]
  | _ => []
def nameB (i : Nat) : ByteArray := ⟨(nameL i).toArray⟩

/-- The least and the greatest Imm. -/
def low (op : Int) : Int :=
  if shape (form op) 3 = false then 0 else if op = 16 ∨ op = 17 ∨ op = 18 ∨ op = 23 then 0 else if op = 19 ∨ op = 20 ∨ op = 21 then 0 else if op = 32 then -1048576 else -32768
def high (op : Int) : Int :=
  if shape (form op) 3 = false then 0 else if op = 16 ∨ op = 17 ∨ op = 18 ∨ op = 23 then 65535 else if op = 19 ∨ op = 20 ∨ op = 21 then 31 else if op = 32 then 1048575 else 32767
/-- May a register's field be so? -/
def regOk (has : Bool) (r : Int) : Bool := decide (0 ≤ r) && decide (r ≤ if has then 31 else 0)
/-- Is it an instruction? -/
def ok (op d a b imm : Int) : Bool :=
  decide (form op ≠ 0) && regOk (shape (form op) 0) d && regOk (shape (form op) 1) a && regOk (shape (form op) 2) b && decide (low op ≤ imm) && decide (imm ≤ high op)

end Isa
end Go.Proofs.YtbplmbignalbgaaDoor
