/- Plain: the machine as the document tells it. Conditions: none. -/
import Derived.Laws.BitsAllLaws
import Derived.Test.YtknnmacmohpanaaDoorMaA
import Derived.Test.YtknnmacmohpanaaDoorIsaSe
namespace Go.Proofs.YtknnmacmohpanaaDoor
open Go

/-- A machine: registers, memory, place, state, input that is left, output. -/
structure MS where
  regs : Nat → Int
  size : Nat
  mem : Nat → Int
  place : Int
  state : Int
  code : Int
  trap : Int
  steps : Int
  inp : List Int
  out : List Int

def sgn (a : Int) : Int := if a < 2147483648 then a else a - 4294967296
/-- What an operation makes of two words. -/
def comp (op a b : Int) : Int :=
  if op = 1 ∨ op = 15 then (a + b) % 4294967296
  else if op = 2 then (a - b) % 4294967296
  else if op = 3 then a * b % 4294967296
  else if op = 4 then a * b / 4294967296
  else if op = 7 ∨ op = 16 then bits .and .u32 a b
  else if op = 8 ∨ op = 17 then bits .or .u32 a b
  else if op = 9 ∨ op = 18 then bits .xor .u32 a b
  else if op = 10 ∨ op = 19 then a * (2 : Int) ^ (b % 32).toNat % 4294967296
  else if op = 11 ∨ op = 20 then a / (2 : Int) ^ (b % 32).toNat
  else if op = 12 ∨ op = 21 then sgn a / (2 : Int) ^ (b % 32).toNat % 4294967296
  else if op = 13 ∨ op = 22 then (if sgn a < sgn b then 1 else 0)
  else if op = 14 then (if a < b then 1 else 0)
  else b * 65536 % 4294967296
def divd (op a b : Int) : Int := if op = 5 then a / b else a % b
def goes (op a b : Int) : Bool :=
  if op = 26 then decide (a = b) else if op = 27 then decide (a ≠ b) else if op = 28 then decide (sgn a < sgn b) else if op = 29 then decide (sgn b ≤ sgn a)
  else if op = 30 then decide (a < b) else decide (b ≤ a)

def MS.stop (m : MS) (n : Int) : MS := { m with state := 2, trap := n }
def MS.setR (m : MS) (d : Nat) (x : Int) : MS := { m with regs := if d = 0 then m.regs else updF m.regs d x }
def MS.fin (m : MS) (d : Nat) (x next : Int) : MS := { m.setR d x with place := next, steps := m.steps + 1 }

/-- The effect of an instruction. -/
def MS.exec (m : MS) (op : Int) (d : Nat) (a b i : Int) : MS :=
  if op = 24 then (if (m.size : Int) ≤ (a + i) % 4294967296 then m.stop 2 else m.fin d (m.mem ((a + i) % 4294967296).toNat) ((m.place + 1) % 4294967296))
  else if op = 25 then (if (m.size : Int) ≤ (a + i) % 4294967296 then m.stop 2 else { m with mem := updF m.mem ((a + i) % 4294967296).toNat b }.fin 0 0 ((m.place + 1) % 4294967296))
  else if 26 ≤ op ∧ op ≤ 31 then m.fin 0 0 (if goes op a b then ((m.place + 1) % 4294967296 + i) % 4294967296 else (m.place + 1) % 4294967296)
  else if op = 32 then m.fin d ((m.place + 1) % 4294967296) (((m.place + 1) % 4294967296 + i) % 4294967296)
  else if op = 33 then m.fin d ((m.place + 1) % 4294967296) ((a + i) % 4294967296)
  else if op = 34 then { m with inp := m.inp.tail }.fin d (m.inp.headD 4294967295) ((m.place + 1) % 4294967296)
  else if op = 35 then { m with out := m.out ++ [a % 256] }.fin 0 0 ((m.place + 1) % 4294967296)
  else if op = 36 then { m with state := 1, code := a }.fin 0 0 m.place
  else if op = 5 ∨ op = 6 then (if b = 0 then m.stop 4 else m.fin d (divd op a b) ((m.place + 1) % 4294967296))
  else m.fin d (comp op a ((b + i) % 4294967296)) ((m.place + 1) % 4294967296)

/-- A step of a machine that is running. -/
def MS.step (m : MS) : MS :=
  if (m.size : Int) ≤ m.place then m.stop 3
  else if Isa.dOk (m.mem m.place.toNat) = false then m.stop 1
  else m.exec (Isa.dOp (m.mem m.place.toNat)) (Isa.fD (m.mem m.place.toNat)).toNat (m.regs (Isa.fA (m.mem m.place.toNat)).toNat) (m.regs (Isa.fB (m.mem m.place.toNat)).toNat) (Isa.fImm (m.mem m.place.toNat) % 4294967296)

/-- n steps, as long as it runs. -/
def MS.run : Nat → MS → MS
  | 0, m => m
  | n + 1, m => if m.state = 0 then MS.run n m.step else m

/-- The ranges. -/
structure MOk (m : MS) : Prop where
  regs : ∀ i, 0 ≤ m.regs i ∧ m.regs i < 4294967296
  zero : m.regs 0 = 0
  size : 1 ≤ m.size ∧ m.size ≤ 1024
  mem : ∀ i, 0 ≤ m.mem i ∧ m.mem i < 4294967296
  place : 0 ≤ m.place ∧ m.place < 4294967296
  state : 0 ≤ m.state ∧ m.state ≤ 2
  code : 0 ≤ m.code ∧ m.code < 4294967296
  trap : 0 ≤ m.trap ∧ m.trap ≤ 4
  steps : 0 ≤ m.steps
  inp : ∀ x ∈ m.inp, 0 ≤ x ∧ x < 256
  ilen : m.inp.length ≤ 1024
  out : ∀ x ∈ m.out, 0 ≤ x ∧ x < 256

theorem sgn_range {a : Int} (h0 : 0 ≤ a) (h1 : a < 4294967296) : -2147483648 ≤ sgn a ∧ sgn a < 2147483648 := by unfold sgn; split <;> omega

end Go.Proofs.YtknnmacmohpanaaDoor
