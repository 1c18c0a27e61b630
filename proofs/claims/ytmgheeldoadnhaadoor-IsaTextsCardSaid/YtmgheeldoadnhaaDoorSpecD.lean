/- Plain: an instruction's text. Conditions: none. -/
import Derived.Lib.ItoaNum
import Derived.Lib.Join
import Derived.Test.YtmgheeldoadnhaaDoorSpecC
namespace Go.Proofs.YtmgheeldoadnhaaDoor
namespace Isa

theorem decDigits_len : ∀ (k u : Nat), u < 10 ^ (k + 1) → (Lib.decDigits u).length ≤ k + 1
  | 0, u, h => by
    have h' : u < 10 := by simpa using h
    rw [Lib.decDigits, dif_pos h']; simp
  | k + 1, u, h => by
    rw [Lib.decDigits]
    split
    · simp
    · have h2 : u / 10 < 10 ^ (k + 1) := by
        rw [Nat.pow_succ] at h
        omega
      have := decDigits_len k (u / 10) h2
      simp only [List.length_append, List.length_singleton]
      omega
theorem itoa_len (n : Int) (h0 : -9999999 ≤ n) (h1 : n ≤ 9999999) : (Lib.itoa n).length ≤ 8 := by
  unfold Lib.itoa
  split
  · have := decDigits_len 6 n.natAbs (by show _ < 10 ^ 7; have : (10 : Nat) ^ 7 = 10000000 := by decide
                                         omega)
    simp only [List.length_cons]; omega
  · have := decDigits_len 6 n.toNat (by show _ < 10 ^ 7; have : (10 : Nat) ^ 7 = 10000000 := by decide
                                        omega)
    omega
theorem nameL_len (i : Nat) : (nameL i).length ≤ 5 := by unfold nameL; split <;> simp

/-- A register as text. -/
def regL (r : Int) : List UInt8 := 114 :: Lib.decDigits r.toNat
def words (x0 x1 x2 x3 : Bool) (op d a b imm : Int) : List (List UInt8) :=
  [nameL op.toNat] ++ (if x0 then [regL d] else []) ++ (if x1 then [regL a] else []) ++ (if x2 then [regL b] else []) ++ (if x3 then [Lib.itoa imm] else [])
/-- The text of an instruction that may be. -/
def text (op d a b imm : Int) : List UInt8 := Lib.join (words (shape (form op) 0) (shape (form op) 1) (shape (form op) 2) (shape (form op) 3) op d a b imm) [32]
/-- The text of any: a question mark if it may not be. -/
def txt (op d a b imm : Int) : List UInt8 := if ok op d a b imm then text op d a b imm else [63]

theorem joinTail_len (sep : List UInt8) (m : Nat) : ∀ r : List (List UInt8), (∀ x ∈ r, x.length ≤ m) → (Lib.joinTail sep r).length ≤ (sep.length + m) * r.length
  | [], _ => by simp [Lib.joinTail]
  | x :: r, h => by
    have h1 := joinTail_len sep m r (fun y hy => h y (List.mem_cons_of_mem _ hy))
    have h2 := h x (List.mem_cons_self ..)
    simp only [Lib.joinTail, List.map_cons, List.flatten_cons, List.length_append, List.length_cons] at h1 ⊢
    rw [Nat.mul_succ]
    omega
theorem join_len (m : Nat) (xs : List (List UInt8)) (h : ∀ x ∈ xs, x.length ≤ m) : (Lib.join xs [32]).length ≤ (1 + m) * xs.length := by
  cases xs with
  | nil => simp [Lib.join_nil]
  | cons x r =>
    rw [Lib.join_cons]
    have h1 := joinTail_len [32] m r (fun y hy => h y (List.mem_cons_of_mem _ hy))
    have h2 := h x (List.mem_cons_self ..)
    simp only [List.length_append, List.length_cons, List.length_nil, Nat.zero_add] at h1 ⊢
    rw [Nat.mul_succ]
    omega
end Isa
end Go.Proofs.YtmgheeldoadnhaaDoor
