/- Plain: a text's words and numbers, as the document's Parse reads them. Conditions: none. -/
import Derived.Test.YtmgheeldoadnhaaDoorSpecF
namespace Go.Proofs.YtmgheeldoadnhaaDoor
open Isa

/-- The words of a text behind a beginning. -/
def splitL : List UInt8 → List UInt8 → List (List UInt8)
  | [], word => [word]
  | c :: r, word => if c = 32 then word :: splitL r [] else splitL r (word ++ [c])
theorem split_solid : ∀ (x r word : List UInt8), Solid x → splitL (x ++ r) word = splitL r (word ++ x)
  | [], r, word, _ => by simp
  | c :: x, r, word, h => by
    have hc : c ≠ 32 := h c (List.mem_cons_self ..)
    rw [List.cons_append, splitL, if_neg hc, split_solid x r (word ++ [c]) (fun y hy => h y (List.mem_cons_of_mem _ hy)), List.append_assoc]
    rfl
theorem split_join : ∀ (ws : List (List UInt8)) (x : List UInt8), Solid x → (∀ y ∈ ws, Solid y) → splitL (Lib.join (x :: ws) [32]) [] = x :: ws
  | [], x, hx, _ => by
    have := split_solid x [] [] hx
    rw [List.append_nil] at this
    rw [Lib.join_one, this, splitL, List.nil_append]
  | y :: r, x, hx, h => by
    have e : Lib.join (x :: y :: r) [32] = x ++ 32 :: Lib.join (y :: r) [32] := by
      rw [Lib.join_cons, Lib.join_cons]
      simp [Lib.joinTail]
    rw [e, split_solid x _ [] hx, splitL, if_pos rfl, List.nil_append, split_join r y (h y (List.mem_cons_self ..)) (fun z hz => h z (List.mem_cons_of_mem _ hz))]
theorem split_pos : ∀ (l word : List UInt8), 0 < (splitL l word).length
  | [], word => by simp [splitL]
  | c :: r, word => by
    unfold splitL
    split
    · simp
    · exact split_pos r _
theorem split_len : ∀ (l word : List UInt8), (splitL l word).length ≤ l.length + 1
  | [], word => by simp [splitL]
  | c :: r, word => by
    unfold splitL
    split
    · have := split_len r []; simp; omega
    · have := split_len r (word ++ [c]); simp; omega

/-- A number's value by its digits, as far as they are some. -/
def numStep (n : Nat) (c : UInt8) : Nat := if 48 ≤ c.toNat ∧ c.toNat ≤ 57 then 10 * n + (c.toNat - 48) else n
def numF (l : List UInt8) (k : Nat) : Nat := (l.take k).foldl numStep 0
def numL (l : List UInt8) : Int := if l.head? = some 45 then -(numF l 9 : Int) else numF l 9
theorem numF_succ (l : List UInt8) (k : Nat) (h : k < l.length) : numF l (k + 1) = numStep (numF l k) l[k] := by
  unfold numF
  rw [List.take_succ_eq_append_getElem h, List.foldl_append]
  rfl
theorem numF_lt (l : List UInt8) : ∀ k, numF l k < 10 ^ k
  | 0 => by simp [numF]
  | k + 1 => by
    have ih := numF_lt l k
    by_cases h : k < l.length
    · rw [numF_succ l k h, Nat.pow_succ]
      unfold numStep
      split <;> omega
    · have : numF l (k + 1) = numF l k := by unfold numF; rw [List.take_of_length_le (by omega), List.take_of_length_le (by omega)]
      rw [this, Nat.pow_succ]; omega
theorem numF_all (l : List UInt8) (k : Nat) (h : l.length ≤ k) : numF l k = l.foldl numStep 0 := by
  unfold numF; rw [List.take_of_length_le h]
theorem fold_dec : ∀ (l : List UInt8) (acc n : Nat), Lib.decFrom acc l = some n → l.foldl numStep acc = n
  | [], acc, n, h => by simpa [Lib.decFrom] using h
  | b :: r, acc, n, h => by
    simp only [Lib.decFrom] at h
    cases hd : Lib.digitVal b with
    | none => rw [hd] at h; cases h
    | some d =>
      rw [hd] at h
      have ih := fold_dec r _ n h
      unfold Lib.digitVal at hd
      split at hd
      · rename_i hb
        simp only [Option.some.injEq] at hd
        rw [List.foldl_cons, show numStep acc b = acc * 10 + d by unfold numStep; rw [if_pos (by simpa using hb)]; omega]
        exact ih
      · cases hd
theorem num_digits (u : Nat) (h : (Lib.decDigits u).length ≤ 9) : numF (Lib.decDigits u) 9 = u := by
  rw [numF_all _ _ h]
  exact fold_dec _ 0 u (decFrom_digits u u (Nat.le_refl _))
theorem num_cons (c : UInt8) (hc : numStep 0 c = 0) (u : Nat) (h : (Lib.decDigits u).length ≤ 8) : numF (c :: Lib.decDigits u) 9 = u := by
  rw [numF_all _ _ (by simp; omega), List.foldl_cons, hc]
  exact fold_dec _ 0 u (decFrom_digits u u (Nat.le_refl _))
theorem num_reg (r : Int) (h0 : 0 ≤ r) (h1 : r ≤ 31) : numL (regL r) = r := by
  unfold numL regL
  rw [if_neg (by simp), num_cons 114 (by decide)]
  · omega
  · have := decDigits_len 6 r.toNat (by show _ < 10 ^ 7; have : (10 : Nat) ^ 7 = 10000000 := by decide
                                        omega)
    omega
theorem num_imm (n : Int) (h0 : -9999999 ≤ n) (h1 : n ≤ 9999999) : numL (Lib.itoa n) = n := by
  have hl (u : Nat) (hu : u < 10000000) := decDigits_len 6 u (by show _ < 10 ^ 7; have : (10 : Nat) ^ 7 = 10000000 := by decide
                                                                 omega)
  unfold numL Lib.itoa
  by_cases hn : n < 0
  · rw [if_pos hn, if_pos (by simp), num_cons 45 (by decide)]
    · omega
    · have := hl n.natAbs (by omega); omega
  · rw [if_neg hn, if_neg, num_digits]
    · omega
    · have := hl n.toNat (by omega); omega
    · intro he
      cases hd : Lib.decDigits n.toNat with
      | nil => exact decDigits_ne _ hd
      | cons b r =>
        rw [hd] at he
        simp only [List.head?_cons, Option.some.injEq] at he
        exact (digits_byte (u := n.toNat) (x := b) (by rw [hd]; exact List.mem_cons_self ..)).2.2 he

/-- The next number, if the operation has it and a word is there. -/
def qStep (x : Bool) (ws : List (List UInt8)) (k : Nat) : Int × Nat := if x = true ∧ k < ws.length then (numL (ws.getD k []), k + 1) else (0, k)
def q1 (op : Int) (l : List UInt8) : Int × Nat := qStep (Isa.shape (Isa.form op) 0) (splitL l []) 1
def q2 (op : Int) (l : List UInt8) : Int × Nat := qStep (Isa.shape (Isa.form op) 1) (splitL l []) (q1 op l).2
def q3 (op : Int) (l : List UInt8) : Int × Nat := qStep (Isa.shape (Isa.form op) 2) (splitL l []) (q2 op l).2
def q4 (op : Int) (l : List UInt8) : Int × Nat := qStep (Isa.shape (Isa.form op) 3) (splitL l []) (q3 op l).2
/-- An operation whose text it is. -/
def Hit (op : Int) (l : List UInt8) : Prop := nameL op.toNat = (splitL l []).getD 0 [] ∧ txt op (q1 op l).1 (q2 op l).1 (q3 op l).1 (q4 op l).1 = l

end Go.Proofs.YtmgheeldoadnhaaDoor
