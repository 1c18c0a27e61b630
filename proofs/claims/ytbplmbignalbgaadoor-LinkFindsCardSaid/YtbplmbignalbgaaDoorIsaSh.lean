/- Plain: a list of bits as a number. Conditions: none. -/
import Derived.Test.YtbplmbignalbgaaDoorIsaSe
namespace Go.Proofs.YtbplmbignalbgaaDoor

/-- The first k of a number's m bits, the highest first. -/
def bitsD (n : Int) (m k : Nat) : List Int := (List.range k).map fun j => n / (2 : Int) ^ (m - 1 - j) % 2
theorem bitsD_len (n : Int) (m k : Nat) : (bitsD n m k).length = k := by unfold bitsD; simp
theorem bitsD_succ (n : Int) (m k : Nat) : bitsD n m (k + 1) = bitsD n m k ++ [n / (2 : Int) ^ (m - 1 - k) % 2] := by
  unfold bitsD
  rw [List.range_succ, List.map_append]
  rfl
/-- The number that bits make behind another. -/
def valB (w : Int) (l : List Int) : Int := l.foldl (fun w b => 2 * w + b) w
theorem valB_cat (w : Int) (l r : List Int) : valB w (l ++ r) = valB (valB w l) r := by unfold valB; rw [List.foldl_append]
theorem valB_snoc (w : Int) (l : List Int) (b : Int) : valB w (l ++ [b]) = 2 * valB w l + b := by rw [valB_cat]; rfl

theorem twice_mod (q P : Int) (h : 0 < P) : q % (2 * P) = 2 * (q / 2 % P) + q % 2 := by
  have e1 : q = (2 * (q / 2 % P) + q % 2) + (2 * P) * (q / 2 / P) := by
    have h1 := Int.mul_ediv_add_emod q 2
    have h2 := Int.mul_ediv_add_emod (q / 2) P
    have h3 : 2 * P * (q / 2 / P) = 2 * (P * (q / 2 / P)) := Int.mul_assoc ..
    omega
  have b1 := Int.emod_nonneg (q / 2) (show P ≠ 0 by omega)
  have b2 := Int.emod_lt_of_pos (q / 2) h
  have e2 : q % (2 * P) = ((2 * (q / 2 % P) + q % 2) + (2 * P) * (q / 2 / P)) % (2 * P) := by rw [← e1]
  rw [e2, Int.add_mul_emod_self_left]
  exact Int.emod_eq_of_lt (by omega) (by omega)
theorem valB_part (w n : Int) (m : Nat) : ∀ k, k ≤ m → valB w (bitsD n m k) = w * (2 : Int) ^ k + n / (2 : Int) ^ (m - k) % (2 : Int) ^ k
  | 0, _ => by simp [bitsD, valB, Int.emod_one]
  | k + 1, h => by
    rw [bitsD_succ, valB_snoc, valB_part w n m k (by omega)]
    have e1 : (2 : Int) ^ (m - k) = (2 : Int) ^ (m - 1 - k) * 2 := by rw [← Int.pow_succ]; congr 1; omega
    have e2 : m - (k + 1) = m - 1 - k := by omega
    have p1 : (0 : Int) ≤ 2 ^ (m - 1 - k) := Int.le_of_lt (Int.pow_pos (by decide))
    rw [e1, e2, ← Int.ediv_ediv_of_nonneg p1, Int.pow_succ, Int.mul_comm ((2 : Int) ^ k) 2, twice_mod _ _ (Int.pow_pos (by decide))]
    have h4 : w * (2 * (2 : Int) ^ k) = 2 * (w * (2 : Int) ^ k) := by rw [Int.mul_left_comm]
    omega
theorem valB_D (w n : Int) (m : Nat) : valB w (bitsD n m m) = w * (2 : Int) ^ m + n % (2 : Int) ^ m := by
  rw [valB_part w n m m (Nat.le_refl _), Nat.sub_self, Int.pow_zero, Int.ediv_one]
theorem valB_zeros (w : Int) : ∀ k, valB w (List.replicate k 0) = w * (2 : Int) ^ k
  | 0 => by simp [valB]
  | k + 1 => by
    rw [List.replicate_succ', valB_snoc, valB_zeros w k, Int.pow_succ]
    have : w * ((2 : Int) ^ k * 2) = 2 * (w * (2 : Int) ^ k) := by rw [← Int.mul_assoc, Int.mul_comm]
    omega

def nbN (f : Nat) : Nat := if f = 5 then 21 else if 2 ≤ f ∧ f ≤ 4 then 16 else 0
def padN (f : Nat) : Nat :=
  match f with
  | 1 => 11
  | 3 => 5
  | 6 => 21
  | 7 => 21
  | _ => 0
theorem nb_le (f : Nat) : nbN f ≤ 26 := by unfold nbN; split <;> (try split) <;> decide
open Isa in
theorem laid_len {op : Int} (hn : form op ≠ 0) : 6 + (if Isa.shape (form op) 0 then 5 else 0) + (if Isa.shape (form op) 1 then 5 else 0) + (if Isa.shape (form op) 2 then 5 else 0) + padN (form op) + nbN (form op) = 32 := by
  rcases form_cases op with h | h | h | h | h | h | h | h
  · exact absurd h hn
  all_goals (rw [h]; rfl)
open Isa in
theorem laid_word {op d a b imm : Int} (ho : ok op d a b imm = true) :
    valB 0 (bitsD op 6 6 ++ (if Isa.shape (form op) 0 then bitsD d 5 5 else []) ++ (if Isa.shape (form op) 1 then bitsD a 5 5 else []) ++ (if Isa.shape (form op) 2 then bitsD b 5 5 else []) ++ List.replicate (padN (form op)) 0 ++ bitsD imm (nbN (form op)) (nbN (form op))) = word op d a b imm := by
  obtain ⟨hn, ⟨o1, o2⟩, hd, ha, hb, m1, m2⟩ := ok_parts ho
  have hl := limits_of op
  unfold Limits at hl
  unfold word
  rcases form_cases op with h | h | h | h | h | h | h | h
  · exact absurd h hn
  all_goals
    rw [h] at hd ha hb hl ⊢
    simp only [Isa.shape, encW, nbN, padN, valB_cat, valB_D, valB_zeros, if_true, Bool.false_eq_true, if_false, Int.reducePow, List.append_nil, Nat.reduceEqDiff, Nat.reduceLeDiff, and_self, and_true, and_false] at hd ha hb ⊢
    omega
end Go.Proofs.YtbplmbignalbgaaDoor
