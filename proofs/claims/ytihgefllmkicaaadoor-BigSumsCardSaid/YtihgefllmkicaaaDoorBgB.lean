/- Plain: carries, borrows, signs and quotients of numbers as digits. Conditions: none. -/
import Derived.Test.YtihgefllmkicaaaDoorBgA
namespace Go.Proofs.YtihgefllmkicaaaDoor.Bg
set_option linter.unusedVariables false

/-- One more digit, and what is carried. -/
theorem carry_step (B : Int) (o : List Int) (x : Int) : val B (o ++ [x % B]) + B ^ (o.length + 1) * (x / B) = val B o + B ^ o.length * x := by
  have h := Int.emod_add_mul_ediv x B
  rw [val_snoc, Int.pow_succ, Int.mul_assoc, Int.add_assoc, ← Int.mul_add, h]
theorem borrow_step (B : Int) (o : List Int) (x : Int) : val B (o ++ [x + B]) - B ^ (o.length + 1) = val B o + B ^ o.length * x := by
  rw [val_snoc, Int.pow_succ, Int.mul_add]
  omega
theorem mod_dig {B : Int} (hB : 0 < B) (x : Int) : 0 ≤ x % B ∧ x % B < B := ⟨Int.emod_nonneg _ (by omega), Int.emod_lt_of_pos _ hB⟩
/-- The digits of one number, from the highest down, by a small one. -/
theorem horner_step {B K rest d V : Int} (hB : 0 < B) (hK : 0 < K) (hr : 0 ≤ rest ∧ rest < K) (hd : 0 ≤ d ∧ d < B) : ((B * rest + d) / K < B ∧ 0 ≤ (B * rest + d) / K) ∧ (0 ≤ (B * rest + d) % K ∧ (B * rest + d) % K < K) ∧ (d + B * (V * K + rest) = ((B * rest + d) / K + B * V) * K + (B * rest + d) % K) := by
  have h0 : 0 ≤ B * rest := Int.mul_nonneg (Int.le_of_lt hB) hr.1
  have hlt : B * rest + d < B * K := by
    have h1 : B * (rest + 1) ≤ B * K := Int.mul_le_mul_of_nonneg_left (by omega) (Int.le_of_lt hB)
    rw [Int.mul_add, Int.mul_one] at h1
    omega
  refine ⟨⟨Int.ediv_lt_of_lt_mul hK hlt, Int.ediv_nonneg (by omega) (Int.le_of_lt hK)⟩, mod_dig hK _, ?_⟩
  have h := Int.emod_add_mul_ediv (B * rest + d) K
  rw [Int.add_mul, Int.mul_comm ((B * rest + d) / K) K]
  have e : B * (V * K + rest) = B * V * K + B * rest := by rw [Int.mul_add, Int.mul_assoc]
  rw [e]
  omega
/-- A number of a sign and digits. -/
def nv (B : Int) (neg : Bool) (l : List Int) : Int := if neg = true then -val B l else val B l
/-- As a result is: no nought above, no sign at 0. -/
structure Can (B : Int) (neg : Bool) (l : List Int) : Prop where
  dig : Dig B l
  tidy : Tidy l
  sign : l = [] → neg = false
theorem Can.pos {B : Int} (hB : 1 ≤ B) {neg : Bool} {l : List Int} (h : Can B neg l) (hn : neg = true) : 0 < val B l := by
  have h0 := val_nonneg (show 0 ≤ B by omega) h.dig
  rcases Int.lt_or_eq_of_le h0 with h1 | h1
  · exact h1
  · have hl := val_zero (show 0 < B by omega) h.dig h.tidy h1.symm
    rw [h.sign hl] at hn
    cases hn
theorem nv_inj {B : Int} (hB : 1 ≤ B) {s t : Bool} {l m : List Int} (h : Can B s l) (k : Can B t m) (e : nv B s l = nv B t m) : s = t ∧ l = m := by
  have h0 := val_nonneg (show 0 ≤ B by omega) h.dig
  have k0 := val_nonneg (show 0 ≤ B by omega) k.dig
  unfold nv at e
  cases s <;> cases t
  · exact ⟨rfl, val_inj (by omega) h.dig k.dig h.tidy k.tidy (by simpa using e)⟩
  · have := k.pos hB rfl
    simp at e
    omega
  · have := h.pos hB rfl
    simp at e
    omega
  · refine ⟨rfl, val_inj (by omega) h.dig k.dig h.tidy k.tidy ?_⟩
    simp at e
    omega
theorem nv_nil (B : Int) (s : Bool) : nv B s [] = 0 := by unfold nv; split <;> simp [val]
theorem can_nil (B : Int) : Can B false [] := ⟨Dig.nil, (by intro e; cases e), fun _ => rfl⟩
/-- Trimmed, and the sign of 0 taken off. -/
theorem can_made {B : Int} (hB : 0 < B) {neg : Bool} {l : List Int} (h : Dig B l) : Can B (neg && decide (0 < trimN l l.length)) (l.take (trimN l l.length)) ∧ nv B (neg && decide (0 < trimN l l.length)) (l.take (trimN l l.length)) = nv B neg l := by
  have hv := trim_val (B := B) l l.length
  rw [List.take_length] at hv
  refine ⟨⟨h.take _, trim_tidy l.length (Nat.le_refl _), fun e => ?_⟩, ?_⟩
  · have hl : (l.take (trimN l l.length)).length = 0 := by rw [e]; rfl
    rw [List.length_take] at hl
    have := trimN_le l l.length
    have hz : trimN l l.length = 0 := by omega
    rw [hz]; simp
  · by_cases hz : 0 < trimN l l.length
    · rw [decide_eq_true hz, Bool.and_true]
      unfold nv
      rw [hv]
    · have hz' : trimN l l.length = 0 := by omega
      rw [decide_eq_false hz, Bool.and_false]
      rw [hz'] at hv ⊢
      have hv0 : val B l = 0 := hv.symm
      unfold nv
      rw [hv0]
      simp [val]
def sgn (x y : Int) : Int := if x < y then -1 else if y < x then 1 else 0
theorem sgn_lt {x y : Int} (h : x < y) : sgn x y = -1 := if_pos h
theorem sgn_gt {x y : Int} (h : y < x) : sgn x y = 1 := by unfold sgn; rw [if_neg (by omega), if_pos h]
theorem sgn_eq (x : Int) : sgn x x = 0 := by unfold sgn; rw [if_neg (by omega), if_neg (by omega)]
theorem sgn_swap (x y : Int) : sgn (-y) (-x) = sgn x y := by unfold sgn; (repeat' split) <;> omega
/-- Order of numbers of signs, by the order of what is without. -/
theorem sgn_signs {B : Int} (hB : 1 ≤ B) {s t : Bool} {l m : List Int} (h : Can B s l) (k : Can B t m) : sgn (nv B s l) (nv B t m) = if s = true ∧ t = false then -1 else if s = false ∧ t = true then 1 else if s = true then sgn (val B m) (val B l) else sgn (val B l) (val B m) := by
  have h0 := val_nonneg (show 0 ≤ B by omega) h.dig
  have k0 := val_nonneg (show 0 ≤ B by omega) k.dig
  cases s <;> cases t
  · simp [nv]
  · have := k.pos hB rfl
    show sgn (val B l) (-val B m) = 1
    exact sgn_gt (by omega)
  · have := h.pos hB rfl
    show sgn (-val B l) (val B m) = -1
    exact sgn_lt (by omega)
  · show sgn (-val B l) (-val B m) = sgn (val B m) (val B l)
    exact sgn_swap (val B m) (val B l)
/-- Quotient and rest of what is without sign, with signs. -/
theorem quo_signs (s t : Bool) {x y : Int} (hx : 0 ≤ x) (hy : 0 < y) : (if (s != t) = true then -(x / y) else x / y) = (if s = true then -x else x).tdiv (if t = true then -y else y) ∧ (if s = true then -(x % y) else x % y) = (if s = true then -x else x).tmod (if t = true then -y else y) := by
  have h1 : x / y = x.tdiv y := (Int.tdiv_eq_ediv_of_nonneg hx).symm
  have h2 : x % y = x.tmod y := (Int.tmod_eq_emod_of_nonneg hx).symm
  cases s <;> cases t <;> simp [h1, h2, Int.tdiv_neg, Int.neg_tdiv, Int.tmod_neg, Int.neg_tmod]
end Go.Proofs.YtihgefllmkicaaaDoor.Bg
