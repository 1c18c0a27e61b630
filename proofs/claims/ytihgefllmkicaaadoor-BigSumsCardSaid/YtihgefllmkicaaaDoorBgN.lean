/- Contracts: division of digits. Conditions: the digits lie as told. -/
import Derived.Test.YtihgefllmkicaaaDoorBgM
namespace Go.Proofs.YtihgefllmkicaaaDoor
open Go.RowKit Bg
set_option linter.unusedVariables false
set_option linter.unusedSimpArgs false


theorem ld_val {l : List Int} {a : Nat} (ha : a < l.length) : ∀ n, n ≤ a + 1 → ld l a n = val 65536 ((l.take (a + 1)).drop (a + 1 - n))
  | 0, _ => by
    show (0 : Int) = _
    rw [List.drop_eq_nil_of_le (by rw [List.length_take]; omega)]; rfl
  | n + 1, h => by
    have ih := ld_val ha n (by omega)
    show ld l a n * 65536 + (if 0 ≤ (a : Int) - n then l.getD ((a : Int) - n).toNat 0 else 0) = _
    rw [if_pos (by omega), ih, show ((a : Int) - n).toNat = a - n by omega, show a + 1 - (n + 1) = a - n by omega]
    have e := val_drop (B := 65536) (l.take (a + 1)) (i := a - n) (by rw [List.length_take]; omega)
    rw [e, show a - n + 1 = a + 1 - n by omega]
    have e2 : (l.take (a + 1)).getD (a - n) 0 = l.getD (a - n) 0 := by simp [List.getD, List.getElem?_take, show a - n < a + 1 by omega]
    rw [e2]
    omega
theorem guess_le {X V P u v x0 v0 : Int} (hP : 0 < P) (hX : X = x0 + P * u) (hx0 : 0 ≤ x0 ∧ x0 < P) (hV : V = v0 + P * v) (hv0 : 0 ≤ v0 ∧ v0 < P) (hv : 65536 ≤ v) (hXV : X < 65536 * V) (hX0 : 0 ≤ X) : X / V ≤ u / v ∧ u / v ≤ X / V + 1 := by
  have hV0 : 0 < V := by
    have := Int.mul_le_mul (show (1 : Int) ≤ P by omega) hv (by decide) (by omega)
    omega
  obtain ⟨q, hq⟩ : ∃ q, q = X / V := ⟨_, rfl⟩
  have h1 := Int.emod_add_mul_ediv X V
  have h2 := Int.emod_nonneg X (show V ≠ 0 by omega)
  have h3 := Int.emod_lt_of_pos X hV0
  have hq0 : 0 ≤ q := by rw [hq]; exact Int.ediv_nonneg hX0 (by omega)
  have hq1 : q < 65536 := by rw [hq]; exact Int.ediv_lt_of_lt_mul hV0 hXV
  rw [← hq] at h1 ⊢
  have hqV : q * V = q * v0 + P * (q * v) := by rw [hV, Int.mul_add, Int.mul_left_comm]
  have hqv0 : 0 ≤ q * v0 := Int.mul_nonneg hq0 hv0.1
  have hVq : V * q = q * V := Int.mul_comm _ _
  constructor
  · refine (Int.le_ediv_iff_mul_le (by omega)).2 ?_
    rcases Int.lt_or_le u (q * v) with h | h
    · exfalso
      have h5 : P * (u + 1) ≤ P * (q * v) := Int.mul_le_mul_of_nonneg_left (by omega) (by omega)
      rw [Int.mul_add, Int.mul_one] at h5
      omega
    · exact h
  · refine Int.le_of_lt_add_one ((Int.ediv_lt_iff_lt_mul (by omega)).2 ?_)
    rcases Int.lt_or_le u ((q + 1 + 1) * v) with h | h
    · exact h
    · exfalso
      have h5 : P * ((q + 1 + 1) * v) ≤ P * u := Int.mul_le_mul_of_nonneg_left h (by omega)
      have h6 : V < P * (v + 1) := by rw [Int.mul_add, Int.mul_one]; omega
      have h7 : (q + 1) * V ≤ (q + 1) * (P * (v + 1)) := Int.mul_le_mul_of_nonneg_left (by omega) (by omega)
      have h8 : X < (q + 1) * V := by rw [Int.add_mul, Int.one_mul]; omega
      have h9 : (q + 1) * (P * (v + 1)) = P * ((q + 1) * (v + 1)) := Int.mul_left_comm _ _ _
      have h10 : P * ((q + 1 + 1) * v) < P * ((q + 1) * (v + 1)) := by omega
      have h11 : (q + 1 + 1) * v < (q + 1) * (v + 1) := Int.lt_of_mul_lt_mul_left h10 (by omega)
      rw [Int.mul_add, Int.mul_one, Int.add_mul (q + 1) 1 v, Int.one_mul] at h11
      omega
theorem val_set {B : Int} : ∀ (l : List Int) (i : Nat) (x : Int), i < l.length → val B (l.set i x) = val B l + B ^ i * (x - l.getD i 0)
  | [], i, x, h => absurd h (Nat.not_lt_zero _)
  | d :: r, 0, x, h => by show x + B * val B r = d + B * val B r + B ^ 0 * (x - d); rw [Int.pow_zero]; omega
  | d :: r, i + 1, x, h => by
    have ih := val_set (B := B) r i x (by simpa using h)
    show d + B * val B (r.set i x) = d + B * val B r + B ^ (i + 1) * (x - r.getD i 0)
    rw [ih, Int.mul_add, Int.pow_succ, Int.mul_comm (B ^ i) B, Int.mul_assoc]; omega
/-- A division under way: so many digits of the quotient are to come. -/
structure Dv (la b : List Int) (s : Nat) (T Q : List Int) : Prop where
  lt : T.length = la.length + 1
  lq : Q.length = la.length - b.length + 1
  dt : Dig 65536 T
  dq : Dig 65536 Q
  val : Bg.val 65536 la = Bg.val 65536 Q * Bg.val 65536 b + Bg.val 65536 T
  high : Bg.val 65536 (T.drop s) < Bg.val 65536 b
  zero : ∀ j, j < s → Q.getD j 0 = 0
section
variable {la b T Q : List Int} {a : Nat}
def wdw (T b : List Int) (a : Nat) : List Int := (T.drop a).take (b.length + 1)
theorem Dv.window (h : Dv la b (a + 1) T Q) (hb : Dig 65536 b) (hba : b.length ≤ la.length) (ha : a + 1 ≤ la.length - b.length + 1) :
    Bg.val 65536 (T.drop (a + b.length + 1)) = 0 ∧ Bg.val 65536 (T.drop a) = Bg.val 65536 (wdw T b a) ∧ 0 ≤ Bg.val 65536 (wdw T b a) ∧ Bg.val 65536 (wdw T b a) < 65536 * Bg.val 65536 b := by
  have hl := h.lt
  have e1 := val_split 65536 (T.drop (a + 1)) b.length (by rw [List.length_drop]; omega)
  rw [List.drop_drop, show a + 1 + b.length = a + b.length + 1 by omega] at e1
  have n1 := val_nonneg (show (0 : Int) ≤ 65536 by decide) ((h.dt.drop (a + 1)).take b.length)
  have n2 := val_nonneg (show (0 : Int) ≤ 65536 by decide) (h.dt.drop (a + b.length + 1))
  have hbl := val_lt (show (0 : Int) < 65536 by decide) hb
  have hh := h.high
  have hp := pow_pos' (show (0 : Int) < 65536 by decide) b.length
  have z : Bg.val 65536 (T.drop (a + b.length + 1)) = 0 := by
    rcases (show Bg.val 65536 (T.drop (a + b.length + 1)) = 0 ∨ 1 ≤ Bg.val 65536 (T.drop (a + b.length + 1)) by omega) with h0 | h0
    · exact h0
    · exfalso
      have := Int.mul_le_mul_of_nonneg_left h0 (Int.le_of_lt hp)
      omega
  have e2 := val_split 65536 (T.drop a) (b.length + 1) (by rw [List.length_drop]; omega)
  rw [List.drop_drop, show a + (b.length + 1) = a + b.length + 1 by omega, z, Int.mul_zero, Int.add_zero] at e2
  have e3 := val_drop (B := 65536) T (i := a) (by omega)
  have dT := h.dt.getD (by decide) a
  have n3 := val_nonneg (show (0 : Int) ≤ 65536 by decide) (h.dt.drop (a + 1))
  exact ⟨z, e2, val_nonneg (by decide) ((h.dt.drop a).take _), by show Bg.val 65536 ((T.drop a).take (b.length + 1)) < _; rw [← e2, e3]; omega⟩
theorem Dv.step (h : Dv la b (a + 1) T Q) (hb : Dig 65536 b) (hba : b.length ≤ la.length) (ha : a + 1 ≤ la.length - b.length + 1) {q : Int} {D : List Int} (hq : 0 ≤ q ∧ q < 65536) (hD : Dig 65536 D) (hDl : D.length = b.length + 1)
    (hv : Bg.val 65536 (wdw T b a) = q * Bg.val 65536 b + Bg.val 65536 D) (hlt : Bg.val 65536 D < Bg.val 65536 b) : Dv la b a (win T a D) (Q.set a q) := by
  obtain ⟨z, e, -, -⟩ := h.window hb hba ha
  have hl := h.lt
  have hql := h.lq
  have ew := win_val (B := 65536) (T := T) (a := a) (D := D) (by omega)
  rw [hDl, show a + (b.length + 1) = a + b.length + 1 by omega, z, Int.mul_zero, Int.add_zero] at ew
  have et := val_split 65536 T a (by omega)
  rw [e, hv] at et
  refine ⟨by rw [win_len (by omega)]; exact hl, by rw [List.length_set]; exact hql, win_dig h.dt hD, ?_, ?_, ?_, ?_⟩
  · intro d hd
    rcases List.mem_or_eq_of_mem_set hd with hd | rfl
    · exact h.dq d hd
    · exact hq
  · rw [val_set _ _ _ (by omega), h.zero a (by omega), Int.sub_zero, ew, h.val, et, Int.add_mul, Int.mul_add, Int.mul_assoc]
    omega
  · have : (win T a D).drop a = D ++ T.drop (a + D.length) := by
      unfold win
      rw [List.drop_append, List.drop_eq_nil_of_le (by rw [List.length_take]; omega), List.nil_append, List.length_take, show a - min a T.length = 0 by omega, List.drop_zero]
    rw [this, val_app, hDl, show a + (b.length + 1) = a + b.length + 1 by omega, z, Int.mul_zero, Int.add_zero]
    exact hlt
  · intro j hj
    have := h.zero j (by omega)
    rw [List.getD_eq_getElem?_getD, List.getElem?_set, if_neg (by omega), ← List.getD_eq_getElem?_getD]
    exact this
theorem Dv.start (hla : Dig 65536 la) (hb : Dig 65536 b) (hba : b.length ≤ la.length) (tb : Tidy b) (hb0 : b ≠ []) : Dv la b (la.length - b.length + 1) (la ++ [0]) (List.replicate (la.length - b.length + 1) 0) := by
  have hbl : 0 < b.length := List.length_pos_iff.2 hb0
  refine ⟨by simp, by simp, hla.app (Dig.one (by decide)), fun d hd => by rw [(List.mem_replicate.1 hd).2]; decide, ?_, ?_, fun j _ => replicate_cf _ _⟩
  · have e : Bg.val 65536 (List.replicate (la.length - b.length + 1) 0) = 0 := by
      rw [← pv_val, pv_congr 65536 _ (g := fun _ => 0) (fun k _ => replicate_cf _ k), pv_zero]
    rw [e, val_snoc, Int.mul_zero]; omega
  · rw [List.drop_append, show la.length - b.length + 1 - la.length = 0 by omega, List.drop_zero, val_snoc, Int.mul_zero, Int.add_zero]
    have h1 := val_lt (show (0 : Int) < 65536 by decide) (hla.drop (la.length - b.length + 1))
    have h2 := val_ge (show (0 : Int) < 65536 by decide) hb tb hb0
    rw [List.length_drop, show la.length - (la.length - b.length + 1) = b.length - 1 by omega] at h1
    omega
theorem Dv.done (h : Dv la b 0 T Q) (hb : Dig 65536 b) : Bg.val 65536 Q = Bg.val 65536 la / Bg.val 65536 b ∧ Bg.val 65536 T = Bg.val 65536 la % Bg.val 65536 b := by
  have h1 := h.high
  rw [List.drop_zero] at h1
  have h2 := val_nonneg (show (0 : Int) ≤ 65536 by decide) h.dt
  have h3 := h.val
  have hd := Int.ediv_emod_unique (a := Bg.val 65536 la) (b := Bg.val 65536 b) (r := Bg.val 65536 T) (q := Bg.val 65536 Q) (by omega)
  have := hd.2 ⟨by rw [Int.mul_comm]; omega, h2, h1⟩
  exact ⟨this.1.symm, this.2.symm⟩
/-- The guess is what it should be, or one more. -/
theorem Dv.guess (h : Dv la b (a + 1) T Q) (hb : Dig 65536 b) (tb : Tidy b) (hb0 : b ≠ []) (hba : b.length ≤ la.length) (ha : a + 1 ≤ la.length - b.length + 1) :
    65536 ≤ ld b ((b.length : Int) - 1) 2 ∧ Bg.val 65536 (wdw T b a) / Bg.val 65536 b ≤ ld T ((a + b.length : Nat) : Int) 3 / ld b ((b.length : Int) - 1) 2 ∧ ld T ((a + b.length : Nat) : Int) 3 / ld b ((b.length : Int) - 1) 2 ≤ Bg.val 65536 (wdw T b a) / Bg.val 65536 b + 1 := by
  obtain ⟨z, e, x0, x1⟩ := h.window hb hba ha
  have hl := h.lt
  have hbl : 0 < b.length := List.length_pos_iff.2 hb0
  have hW : wdw T b a = (T.take (a + b.length + 1)).drop a := by
    unfold wdw
    rw [List.take_drop, Nat.add_assoc]
  by_cases h1 : b.length = 1
  · have hb1 : b = [b.getD 0 0] := by
      apply list_eq_of_getD (by simpa using h1)
      intro j hj
      have : j = 0 := by omega
      subst this
      rfl
    obtain ⟨d, hd⟩ : ∃ d, d = b.getD 0 0 := ⟨_, rfl⟩
    rw [← hd] at hb1
    have hd0 := hb.getD (by decide) 0
    rw [← hd] at hd0
    have hdn : d ≠ 0 := by
      intro h0
      rw [hb1, h0] at tb
      exact tb rfl
    have hv : Bg.val 65536 b = d := by rw [hb1]; show d + 65536 * 0 = d; omega
    have e2 : ld b ((b.length : Int) - 1) 2 = d * 65536 := by
      rw [h1]
      show ((0 * 65536 + (if 0 ≤ (((1 : Nat) : Int) - 1) - ((0 : Nat) : Int) then b.getD ((((1 : Nat) : Int) - 1) - ((0 : Nat) : Int)).toNat 0 else 0)) * 65536 + (if 0 ≤ (((1 : Nat) : Int) - 1) - ((1 : Nat) : Int) then b.getD ((((1 : Nat) : Int) - 1) - ((1 : Nat) : Int)).toNat 0 else 0)) = _
      rw [if_pos (by omega), if_neg (by omega), show ((((1 : Nat) : Int) - 1) - ((0 : Nat) : Int)).toNat = 0 by omega, ← hd]
      omega
    have e3 : ld T ((a + b.length : Nat) : Int) 2 = Bg.val 65536 (wdw T b a) := by
      rw [ld_val (by omega) 2 (by omega), hW, show a + b.length + 1 - 2 = a by omega]
    obtain ⟨t, ht, ht0⟩ : ∃ t, ld T ((a + b.length : Nat) : Int) 3 = Bg.val 65536 (wdw T b a) * 65536 + t ∧ 0 ≤ t ∧ t < 65536 := by
      refine ⟨_, by rw [← e3]; rfl, ?_⟩
      split
      · exact h.dt.getD (by decide) _
      · omega
    rw [e2, ht, hv]
    have e4 : (Bg.val 65536 (wdw T b a) * 65536 + t) / (d * 65536) = Bg.val 65536 (wdw T b a) / d := by
      have hd1 : 0 < d := by omega
      have h5 := Int.emod_add_mul_ediv (Bg.val 65536 (wdw T b a)) d
      have h6 := Int.emod_nonneg (Bg.val 65536 (wdw T b a)) (show d ≠ 0 by omega)
      have h7 := Int.emod_lt_of_pos (Bg.val 65536 (wdw T b a)) hd1
      have h8 := (Int.ediv_emod_unique (a := Bg.val 65536 (wdw T b a) * 65536 + t) (b := d * 65536) (r := Bg.val 65536 (wdw T b a) % d * 65536 + t) (q := Bg.val 65536 (wdw T b a) / d) (by omega)).2 ⟨by rw [Int.mul_right_comm]; omega, by omega, by omega⟩
      exact h8.1
    rw [e4]
    omega
  · have hb2 : 2 ≤ b.length := by omega
    have e2 : ld b ((b.length : Int) - 1) 2 = Bg.val 65536 (b.drop (b.length - 2)) := by
      rw [show (b.length : Int) - 1 = ((b.length - 1 : Nat) : Int) by omega, ld_val (by omega) 2 (by omega), show b.length - 1 + 1 = b.length by omega, List.take_length]
    have e3 : ld T ((a + b.length : Nat) : Int) 3 = Bg.val 65536 ((wdw T b a).drop (b.length - 2)) := by
      rw [ld_val (by omega) 3 (by omega), hW, List.drop_drop, show a + b.length + 1 - 3 = a + (b.length - 2) by omega]
    have hwl : (wdw T b a).length = b.length + 1 := by
      unfold wdw
      rw [List.length_take, List.length_drop]; omega
    have hwd : Dig 65536 (wdw T b a) := (h.dt.drop a).take _
    have s1 := val_split 65536 (wdw T b a) (b.length - 2) (by omega)
    have s2 := val_split 65536 b (b.length - 2) (by omega)
    have l1 := val_lt (show (0 : Int) < 65536 by decide) (hwd.take (b.length - 2))
    have l2 := val_lt (show (0 : Int) < 65536 by decide) (hb.take (b.length - 2))
    rw [List.length_take, Nat.min_eq_left (by omega)] at l1 l2
    have hv2 : 65536 ≤ Bg.val 65536 (b.drop (b.length - 2)) := by
      have g1 := val_ge (show (0 : Int) < 65536 by decide) hb tb hb0
      have g2 : (65536 : Int) ^ (b.length - 1) = 65536 ^ (b.length - 2) * 65536 := by
        rw [show b.length - 1 = b.length - 2 + 1 by omega, Int.pow_succ]
      rcases Int.lt_or_le (Bg.val 65536 (b.drop (b.length - 2))) 65536 with g3 | g3
      · exfalso
        have g4 : 65536 ^ (b.length - 2) * (Bg.val 65536 (b.drop (b.length - 2)) + 1) ≤ 65536 ^ (b.length - 2) * 65536 := Int.mul_le_mul_of_nonneg_left (by omega) (Int.le_of_lt (pow_pos' (by decide) _))
        rw [Int.mul_add, Int.mul_one] at g4
        omega
      · exact g3
    rw [e2, e3]
    exact ⟨hv2, guess_le (pow_pos' (by decide) _) s1 ⟨val_nonneg (by decide) (hwd.take _), l1⟩ s2 ⟨val_nonneg (by decide) (hb.take _), l2⟩ hv2 x1 x0⟩
end
end Go.Proofs.YtihgefllmkicaaaDoor
