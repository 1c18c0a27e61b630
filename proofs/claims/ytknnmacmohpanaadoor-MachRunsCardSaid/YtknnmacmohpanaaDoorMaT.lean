/- Contracts: how the document's machine reckons. Conditions: words are in their range. -/
import Derived.Test.YtknnmacmohpanaaDoorMaF
namespace Go.Proofs.YtknnmacmohpanaaDoor
open Go.RowKit

theorem retI {a b : Int} (h : a = b) : Ending.returned (.int .i64 a) = .returned (.int .i64 b) := by rw [h]
set_option maxRecDepth 100000 in
set_option maxHeartbeats 1000000 in
theorem rsigned (a : Int) (w : World) (a0 : 0 ≤ a) (a1 : a < 4294967296) : Calls Tryd.prog 76 #[.int .u32 a] w fun e w' => e = .returned (.int .i64 (sgn a)) ∧ w = w' := by
  go_enter Tryd.func76, Tryd.ntmps76
  go_wp2
  all_goals
    go_ret
    refine ⟨retI ?_, rfl⟩
    unfold sgn
    first | rw [if_pos (by omega)] | rw [if_neg (by omega)]
set_option maxRecDepth 100000 in
set_option maxHeartbeats 1000000 in
theorem rword (n : Int) (w : World) (h0 : -4611686018427387904 ≤ n) (h1 : n ≤ 4611686018427387904) : Calls Tryd.prog 58 #[.int .i64 n] w fun e w' => e = .returned (.int .u32 (n % 4294967296)) ∧ w = w' := by
  have ht : n.tmod 4294967296 = if 0 ≤ n then n % 4294967296 else -((-n) % 4294967296) := by
    split
    · exact Int.tmod_eq_emod_of_nonneg (by assumption)
    · have : n = -(-n) := by omega
      rw [this, Int.neg_tmod, Int.tmod_eq_emod_of_nonneg (by omega), Int.neg_neg]
  by_cases hn : 0 ≤ n
  · rw [if_pos hn] at ht
    have hd : decide (n % 4294967296 < 0) = false := by simp; omega
    go_enter Tryd.func58, Tryd.ntmps58
    go_wp2
    all_goals
      go_ret
      refine ⟨retW ?_, rfl⟩
      omega
  · rw [if_neg hn] at ht
    obtain ⟨k, hk⟩ : ∃ k, k = -n % 4294967296 := ⟨_, rfl⟩
    rw [← hk] at ht
    have hk0 : 0 ≤ k ∧ k < 4294967296 := by omega
    go_enter Tryd.func58, Tryd.ntmps58
    go_wp2
    all_goals
      go_ret
      refine ⟨retW ?_, rfl⟩
      omega
set_option maxRecDepth 100000 in
set_option maxHeartbeats 1000000 in
theorem rgoes (op a b : Int) (w : World) (o0 : 26 ≤ op) (o1 : op ≤ 31) (a0 : 0 ≤ a) (a1 : a < 4294967296) (b0 : 0 ≤ b) (b1 : b < 4294967296) :
    Calls Tryd.prog 62 #[.int .i64 op, .int .u32 a, .int .u32 b] w fun e w' => e = .returned (.bool (goes op a b)) ∧ w = w' := by
  go_enter Tryd.func62, Tryd.ntmps62
  go_wp2_with (go_at_call 76; refine (rsigned _ _ (by assumption) (by assumption)).mono ?_; rintro e w' ⟨rfl, rfl⟩)
  all_goals
    go_ret
    refine ⟨retB ?_, rfl⟩
    simp only [beq_iff_eq, beq_eq_false_iff_ne, ne_eq] at *
    first
      | (subst_vars; show _ = decide (sgn a < sgn b); rfl)
      | (subst_vars; show _ = decide (sgn b ≤ sgn a); rfl)
      | (subst_vars; show _ = decide (a = b); by_cases h : a = b <;> simp [h])
      | (subst_vars; show _ = decide (a ≠ b); by_cases h : a = b <;> simp [h])
      | (subst_vars; rfl)
      | (unfold goes; (repeat (first | rw [if_pos (by omega)] | rw [if_neg (by omega)])); done)
theorem floor_neg (n p : Int) (p0 : 0 < p) : (-n) / p = if n % p = 0 then -(n / p) else -(n / p) - 1 := by
  have e2 := Int.mul_ediv_add_emod n p
  have e3 := Int.emod_nonneg n (show p ≠ 0 by omega)
  have e4 := Int.emod_lt_of_pos n p0
  split
  · rename_i h
    refine ((Int.ediv_emod_unique (r := 0) p0).2 ⟨?_, Int.le_refl _, p0⟩).1
    rw [Int.mul_neg]; omega
  · refine ((Int.ediv_emod_unique (r := p - n % p) p0).2 ⟨?_, by omega, by omega⟩).1
    rw [Int.mul_sub, Int.mul_neg, Int.mul_one]; omega
set_option maxRecDepth 100000 in
set_option maxHeartbeats 1000000 in
theorem rbelow (a p : Int) (w : World) (a0 : -2147483648 ≤ a) (a1 : a < 2147483648) (p0 : 1 ≤ p) (p1 : p ≤ 2147483648) :
    Calls Tryd.prog 75 #[.int .i64 a, .int .i64 p] w fun e w' => e = .returned (.int .i64 (a / p)) ∧ w = w' := by
  have hne : (p == 0) = false := beq_eq_false_iff_ne.2 (by omega)
  by_cases ha : 0 ≤ a
  · have hq := Int.tdiv_eq_ediv_of_nonneg (b := p) ha
    have hr := Int.tmod_eq_emod_of_nonneg (b := p) ha
    have hd : decide (a < 0) = false := by simpa using ha
    have hb : 0 ≤ a / p ∧ a / p ≤ a := ⟨Int.ediv_nonneg ha (by omega), Int.ediv_le_self _ ha⟩
    go_enter Tryd.func75, Tryd.ntmps75
    go_wp2
    all_goals
      go_ret
      exact ⟨rfl, rfl⟩
  · obtain ⟨n, rfl⟩ : ∃ n, a = -n := ⟨-a, by omega⟩
    have hn : 0 ≤ n := by omega
    have hq : (-n).tdiv p = -(n / p) := by rw [Int.neg_tdiv, Int.tdiv_eq_ediv_of_nonneg hn]
    have hr : (-n).tmod p = -(n % p) := by rw [Int.neg_tmod, Int.tmod_eq_emod_of_nonneg hn]
    have hf := floor_neg n p (by omega)
    have hb : 0 ≤ n / p ∧ n / p ≤ n := ⟨Int.ediv_nonneg hn (by omega), Int.ediv_le_self _ hn⟩
    have hb2 : 0 ≤ n % p ∧ n % p < p := ⟨Int.emod_nonneg n (show p ≠ 0 by omega), Int.emod_lt_of_pos n (by omega)⟩
    have hd : decide (-n < 0) = true := by simp; omega
    generalize n / p = q at *
    generalize n % p = r at *
    have HF := Lib.hid hf
    clear hf
    go_enter Tryd.func75, Tryd.ntmps75
    go_wp2
    all_goals
      go_ret
      refine ⟨retI ?_, rfl⟩
      rw [HF.out]
      simp at *
      first | omega | (intros; omega)

set_option maxRecDepth 100000 in
set_option maxHeartbeats 1000000 in
theorem rpower (n : Int) (w : World) (n0 : 0 ≤ n) (n1 : n < 4294967296) : Calls Tryd.prog 74 #[.int .u32 n] w fun e w' => e = .returned (.int .i64 ((2 : Int) ^ (n % 32).toNat)) ∧ w = w' := by
  obtain ⟨m, hm⟩ : ∃ m : Nat, n % 32 = m := ⟨(n % 32).toNat, by omega⟩
  have hm2 : m < 32 := by omega
  rw [hm, Int.toNat_natCast]
  go_enter Tryd.func74, Tryd.ntmps74
  go_wp2_with fail
  go_loop [3, 4] (fun p i => ∃ k : Nat, k ≤ m ∧ i = .int .u32 k ∧ p = .int .i64 ((2 : Int) ^ k)) (fun _ i => 32 - (intOf i).toNat)
  case atStart => exact ⟨0, Nat.zero_le _, rfl, rfl⟩
  case round =>
    obtain ⟨k, hk, rfl, rfl⟩ := hrel
    by_cases hlt : k < m
    · have hd : decide ((k : Int) < (m : Int)) = true := by simp; omega
      have hp : 0 ≤ (2 : Int) ^ k ∧ (2 : Int) ^ k ≤ 4294967296 := by
        have h1 := Isa.pow_le_32 (show k ≤ 32 by omega)
        have h2 : (2 : Int) ^ k = ((2 ^ k : Nat) : Int) := by simp
        have h3 := Nat.two_pow_pos k
        rw [h2]
        generalize 2 ^ k = z at *
        omega
      have hs : (2 : Int) ^ (k + 1) = 2 * (2 : Int) ^ k := by rw [Int.pow_succ, Int.mul_comm]
      obtain ⟨z, hz⟩ : ∃ z, z = (2 : Int) ^ k := ⟨_, rfl⟩
      rw [← hz] at hp hs ⊢
      have HZ := Lib.hid hs
      clear hs hz
      go_wp2_with fail
      go_round
      case rel => exact ⟨k + 1, hlt, by go_num, by rw [HZ.out]⟩
      case measure => simp [intOf]; omega
    · have he : k = m := by omega
      subst he
      have hd : decide ((k : Int) < (k : Int)) = false := by simp
      go_wp2_with fail
      go_ret
      exact ⟨rfl, rfl⟩

def opN (K a b : Nat) : Nat := if K = 0 then a &&& b else if K = 1 then a ||| b else a ^^^ b
def opB (K : Nat) (x y : Bool) : Bool := if K = 0 then x && y else if K = 1 then x || y else x != y
def kS (K : Nat) : ByteArray := if K = 0 then ⟨#[97, 110, 100]⟩ else if K = 1 then ⟨#[111, 114]⟩ else ⟨#[120, 111, 114]⟩
theorem opN_half (K a b : Nat) : opN K a b = 2 * opN K (a / 2) (b / 2) + (if opB K (decide (a % 2 = 1)) (decide (b % 2 = 1)) then 1 else 0) := by
  unfold opN opB
  split
  · have h1 := @Nat.and_div_two a b
    have h2 := @Nat.and_mod_two_eq_one a b
    generalize a &&& b = z at *
    generalize a / 2 &&& b / 2 = y at *
    by_cases ha : a % 2 = 1 <;> by_cases hb : b % 2 = 1 <;> simp [ha, hb] at h2 ⊢ <;> omega
  · split
    · have h1 := @Nat.or_div_two a b
      have h2 := @Nat.or_mod_two_eq_one a b
      generalize a ||| b = z at *
      generalize a / 2 ||| b / 2 = y at *
      by_cases ha : a % 2 = 1 <;> by_cases hb : b % 2 = 1 <;> simp [ha, hb] at h2 ⊢ <;> omega
    · have h1 := @Nat.xor_div_two a b
      have h2 := @Nat.xor_mod_two_eq_one a b
      generalize a ^^^ b = z at *
      generalize a / 2 ^^^ b / 2 = y at *
      by_cases ha : a % 2 = 1 <;> by_cases hb : b % 2 = 1 <;> simp [ha, hb] at h2 ⊢ <;> omega
theorem opN_zero (K : Nat) : opN K 0 0 = 0 := by unfold opN; (repeat' split) <;> rfl
theorem opN_lt (K a b k : Nat) (ha : a < 2 ^ k) (hb : b < 2 ^ k) : opN K a b < 2 ^ k := by
  unfold opN
  (repeat' split)
  · exact Nat.and_lt_two_pow _ hb
  · exact Nat.or_lt_two_pow ha hb
  · exact Nat.xor_lt_two_pow ha hb
theorem bit32 (n : Nat) (hn : n < 4294967296) : bits .and .u32 (n : Int) 1 = ((n % 2 : Nat) : Int) := by
  rw [show (1 : Int) = ((1 : Nat) : Int) from rfl, u32_and_nat n 1 hn (by decide), Nat.and_one_is_mod]
def BothRel (K a b : Nat) (o i : Value) : Prop := (∃ k : Nat, k ≤ 31 ∧ i = .int .i64 k ∧ o = .int .u32 (opN K (a / 2 ^ (k + 1)) (b / 2 ^ (k + 1)))) ∨ (i = .int .i64 (-1) ∧ o = .int .u32 (opN K a b))
theorem both_round (K a b k : Nat) (hk : k ≤ 31) (a1 : a < 4294967296) (b1 : b < 4294967296) :
    (opB K (decide (bits .and .u32 ((a : Int) / (2 : Int) ^ k) 1 = 1)) (decide (bits .and .u32 ((b : Int) / (2 : Int) ^ k) 1 = 1)) = false →
      BothRel K a b (.int .u32 (2 * ((opN K (a / 2 ^ (k + 1)) (b / 2 ^ (k + 1)) : Nat) : Int) % 4294967296)) (.int .i64 ((k : Int) - 1))) ∧
    (opB K (decide (bits .and .u32 ((a : Int) / (2 : Int) ^ k) 1 = 1)) (decide (bits .and .u32 ((b : Int) / (2 : Int) ^ k) 1 = 1)) = true →
      BothRel K a b (.int .u32 (2 * ((opN K (a / 2 ^ (k + 1)) (b / 2 ^ (k + 1)) : Nat) : Int) % 4294967296 + 1)) (.int .i64 ((k : Int) - 1))) := by
  have ex : (a : Int) / (2 : Int) ^ k = ((a / 2 ^ k : Nat) : Int) := by simp
  have ey : (b : Int) / (2 : Int) ^ k = ((b / 2 ^ k : Nat) : Int) := by simp
  have hx : a / 2 ^ k < 4294967296 := Nat.lt_of_le_of_lt (Nat.div_le_self _ _) a1
  have hy : b / 2 ^ k < 4294967296 := Nat.lt_of_le_of_lt (Nat.div_le_self _ _) b1
  have hx3 : a / 2 ^ k / 2 = a / 2 ^ (k + 1) := by rw [Nat.div_div_eq_div_mul, Nat.pow_succ]
  have hy3 : b / 2 ^ k / 2 = b / 2 ^ (k + 1) := by rw [Nat.div_div_eq_div_mul, Nat.pow_succ]
  have hz := opN_half K (a / 2 ^ k) (b / 2 ^ k)
  have hzl := opN_lt K (a / 2 ^ k) (b / 2 ^ k) 32 (by omega) (by omega)
  have hxb : decide (bits .and .u32 ((a : Int) / (2 : Int) ^ k) 1 = 1) = decide (a / 2 ^ k % 2 = 1) := by
    rw [ex, bit32 _ hx]; exact decide_eq_decide.2 (by omega)
  have hyb : decide (bits .and .u32 ((b : Int) / (2 : Int) ^ k) 1 = 1) = decide (b / 2 ^ k % 2 = 1) := by
    rw [ey, bit32 _ hy]; exact decide_eq_decide.2 (by omega)
  rw [hxb, hyb]
  rw [hx3, hy3] at hz
  have fin : ∀ n : Int, n = (opN K (a / 2 ^ k) (b / 2 ^ k) : Nat) → BothRel K a b (.int .u32 n) (.int .i64 ((k : Int) - 1)) := by
    intro n hn
    subst hn
    match k with
    | 0 => exact Or.inr ⟨rfl, by simp⟩
    | j + 1 => exact Or.inl ⟨j, by omega, by congr 1; omega, rfl⟩
  generalize opN K (a / 2 ^ k) (b / 2 ^ k) = z at *
  generalize opN K (a / 2 ^ (k + 1)) (b / 2 ^ (k + 1)) = o at *
  refine ⟨fun h => fin _ ?_, fun h => fin _ ?_⟩
  · rw [h] at hz; simp at hz; omega
  · rw [h] at hz; simp at hz; omega
theorem beq1 (x : Int) : (x == 1) = decide (x = 1) := by by_cases h : x = 1 <;> simp [h]
theorem kS_or (K : Nat) (h : K < 3) : ((kS K).toList == [111, 114]) = decide (K = 1) := by
  match K, h with
  | 0, _ => decide +kernel
  | 1, _ => decide +kernel
  | 2, _ => decide +kernel
theorem kS_xor (K : Nat) (h : K < 3) : ((kS K).toList == [120, 111, 114]) = decide (K = 2) := by
  match K, h with
  | 0, _ => decide +kernel
  | 1, _ => decide +kernel
  | 2, _ => decide +kernel
set_option maxRecDepth 100000 in
set_option maxHeartbeats 2000000 in
theorem rboth (K a b : Nat) (w : World) (hK : K < 3) (a1 : a < 4294967296) (b1 : b < 4294967296) :
    Calls Tryd.prog 73 #[.string (kS K), .int .u32 a, .int .u32 b] w fun e w' => e = .returned (.int .u32 (opN K a b)) ∧ w = w' := by
  go_enter Tryd.func73, Tryd.ntmps73
  go_wp2_with fail
  go_loop [7, 8] (BothRel K a b) (fun _ i => (intOf i + 1).toNat)
  case atStart =>
    refine Or.inl ⟨31, by decide, rfl, ?_⟩
    rw [show a / 2 ^ (31 + 1) = 0 by omega, show b / 2 ^ (31 + 1) = 0 by omega, opN_zero]
    rfl
  case round =>
    rcases hrel with ⟨k, hk, rfl, rfl⟩ | ⟨rfl, rfl⟩
    · have hk0 : (0 : Int) ≤ (k : Int) := Int.natCast_nonneg _
      have hk1 : (k : Int) ≤ 32 := by omega
      have HE := Lib.hid (both_round K a b k hk a1 b1)
      obtain ⟨o, ho⟩ : ∃ o, o = opN K (a / 2 ^ (k + 1)) (b / 2 ^ (k + 1)) := ⟨_, rfl⟩
      rw [← ho] at HE ⊢
      clear ho
      go_wp2_with fail
      all_goals
        obtain ⟨e0, e1⟩ := HE.out
        refine ⟨?_, by simp only [intOf]; omega⟩
        clear HE
        simp only [kS_or K hK, kS_xor K hK, beq1] at *
        generalize bits .and .u32 ((a : Int) / (2 : Int) ^ k) 1 = u at *
        generalize bits .and .u32 ((b : Int) / (2 : Int) ^ k) 1 = v at *
        first
          | (refine e1 ?_; clear e0 e1; rcases (show K = 0 ∨ K = 1 ∨ K = 2 by omega) with rfl | rfl | rfl <;> by_cases hu : u = 1 <;> by_cases hv : v = 1 <;> simp_all [opB]; done)
          | (refine e0 ?_; clear e0 e1; rcases (show K = 0 ∨ K = 1 ∨ K = 2 by omega) with rfl | rfl | rfl <;> by_cases hu : u = 1 <;> by_cases hv : v = 1 <;> simp_all [opB]; done)
    · go_wp2_with fail
      go_ret
      exact ⟨rfl, rfl⟩
end Go.Proofs.YtknnmacmohpanaaDoor
