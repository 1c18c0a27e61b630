/- Contracts: what the machine reckons. Conditions: words are in their range. -/
import Derived.Test.YtknnmacmohpanaaDoorMaE
namespace Go.Proofs.YtknnmacmohpanaaDoor
open Go.RowKit

theorem wrap32_sgn {a : Int} (h0 : 0 ≤ a) (h1 : a < 4294967296) : wrap32 a = sgn a := by
  unfold wrap32 sgn
  split <;> omega
theorem mul_bound {a b : Int} (a0 : 0 ≤ a) (a1 : a < 4294967296) (b0 : 0 ≤ b) (b1 : b < 4294967296) : 0 ≤ a * b ∧ a * b < 18446744073709551616 := by
  refine ⟨Int.mul_nonneg a0 b0, ?_⟩
  have h1 : a * b ≤ 4294967295 * 4294967295 := Int.mul_le_mul (by omega) (by omega) b0 (by decide)
  omega
theorem mulh {a b : Int} (a0 : 0 ≤ a) (a1 : a < 4294967296) (b0 : 0 ≤ b) (b1 : b < 4294967296) : IntKind.u64.wrap (a * b) / 4294967296 % 4294967296 = a * b / 4294967296 := by
  have h := mul_bound a0 a1 b0 b1
  rw [IntKind.wrap_u64]
  omega
theorem retB {a b : Bool} (h : a = b) : Ending.returned (.bool a) = .returned (.bool b) := by rw [h]
theorem retW {a b : Int} (h : a = b) : Ending.returned (.int .u32 a) = .returned (.int .u32 b) := by rw [h]
set_option maxRecDepth 100000 in
set_option maxHeartbeats 1000000 in
theorem truth_any (b : Bool) (w : World) : Calls Tryd.prog 78 #[.bool b] w fun e w' => e = .returned (.int .u32 (if b then 1 else 0)) ∧ w = w' := by
  cases b
  all_goals
    go_enter Tryd.func78, Tryd.ntmps78
    go_wp2
    go_ret
    exact ⟨rfl, rfl⟩

set_option maxRecDepth 100000 in
set_option maxHeartbeats 4000000 in
theorem computed_any (op a b : Int) (w : World) (o0 : 0 ≤ op) (o1 : op < 256) (a0 : 0 ≤ a) (a1 : a < 4294967296) (b0 : 0 ≤ b) (b1 : b < 4294967296) :
    Calls Tryd.prog 68 #[.int .u8 op, .int .u32 a, .int .u32 b] w fun e w' => e = .returned (.int .u32 (comp op a b)) ∧ w = w' := by
  go_enter Tryd.func68, Tryd.ntmps68
  go_wp2_with (go_at_call 78; refine (truth_any _ _).mono ?_; rintro e w' ⟨rfl, rfl⟩)
  all_goals
    go_ret
    refine ⟨retW ?_, rfl⟩
    simp only [beq_iff_eq, beq_eq_false_iff_ne, ne_eq] at *
    have hs := wrap32_sgn a0 a1
    have hsb := wrap32_sgn b0 b1
    have hm := mulh a0 a1 b0 b1
    first
      | (subst_vars; show _ = (if sgn a < sgn b then (1 : Int) else 0); rw [← hs, ← hsb]; split <;> first | rfl | omega)
      | (subst_vars; show _ = (if a < b then (1 : Int) else 0); split <;> first | rfl | omega)
      | (subst_vars; rw [hm]; rfl)
      | (subst_vars; rw [hs]; rfl)
      | (subst_vars; rfl)
      | (unfold comp; (repeat (first | rw [if_pos (by omega)] | rw [if_neg (by omega)])); done)

set_option maxRecDepth 100000 in
set_option maxHeartbeats 4000000 in
theorem divided_any (op a b : Int) (w : World) (ho : op = 5 ∨ op = 6) (hb : b ≠ 0) (a0 : 0 ≤ a) (a1 : a < 4294967296) (b0 : 0 ≤ b) (b1 : b < 4294967296) :
    Calls Tryd.prog 67 #[.int .u8 op, .int .u32 a, .int .u32 b] w fun e w' => e = .returned (.int .u32 (divd op a b)) ∧ w = w' := by
  have hz : (b == 0) = false := beq_eq_false_iff_ne.2 hb
  have hp : 0 < b := by omega
  clear hb
  rcases ho with rfl | rfl
  all_goals
    go_enter Tryd.func67, Tryd.ntmps67
    go_wp2
    go_ret
    refine ⟨retW ?_, rfl⟩
    rfl

set_option maxRecDepth 100000 in
set_option maxHeartbeats 4000000 in
theorem holds_any (op a b : Int) (w : World) (o0 : 26 ≤ op) (o1 : op ≤ 31) (a0 : 0 ≤ a) (a1 : a < 4294967296) (b0 : 0 ≤ b) (b1 : b < 4294967296) :
    Calls Tryd.prog 65 #[.int .u8 op, .int .u32 a, .int .u32 b] w fun e w' => e = .returned (.bool (goes op a b)) ∧ w = w' := by
  go_enter Tryd.func65, Tryd.ntmps65
  go_wp2
  all_goals
    go_ret
    refine ⟨retB ?_, rfl⟩
    simp only [beq_iff_eq, beq_eq_false_iff_ne, ne_eq] at *
    have hs := wrap32_sgn a0 a1
    have hsb := wrap32_sgn b0 b1
    first
      | (subst_vars; show _ = decide (sgn a < sgn b); rw [← hs, ← hsb])
      | (subst_vars; show _ = decide (sgn b ≤ sgn a); rw [← hs, ← hsb])
      | (subst_vars; show _ = decide (a = b); by_cases h : a = b <;> simp [h])
      | (subst_vars; show _ = decide (a ≠ b); by_cases h : a = b <;> simp [h])
      | (subst_vars; rfl)
      | (unfold goes; (repeat (first | rw [if_pos (by omega)] | rw [if_neg (by omega)])); done)
end Go.Proofs.YtknnmacmohpanaaDoor
