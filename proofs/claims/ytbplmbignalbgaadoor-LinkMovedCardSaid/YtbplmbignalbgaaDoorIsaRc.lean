/- The document's ranges of Imm. Conditions: none. -/
import Derived.Test.YtbplmbignalbgaaDoorIsaRa
import Derived.Test.YtbplmbignalbgaaDoorIsaWb
namespace Go.Proofs.YtbplmbignalbgaaDoor
open Go.RowKit

theorem low_of (op : Int) : Isa.low op = if op = 32 then -1048576 else if op = 16 ∨ op = 17 ∨ op = 18 ∨ op = 19 ∨ op = 20 ∨ op = 21 ∨ op = 23 then 0 else if Isa.form op = 2 ∨ Isa.form op = 4 then -32768 else 0 := by
  have hp := Isa.form_pos op
  by_cases h : op < 1 ∨ 36 < op
  · have hf := hp.2 h
    unfold Isa.low
    rw [hf, if_pos (show Isa.shape 0 3 = false from rfl), if_neg (by omega), if_neg (by omega), if_neg (by decide)]
  · have hall : ∀ n : Fin 37, Isa.low ((n.val : Nat) : Int) = if ((n.val : Nat) : Int) = 32 then -1048576 else if ((n.val : Nat) : Int) = 16 ∨ ((n.val : Nat) : Int) = 17 ∨ ((n.val : Nat) : Int) = 18 ∨ ((n.val : Nat) : Int) = 19 ∨ ((n.val : Nat) : Int) = 20 ∨ ((n.val : Nat) : Int) = 21 ∨ ((n.val : Nat) : Int) = 23 then 0 else if Isa.form ((n.val : Nat) : Int) = 2 ∨ Isa.form ((n.val : Nat) : Int) = 4 then -32768 else 0 := by decide
    have := hall ⟨op.toNat, by omega⟩
    rw [show (((⟨op.toNat, by omega⟩ : Fin 37).val : Nat) : Int) = op by show ((op.toNat : Nat) : Int) = op; omega] at this
    exact this

set_option maxRecDepth 100000 in
set_option maxHeartbeats 2000000 in
theorem rleast_any (op : Int) (w : World) :
    Calls Tryd.prog 81 #[.int .i64 op] w fun e w' => e = .returned (.int .i64 (Isa.low op)) ∧ w = w' := by
  go_enter Tryd.func81, Tryd.ntmps81
  go_wp2_with (go_at_call 79; refine (rform_any _ _).mono ?_; rintro e w' ⟨rfl, rfl⟩)
  all_goals
    go_ret
    refine ⟨ret_int ?_, rfl⟩
    rw [low_of]
    simp only [beq_iff_eq, beq_eq_false_iff_ne, ne_eq] at *
    first | (subst_vars; rfl) | ((repeat' split) <;> (first | rfl | omega))

end Go.Proofs.YtbplmbignalbgaaDoor
