/- Contracts: the document's answer: forms, names, ranges. Conditions: none. -/
import Derived.Test.YtbplmbignalbgaaDoorIsaWa
namespace Go.Proofs.YtbplmbignalbgaaDoor
open Go.RowKit

set_option maxHeartbeats 1000000 in
theorem rform_any (op : Int) (w : World) :
    Calls Tryd.prog 79 #[.int .i64 op] w fun e w' => e = .returned (.int .i64 (Isa.form op)) ∧ w = w' := by
  go_enter Tryd.func79, Tryd.ntmps79
  go_wp2
  all_goals
    go_ret
    refine ⟨?_, rfl⟩
    simp only [beq_iff_eq, beq_eq_false_iff_ne, ne_eq] at *
    refine ret_nat ?_ (by decide)
    unfold Isa.form
    first | (subst_vars; decide) | ((repeat' split) <;> (first | rfl | omega))

end Go.Proofs.YtbplmbignalbgaaDoor
