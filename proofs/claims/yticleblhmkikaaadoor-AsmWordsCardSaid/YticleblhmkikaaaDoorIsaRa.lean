/- Contracts: the document's answer: forms, names, ranges. Conditions: none. -/
import Derived.Test.YticleblhmkikaaaDoorIsaWa
namespace Go.Proofs.YticleblhmkikaaaDoor
open Go.RowKit

set_option maxHeartbeats 1000000 in
theorem rform_any (op : Int) (w : World) :
    Calls Tryd.prog 75 #[.int .i64 op] w fun e w' => e = .returned (.int .i64 (Isa.form op)) ∧ w = w' := by
  go_enter Tryd.func75, Tryd.ntmps75
  go_wp2
  all_goals
    go_ret
    refine ⟨?_, rfl⟩
    simp only [beq_iff_eq, beq_eq_false_iff_ne, ne_eq] at *
    refine ret_nat ?_ (by decide)
    unfold Isa.form
    first | (subst_vars; decide) | ((repeat' split) <;> (first | rfl | omega))

end Go.Proofs.YticleblhmkikaaaDoor
