/- Contracts: the document's Check. Conditions: none. -/
import Derived.Test.YtbplmbignalbgaaDoorIsaRc
import Derived.Test.YtbplmbignalbgaaDoorIsaRd
import Derived.Deep.QuietTactic
import Derived.BigQuiet
namespace Go.Proofs.YtbplmbignalbgaaDoor
open Go.RowKit

theorem high_of (op : Int) : Isa.high op = if op = 32 then 1048575 else if op = 16 ∨ op = 17 ∨ op = 18 ∨ op = 23 then 65535 else if 19 ≤ op ∧ op ≤ 21 then 31 else if Isa.form op = 2 ∨ Isa.form op = 4 then 32767 else 0 := by
  have hp := Isa.form_pos op
  by_cases h : op < 1 ∨ 36 < op
  · have hf := hp.2 h
    unfold Isa.high
    rw [hf, if_pos (show Isa.shape 0 3 = false from rfl), if_neg (by omega), if_neg (by omega), if_neg (by omega), if_neg (by decide)]
  · have hall : ∀ n : Fin 37, Isa.high ((n.val : Nat) : Int) = if ((n.val : Nat) : Int) = 32 then 1048575 else if ((n.val : Nat) : Int) = 16 ∨ ((n.val : Nat) : Int) = 17 ∨ ((n.val : Nat) : Int) = 18 ∨ ((n.val : Nat) : Int) = 23 then 65535 else if 19 ≤ ((n.val : Nat) : Int) ∧ ((n.val : Nat) : Int) ≤ 21 then 31 else if Isa.form ((n.val : Nat) : Int) = 2 ∨ Isa.form ((n.val : Nat) : Int) = 4 then 32767 else 0 := by decide
    have := hall ⟨op.toNat, by omega⟩
    rw [show (((⟨op.toNat, by omega⟩ : Fin 37).val : Nat) : Int) = op by show ((op.toNat : Nat) : Int) = op; omega] at this
    exact this

set_option maxRecDepth 100000 in
set_option maxHeartbeats 2000000 in
theorem rmost_any (op : Int) (w : World) :
    Calls Tryd.prog 82 #[.int .i64 op] w fun e w' => e = .returned (.int .i64 (Isa.high op)) ∧ w = w' := by
  go_enter Tryd.func82, Tryd.ntmps82
  go_wp2_with (go_at_call 79; refine (rform_any _ _).mono ?_; rintro e w' ⟨rfl, rfl⟩)
  all_goals
    go_ret
    refine ⟨ret_int ?_, rfl⟩
    rw [high_of]
    simp only [beq_iff_eq, beq_eq_false_iff_ne, ne_eq] at *
    first | (subst_vars; rfl) | ((repeat' split) <;> (first | rfl | omega))

theorem sameD (op : Int) (w : World) : Calls Tryd.prog 68 #[.int .i64 op] w fun e w' => e = .returned (.bool (Isa.shape (Isa.form op) 0)) ∧ w' = w := (hasD_any op w).mono fun _ _ ⟨he, hw⟩ => ⟨he, hw.symm⟩
theorem sameA (op : Int) (w : World) : Calls Tryd.prog 69 #[.int .i64 op] w fun e w' => e = .returned (.bool (Isa.shape (Isa.form op) 1)) ∧ w' = w := (hasA_any op w).mono fun _ _ ⟨he, hw⟩ => ⟨he, hw.symm⟩
theorem sameB (op : Int) (w : World) : Calls Tryd.prog 70 #[.int .i64 op] w fun e w' => e = .returned (.bool (Isa.shape (Isa.form op) 2)) ∧ w' = w := (hasB_any op w).mono fun _ _ ⟨he, hw⟩ => ⟨he, hw.symm⟩
theorem sameF (op : Int) (w : World) : Calls Tryd.prog 79 #[.int .i64 op] w fun e w' => e = .returned (.int .i64 (Isa.form op)) ∧ w' = w := (rform_any op w).mono fun _ _ ⟨he, hw⟩ => ⟨he, hw.symm⟩
theorem sameR (x : Bool) (r : Int) (w : World) : Calls Tryd.prog 80 #[.bool x, .int .i64 r] w fun e w' => e = .returned (.bool (Isa.regOk x r)) ∧ w' = w := (register_any x r w).mono fun _ _ ⟨he, hw⟩ => ⟨he, hw.symm⟩
theorem sameL (op : Int) (w : World) : Calls Tryd.prog 81 #[.int .i64 op] w fun e w' => e = .returned (.int .i64 (Isa.low op)) ∧ w' = w := (rleast_any op w).mono fun _ _ ⟨he, hw⟩ => ⟨he, hw.symm⟩
theorem sameM (op : Int) (w : World) : Calls Tryd.prog 82 #[.int .i64 op] w fun e w' => e = .returned (.int .i64 (Isa.high op)) ∧ w' = w := (rmost_any op w).mono fun _ _ ⟨he, hw⟩ => ⟨he, hw.symm⟩

set_option maxRecDepth 100000 in
set_option maxHeartbeats 4000000 in
theorem rcheck_ok (op d a b imm : Int) (w : World) (ho : Isa.ok op d a b imm = true) :
    Calls Tryd.prog 65 #[.agg #[.int .i64 op, .int .i64 d, .int .i64 a, .int .i64 b, .int .i64 imm]] w fun e w' => e = .returned (.int .i64 0) ∧ Below w.heap.size w w' := by
  unfold Isa.ok at ho
  simp only [Bool.and_eq_true, decide_eq_true_eq] at ho
  obtain ⟨⟨⟨⟨⟨h1, h2⟩, h3⟩, h4⟩, h5⟩, h6⟩ := ho
  have hf : ((Isa.form op : Int) == 0) = false := beq_eq_false_iff_ne.2 (by omega)
  clear h1
  go_enter Tryd.func65, Tryd.ntmps65
  go_wp2_with fail
  go_quiet ((first
    | (go_at_call 79; exact Calls.quiet_of_same (sameF _ _))
    | (go_at_call 68; exact Calls.quiet_of_same (sameD _ _))
    | (go_at_call 69; exact Calls.quiet_of_same (sameA _ _))
    | (go_at_call 70; exact Calls.quiet_of_same (sameB _ _))
    | (go_at_call 80; exact Calls.quiet_of_same (sameR _ _ _))
    | (go_at_call 81; exact Calls.quiet_of_same (sameL _ _))
    | (go_at_call 82; exact Calls.quiet_of_same (sameM _ _))))
  go_wp2_with fail
  go_ret
  exact ⟨rfl, below_drewN ((Below.refl _ _).alloc (Nat.le_refl _) _) _⟩

set_option maxRecDepth 100000 in
set_option maxHeartbeats 4000000 in
theorem rcheck_f (op d a b imm : Int) (w : World) (hf : ((Isa.form op : Int) == 0) = true) :
    Calls Tryd.prog 65 #[.agg #[.int .i64 op, .int .i64 d, .int .i64 a, .int .i64 b, .int .i64 imm]] w fun e w' => e = .returned (.int .i64 11) ∧ Below w.heap.size w w' := by
  go_enter Tryd.func65, Tryd.ntmps65
  go_wp2_with fail
  go_quiet ((first
    | (go_at_call 79; exact Calls.quiet_of_same (sameF _ _))
    | (go_at_call 68; exact Calls.quiet_of_same (sameD _ _))
    | (go_at_call 69; exact Calls.quiet_of_same (sameA _ _))
    | (go_at_call 70; exact Calls.quiet_of_same (sameB _ _))
    | (go_at_call 80; exact Calls.quiet_of_same (sameR _ _ _))
    | (go_at_call 81; exact Calls.quiet_of_same (sameL _ _))
    | (go_at_call 82; exact Calls.quiet_of_same (sameM _ _))))
  go_wp2_with fail
  go_ret
  exact ⟨rfl, below_drewN ((Below.refl _ _).alloc (Nat.le_refl _) _) _⟩

set_option maxRecDepth 100000 in
set_option maxHeartbeats 4000000 in
theorem rcheck_d (op d a b imm : Int) (w : World) (hf : ((Isa.form op : Int) == 0) = false) (h2 : Isa.regOk (Isa.shape (Isa.form op) 0) d = false) :
    Calls Tryd.prog 65 #[.agg #[.int .i64 op, .int .i64 d, .int .i64 a, .int .i64 b, .int .i64 imm]] w fun e w' => e = .returned (.int .i64 11) ∧ Below w.heap.size w w' := by
  go_enter Tryd.func65, Tryd.ntmps65
  go_wp2_with fail
  go_quiet ((first
    | (go_at_call 79; exact Calls.quiet_of_same (sameF _ _))
    | (go_at_call 68; exact Calls.quiet_of_same (sameD _ _))
    | (go_at_call 69; exact Calls.quiet_of_same (sameA _ _))
    | (go_at_call 70; exact Calls.quiet_of_same (sameB _ _))
    | (go_at_call 80; exact Calls.quiet_of_same (sameR _ _ _))
    | (go_at_call 81; exact Calls.quiet_of_same (sameL _ _))
    | (go_at_call 82; exact Calls.quiet_of_same (sameM _ _))))
  go_wp2_with fail
  go_ret
  exact ⟨rfl, below_drewN ((Below.refl _ _).alloc (Nat.le_refl _) _) _⟩

set_option maxRecDepth 100000 in
set_option maxHeartbeats 4000000 in
theorem rcheck_a (op d a b imm : Int) (w : World) (hf : ((Isa.form op : Int) == 0) = false) (h2 : Isa.regOk (Isa.shape (Isa.form op) 0) d = true) (h3 : Isa.regOk (Isa.shape (Isa.form op) 1) a = false) :
    Calls Tryd.prog 65 #[.agg #[.int .i64 op, .int .i64 d, .int .i64 a, .int .i64 b, .int .i64 imm]] w fun e w' => e = .returned (.int .i64 11) ∧ Below w.heap.size w w' := by
  go_enter Tryd.func65, Tryd.ntmps65
  go_wp2_with fail
  go_quiet ((first
    | (go_at_call 79; exact Calls.quiet_of_same (sameF _ _))
    | (go_at_call 68; exact Calls.quiet_of_same (sameD _ _))
    | (go_at_call 69; exact Calls.quiet_of_same (sameA _ _))
    | (go_at_call 70; exact Calls.quiet_of_same (sameB _ _))
    | (go_at_call 80; exact Calls.quiet_of_same (sameR _ _ _))
    | (go_at_call 81; exact Calls.quiet_of_same (sameL _ _))
    | (go_at_call 82; exact Calls.quiet_of_same (sameM _ _))))
  go_wp2_with fail
  go_ret
  exact ⟨rfl, below_drewN ((Below.refl _ _).alloc (Nat.le_refl _) _) _⟩

set_option maxRecDepth 100000 in
set_option maxHeartbeats 4000000 in
theorem rcheck_b (op d a b imm : Int) (w : World) (hf : ((Isa.form op : Int) == 0) = false) (h2 : Isa.regOk (Isa.shape (Isa.form op) 0) d = true) (h3 : Isa.regOk (Isa.shape (Isa.form op) 1) a = true) (h4 : Isa.regOk (Isa.shape (Isa.form op) 2) b = false) :
    Calls Tryd.prog 65 #[.agg #[.int .i64 op, .int .i64 d, .int .i64 a, .int .i64 b, .int .i64 imm]] w fun e w' => e = .returned (.int .i64 11) ∧ Below w.heap.size w w' := by
  go_enter Tryd.func65, Tryd.ntmps65
  go_wp2_with fail
  go_quiet ((first
    | (go_at_call 79; exact Calls.quiet_of_same (sameF _ _))
    | (go_at_call 68; exact Calls.quiet_of_same (sameD _ _))
    | (go_at_call 69; exact Calls.quiet_of_same (sameA _ _))
    | (go_at_call 70; exact Calls.quiet_of_same (sameB _ _))
    | (go_at_call 80; exact Calls.quiet_of_same (sameR _ _ _))
    | (go_at_call 81; exact Calls.quiet_of_same (sameL _ _))
    | (go_at_call 82; exact Calls.quiet_of_same (sameM _ _))))
  go_wp2_with fail
  go_ret
  exact ⟨rfl, below_drewN ((Below.refl _ _).alloc (Nat.le_refl _) _) _⟩

set_option maxRecDepth 100000 in
set_option maxHeartbeats 4000000 in
theorem rcheck_l (op d a b imm : Int) (w : World) (hf : ((Isa.form op : Int) == 0) = false) (h2 : Isa.regOk (Isa.shape (Isa.form op) 0) d = true) (h3 : Isa.regOk (Isa.shape (Isa.form op) 1) a = true) (h4 : Isa.regOk (Isa.shape (Isa.form op) 2) b = true) (h5 : imm < Isa.low op) :
    Calls Tryd.prog 65 #[.agg #[.int .i64 op, .int .i64 d, .int .i64 a, .int .i64 b, .int .i64 imm]] w fun e w' => e = .returned (.int .i64 11) ∧ Below w.heap.size w w' := by
  go_enter Tryd.func65, Tryd.ntmps65
  go_wp2_with fail
  go_quiet ((first
    | (go_at_call 79; exact Calls.quiet_of_same (sameF _ _))
    | (go_at_call 68; exact Calls.quiet_of_same (sameD _ _))
    | (go_at_call 69; exact Calls.quiet_of_same (sameA _ _))
    | (go_at_call 70; exact Calls.quiet_of_same (sameB _ _))
    | (go_at_call 80; exact Calls.quiet_of_same (sameR _ _ _))
    | (go_at_call 81; exact Calls.quiet_of_same (sameL _ _))
    | (go_at_call 82; exact Calls.quiet_of_same (sameM _ _))))
  go_wp2_with fail
  go_ret
  exact ⟨rfl, below_drewN ((Below.refl _ _).alloc (Nat.le_refl _) _) _⟩

set_option maxRecDepth 100000 in
set_option maxHeartbeats 4000000 in
theorem rcheck_m (op d a b imm : Int) (w : World) (hf : ((Isa.form op : Int) == 0) = false) (h2 : Isa.regOk (Isa.shape (Isa.form op) 0) d = true) (h3 : Isa.regOk (Isa.shape (Isa.form op) 1) a = true) (h4 : Isa.regOk (Isa.shape (Isa.form op) 2) b = true) (h5 : Isa.low op ≤ imm) (h6 : Isa.high op < imm) :
    Calls Tryd.prog 65 #[.agg #[.int .i64 op, .int .i64 d, .int .i64 a, .int .i64 b, .int .i64 imm]] w fun e w' => e = .returned (.int .i64 11) ∧ Below w.heap.size w w' := by
  go_enter Tryd.func65, Tryd.ntmps65
  go_wp2_with fail
  go_quiet ((first
    | (go_at_call 79; exact Calls.quiet_of_same (sameF _ _))
    | (go_at_call 68; exact Calls.quiet_of_same (sameD _ _))
    | (go_at_call 69; exact Calls.quiet_of_same (sameA _ _))
    | (go_at_call 70; exact Calls.quiet_of_same (sameB _ _))
    | (go_at_call 80; exact Calls.quiet_of_same (sameR _ _ _))
    | (go_at_call 81; exact Calls.quiet_of_same (sameL _ _))
    | (go_at_call 82; exact Calls.quiet_of_same (sameM _ _))))
  go_wp2_with fail
  go_ret
  exact ⟨rfl, below_drewN ((Below.refl _ _).alloc (Nat.le_refl _) _) _⟩

theorem rcheck_bad (op d a b imm : Int) (w : World) (ho : Isa.ok op d a b imm = false) :
    Calls Tryd.prog 65 #[.agg #[.int .i64 op, .int .i64 d, .int .i64 a, .int .i64 b, .int .i64 imm]] w fun e w' => e = .returned (.int .i64 11) ∧ Below w.heap.size w w' := by
  by_cases h1 : Isa.form op = 0
  · exact rcheck_f op d a b imm w (beq_iff_eq.2 (by omega))
  have hf : ((Isa.form op : Int) == 0) = false := beq_eq_false_iff_ne.2 (by omega)
  cases h2 : Isa.regOk (Isa.shape (Isa.form op) 0) d
  · exact rcheck_d op d a b imm w hf h2
  cases h3 : Isa.regOk (Isa.shape (Isa.form op) 1) a
  · exact rcheck_a op d a b imm w hf h2 h3
  cases h4 : Isa.regOk (Isa.shape (Isa.form op) 2) b
  · exact rcheck_b op d a b imm w hf h2 h3 h4
  by_cases h5 : Isa.low op ≤ imm
  · by_cases h6 : imm ≤ Isa.high op
    · exfalso
      unfold Isa.ok at ho
      rw [h2, h3, h4, decide_eq_true h1, decide_eq_true h5, decide_eq_true h6] at ho
      exact absurd ho (by decide)
    · exact rcheck_m op d a b imm w hf h2 h3 h4 h5 (by omega)
  · exact rcheck_l op d a b imm w hf h2 h3 h4 (by omega)
end Go.Proofs.YtbplmbignalbgaaDoor
