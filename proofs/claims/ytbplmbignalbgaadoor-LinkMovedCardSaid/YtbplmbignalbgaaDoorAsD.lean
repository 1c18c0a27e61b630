/- Contracts: the small functions of the assembler. Conditions: none. -/
import Derived.Test.YtbplmbignalbgaaDoorAsC
import Derived.Test.YtbplmbignalbgaaDoorIsaWd
import Derived.Outline
import Derived.Deep.QuietTactic
import Derived.BigQuiet
import Derived.Deep.Light
import Derived.StillTailTactics
namespace Go.Proofs.YtbplmbignalbgaaDoor
open Go.RowKit Asm
set_option linter.unusedVariables false
set_option linter.unusedSimpArgs false

theorem retB {a b : Bool} (h : a = b) : Ending.returned (.bool a) = .returned (.bool b) := by rw [h]
def iv (x : It) : Value := .agg #[.int .i64 x.kind, .int .i64 x.op, .int .i64 x.d, .int .i64 x.a, .int .i64 x.b, .int .i64 x.imm, .string x.lab, .int .u32 x.word]
def jus (f : Int) : Int := if f = 1 then 1 else 3
def brs (f : Nat) : Int := if f = 1 then 1 else if f = 2 then 2 else 4

set_option maxHeartbeats 1000000 in
theorem turned_any (op : Int) (w : World) : Calls Tryd.prog 57 #[.int .i64 op] w fun e w' => e = .returned (.int .i64 (turned op)) ∧ w = w' := by
  go_enter Tryd.func57, Tryd.ntmps57
  go_wp2
  all_goals
    go_ret
    refine ⟨ret_int ?_, rfl⟩
  all_goals
    try simp only [beq_iff_eq, beq_eq_false_iff_ne, ne_eq, decide_eq_true_eq, decide_eq_false_iff_not] at *
  all_goals
    first | contradiction | (unfold turned; (repeat' split) <;> omega) | omega
set_option maxHeartbeats 1000000 in
theorem refers_any (k : Int) (w : World) : Calls Tryd.prog 44 #[.int .i64 k] w fun e w' => e = .returned (.bool (decide (k = 3 ∨ k = 4 ∨ k = 5 ∨ k = 7))) ∧ w = w' := by
  go_enter Tryd.func44, Tryd.ntmps44
  go_wp2
  all_goals
    go_ret
    refine ⟨retB ?_, rfl⟩
  all_goals
    try simp only [beq_iff_eq, beq_eq_false_iff_ne, ne_eq, decide_eq_true_eq, decide_eq_false_iff_not] at *
  all_goals
    first | contradiction | (subst_vars; decide) | (symm; rw [decide_eq_false_iff_not]; omega)
set_option maxHeartbeats 1000000 in
theorem isTurn_any (k : Int) (w : World) : Calls Tryd.prog 45 #[.int .i64 k] w fun e w' => e = .returned (.bool (decide (k = 3 ∨ k = 4))) ∧ w = w' := by
  go_enter Tryd.func45, Tryd.ntmps45
  go_wp2
  all_goals
    go_ret
    refine ⟨retB ?_, rfl⟩
  all_goals
    try simp only [beq_iff_eq, beq_eq_false_iff_ne, ne_eq, decide_eq_true_eq, decide_eq_false_iff_not] at *
  all_goals
    first | contradiction | (by_cases h3 : k = 3 <;> by_cases h4 : k = 4 <;> simp_all)
set_option maxHeartbeats 1000000 in
theorem jumpSize_any (f : Int) (w : World) : Calls Tryd.prog 61 #[.int .i64 f] w fun e w' => e = .returned (.int .i64 (jus f)) ∧ w = w' := by
  go_enter Tryd.func61, Tryd.ntmps61
  go_wp2
  all_goals
    go_ret
    refine ⟨ret_int ?_, rfl⟩
  all_goals
    try simp only [beq_iff_eq, beq_eq_false_iff_ne, ne_eq, decide_eq_true_eq, decide_eq_false_iff_not] at *
  all_goals
    first | contradiction | (unfold jus; (repeat' split) <;> omega) | omega
set_option maxHeartbeats 1000000 in
theorem branchSize_any (f : Nat) (w : World) (hf : f < 100) : Calls Tryd.prog 60 #[.int .i64 f] w fun e w' => e = .returned (.int .i64 (brs f)) ∧ w = w' := by
  go_enter Tryd.func60, Tryd.ntmps60
  go_wp2_with (go_at_call 61; refine (jumpSize_any _ _).mono ?_; rintro e w' ⟨rfl, rfl⟩)
  all_goals
    go_ret
    refine ⟨ret_int ?_, rfl⟩
  all_goals
    try simp only [beq_iff_eq, beq_eq_false_iff_ne, ne_eq, decide_eq_true_eq, decide_eq_false_iff_not] at *
  all_goals
    first | contradiction | (unfold jus brs wrap64; (repeat' split) <;> omega) | (unfold brs; (repeat' split) <;> omega)
set_option maxHeartbeats 1000000 in
theorem size_any (x : It) (f : Nat) (w : World) (hf : f < 100) (hw : 0 ≤ x.word ∧ x.word < 4294967296) : Calls Tryd.prog 48 #[iv x, .int .i64 f] w fun e w' => e = .returned (.int .i64 (isz x f)) ∧ Below w.heap.size w w' := by
  unfold iv
  go_enter Tryd.func48, Tryd.ntmps48
  go_wp2_with (first
    | (go_at_call 61; refine (jumpSize_any _ _).mono ?_; rintro e w' ⟨rfl, rfl⟩)
    | (go_at_call 60; refine (branchSize_any _ _ hf).mono ?_; rintro e w' ⟨rfl, rfl⟩))
  all_goals
    go_ret
    refine ⟨ret_int ?_, (Below.refl _ _).alloc (Nat.le_refl _) _⟩
  all_goals
    try simp only [beq_iff_eq, beq_eq_false_iff_ne, ne_eq, decide_eq_true_eq, decide_eq_false_iff_not] at *
  all_goals
    first | contradiction | (unfold isz; (try unfold jus); (try unfold brs); (try unfold wrap64); (repeat' split) <;> omega)
set_option maxHeartbeats 1000000 in
theorem reach_any (x : It) (f : Nat) (w : World) (hf : f < 100) : Calls Tryd.prog 75 #[iv x, .int .i64 f] w fun e w' => e = .returned (.int .i64 (reach x f)) ∧ Below w.heap.size w w' := by
  unfold iv
  go_enter Tryd.func75, Tryd.ntmps75
  go_wp2
  all_goals
    go_ret
    refine ⟨ret_int ?_, (Below.refl _ _).alloc (Nat.le_refl _) _⟩
  all_goals
    try simp only [beq_iff_eq, beq_eq_false_iff_ne, ne_eq, decide_eq_true_eq, decide_eq_false_iff_not] at *
  all_goals
    first | contradiction | (unfold reach; (repeat' split) <;> omega)
set_option maxHeartbeats 1000000 in
theorem rturned_any (op : Int) (w : World) : Calls Tryd.prog 42 #[.int .i64 op] w fun e w' => e = .returned (.int .i64 (turned op)) ∧ w = w' := by
  go_enter Tryd.func42, Tryd.ntmps42
  go_wp2
  all_goals
    go_ret
    refine ⟨ret_int ?_, rfl⟩
  all_goals
    try simp only [beq_iff_eq, beq_eq_false_iff_ne, ne_eq, decide_eq_true_eq, decide_eq_false_iff_not] at *
  all_goals
    first | contradiction | (unfold turned; (repeat' split) <;> omega) | omega
set_option maxHeartbeats 1000000 in
theorem rregister_any (r : Int) (w : World) : Calls Tryd.prog 66 #[.int .i64 r] w fun e w' => e = .returned (.bool (decide (0 ≤ r ∧ r ≤ 31))) ∧ w = w' := by
  go_enter Tryd.func66, Tryd.ntmps66
  go_wp2
  all_goals
    go_ret
    refine ⟨retB ?_, rfl⟩
  all_goals
    try simp only [beq_iff_eq, beq_eq_false_iff_ne, ne_eq, decide_eq_true_eq, decide_eq_false_iff_not] at *
  all_goals
    first | contradiction | (by_cases h0 : 0 ≤ r <;> by_cases h1 : r ≤ 31 <;> first | omega | simp_all)
set_option maxHeartbeats 1000000 in
theorem rsize_any (x : It) (f : Nat) (w : World) (hf : f < 100) (h3 : x.kind = 3 → 1 ≤ f ∧ f ≤ 3) (h4 : x.kind = 4 → 1 ≤ f ∧ f ≤ 2) (hw : 0 ≤ x.word ∧ x.word < 4294967296) : Calls Tryd.prog 40 #[iv x, .int .i64 f] w fun e w' => e = .returned (.int .i64 (isz x f)) ∧ Below w.heap.size w w' := by
  unfold iv
  go_enter Tryd.func40, Tryd.ntmps40
  go_wp2
  all_goals
    go_ret
    refine ⟨ret_int ?_, (Below.refl _ _).alloc (Nat.le_refl _) _⟩
  all_goals
    try simp only [beq_iff_eq, beq_eq_false_iff_ne, ne_eq, decide_eq_true_eq, decide_eq_false_iff_not] at *
  all_goals
    first | contradiction | (unfold isz; (try unfold wrap64); (repeat' split) <;> omega)
set_option maxHeartbeats 1000000 in
theorem rnamed_any (x : It) (w : World) : Calls Tryd.prog 29 #[iv x] w fun e w' => e = .returned (.bool (named x)) ∧ Below w.heap.size w w' := by
  unfold iv
  go_enter Tryd.func29, Tryd.ntmps29
  go_wp2
  all_goals
    go_ret
    refine ⟨retB ?_, (Below.refl _ _).alloc (Nat.le_refl _) _⟩
  all_goals
    try simp only [beq_iff_eq, beq_eq_false_iff_ne, ne_eq, decide_eq_true_eq, decide_eq_false_iff_not] at *
  all_goals
    (unfold named; by_cases h3 : x.kind = 3 <;> by_cases h4 : x.kind = 4 <;> by_cases h5 : x.kind = 5 <;> by_cases h7 : x.kind = 7 <;> simp_all)
end Go.Proofs.YtbplmbignalbgaaDoor
