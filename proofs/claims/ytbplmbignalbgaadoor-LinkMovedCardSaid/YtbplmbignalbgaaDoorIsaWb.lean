/- Contracts: Check. Conditions: the tables are as laid. -/
import Derived.Test.YtbplmbignalbgaaDoorIsaWa
import Derived.Deep.Light
namespace Go.Proofs.YtbplmbignalbgaaDoor
open Go.RowKit

theorem idx0 (x y z : Value) (w : World) : (Instr.index 109 (.agg #[x, y, z]) (.int .i64 0)).run Tryd.prog w = .ok x w := by kernel_rfl
theorem idx1 (x y z : Value) (w : World) : (Instr.index 109 (.agg #[x, y, z]) (.int .i64 1)).run Tryd.prog w = .ok y w := by kernel_rfl
theorem idx2 (x y z : Value) (w : World) : (Instr.index 109 (.agg #[x, y, z]) (.int .i64 2)).run Tryd.prog w = .ok z w := by kernel_rfl

/-- 0 where it is an instruction, else 11. -/
def chk (op d a b imm : Int) : Int := if Isa.ok op d a b imm then 0 else 11

theorem chk_of {op d a b imm r : Int} (h : (r = 0 ∧ Isa.form op ≠ 0 ∧ (0 ≤ d ∧ d ≤ if Isa.shape (Isa.form op) 0 then 31 else 0) ∧ (0 ≤ a ∧ a ≤ if Isa.shape (Isa.form op) 1 then 31 else 0) ∧ (0 ≤ b ∧ b ≤ if Isa.shape (Isa.form op) 2 then 31 else 0) ∧ Isa.low op ≤ imm ∧ imm ≤ Isa.high op)
    ∨ (r = 11 ∧ (Isa.form op = 0 ∨ d < 0 ∨ (if Isa.shape (Isa.form op) 0 then 31 else 0) < d ∨ a < 0 ∨ (if Isa.shape (Isa.form op) 1 then 31 else 0) < a ∨ b < 0 ∨ (if Isa.shape (Isa.form op) 2 then 31 else 0) < b ∨ imm < Isa.low op ∨ Isa.high op < imm))) : r = chk op d a b imm := by
  unfold chk Isa.ok Isa.regOk
  rcases h with ⟨rfl, h1, ⟨h2, h3⟩, ⟨h4, h5⟩, ⟨h6, h7⟩, h8, h9⟩ | ⟨rfl, h⟩
  · rw [if_pos (by simp only [Bool.and_eq_true, decide_eq_true_eq]; exact ⟨⟨⟨⟨⟨h1, h2, h3⟩, h4, h5⟩, h6, h7⟩, h8⟩, h9⟩)]
  · rw [if_neg (by simp only [Bool.and_eq_true, decide_eq_true_eq]; omega)]

set_option maxRecDepth 100000 in
set_option maxHeartbeats 2000000 in
theorem check_any (op d a b imm : Int) (w : World) (h : Env w) :
    Calls Tryd.prog 56 #[.agg #[.int .i64 op, .int .i64 d, .int .i64 a, .int .i64 b, .int .i64 imm]] w fun e w' =>
      e = .returned (.int .i64 (chk op d a b imm)) ∧ Below w.heap.size w w' := by
  have hl := Isa.form_le op
  have hsz := h.size
  go_enter Tryd.func56, Tryd.ntmps56
  go_wp2_with (go_at_call 72; refine (form_any _ _).mono ?_; rintro e w' ⟨rfl, rfl⟩)
  · go_returns
    refine ⟨ret_int (chk_of ?_), (Below.refl _ _).alloc (Nat.le_refl _) _⟩
    have hq : ((Isa.form op : Int) == 0) = true := by assumption
    simp only [beq_iff_eq] at hq
    exact Or.inr ⟨rfl, Or.inl (by omega)⟩
  · refine (registers_any _ _).mono ?_
    rintro e w1 ⟨rfl, hb⟩
    have hb0 := (Below.alloc (Below.refl w.heap.size w) (Nat.le_refl _) (.cells #[.int .i64 op, .int .i64 d, .int .i64 a, .int .i64 b, .int .i64 imm] 37)).trans (hb.mono (by simp))
    have h1 : Env w1 := h.below hb0
    obtain ⟨c0, c1, c2, c3, c4⟩ := cells5 ((hb.block w.heap.size (by simp)).trans (heap_new w _))
    have s0 : w1.cell? ⟨0, Isa.form op * 4, none⟩ = _ := h1.shapes (Isa.form op) 0 (by omega) (by omega)
    have s1 := h1.shapes (Isa.form op) 1 (by omega) (by omega)
    have s2 := h1.shapes (Isa.form op) 2 (by omega) (by omega)
    have hz := hb0.size
    clear hb
    have i0 := idx0; have i1 := idx1; have i2 := idx2
    go_wp2_with fail
    have hq : ((Isa.form op : Int) == 0) = false := by assumption
    have HQ : Hid (Isa.form op ≠ 0) := by simp only [beq_eq_false_iff_ne, ne_eq] at hq; unfold Hid; omega
    refine wp_loop_rounds 4 ?_
    rw [rounds_succ]
    go_wp2_with fail
    any_goals (rw [rounds_succ]; go_wp2_with fail)
    any_goals (rw [rounds_succ]; go_wp2_with fail)
    any_goals (rw [rounds_succ]; go_wp2_with fail)
    any_goals
      refine (limits_any _ _ h1).mono ?_
      rintro e w2 ⟨rfl, rfl⟩
      go_wp2_with fail
    all_goals
      go_returns
      refine ⟨ret_int (chk_of ?_), hb0⟩
      go_light
      clear hq h1 h hb0 c0 c1 c2 c3 c4 s0 s1 s2 i0 i1 i2
      have hq := HQ.out
      simp only [*, if_true, if_false, Bool.false_eq_true, true_and, and_true, false_or, or_true, true_or, ne_eq, not_false_eq_true]
      all_goals omega
end Go.Proofs.YtbplmbignalbgaaDoor
