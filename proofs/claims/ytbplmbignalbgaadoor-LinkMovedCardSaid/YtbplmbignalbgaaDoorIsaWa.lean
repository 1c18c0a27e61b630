/- Contracts of the instructions' small functions. Conditions: the world's tables are as laid. -/
import Derived.Test.YtbplmbignalbgaaDoorRows
import Derived.Test.YtbplmbignalbgaaDoorIsaSa
import Derived.WalkKit
import Derived.WalkSpells
import Derived.WalkLawsBesides
import Derived.Lib.Hide
import Derived.RegionTactic
import Derived.ChangeAlike
import Derived.Handy
namespace Go.Proofs.YtbplmbignalbgaaDoor
open Go.RowKit

theorem ret_int {k : IntKind} {a b : Int} (h : a = b) : Ending.returned (.int k a) = .returned (.int k b) := by rw [h]
theorem ret_nat {k : IntKind} {a : Int} {b : Nat} (h : b = a.toNat) (h0 : 0 ≤ a) : Ending.returned (.int k a) = .returned (.int k b) := by
  apply ret_int; omega

set_option maxHeartbeats 1000000 in
theorem form_any (op : Int) (w : World) :
    Calls Tryd.prog 72 #[.int .i64 op] w fun e w' => e = .returned (.int .i64 (Isa.form op)) ∧ w = w' := by
  go_enter Tryd.func72, Tryd.ntmps72
  go_wp2
  all_goals
    go_ret
    refine ⟨?_, rfl⟩
    simp only [beq_iff_eq, beq_eq_false_iff_ne, ne_eq] at *
    refine ret_nat ?_ (by decide)
    unfold Isa.form
    first | (subst_vars; decide) | ((repeat' split) <;> (first | rfl | omega))

/-- The tables as the walks want them. -/
structure Env (w : World) : Prop where
  shapes : ∀ f j, f < 8 → j < 4 → w.cell? ⟨0, f * 4 + j, none⟩ = some (.bool (Isa.shape f j))
  size : 0 < w.heap.size

set_option maxHeartbeats 1000000 in
theorem limits_any (op : Int) (w : World) (h : Env w) :
    Calls Tryd.prog 74 #[.int .i64 op] w fun e w' => e = .returned (.tuple #[.int .i64 (Isa.low op), .int .i64 (Isa.high op)]) ∧ w = w' := by
  have hl := Isa.form_le op
  have hc := h.shapes (Isa.form op) 3 (by omega) (by omega)
  cases hf : Isa.shape (Isa.form op) 3
  · rw [hf] at hc
    have e1 : Isa.low op = 0 := by unfold Isa.low; rw [if_pos hf]
    have e2 : Isa.high op = 0 := by unfold Isa.high; rw [if_pos hf]
    rw [e1, e2]
    clear e1 e2 hf
    go_enter Tryd.func74, Tryd.ntmps74
    go_wp2_with (go_at_call 72; refine (form_any _ _).mono ?_; rintro e w' ⟨rfl, rfl⟩)
    go_ret2
    exact ⟨rfl, rfl⟩
  · rw [hf] at hc
    have H := Lib.hid hf
    clear hf
    go_enter Tryd.func74, Tryd.ntmps74
    go_wp2_with (go_at_call 72; refine (form_any _ _).mono ?_; rintro e w' ⟨rfl, rfl⟩)
    all_goals
      go_ret2
      refine ⟨?_, rfl⟩
      have hf := H.out
      simp only [beq_iff_eq, beq_eq_false_iff_ne, ne_eq] at *
      unfold Isa.low Isa.high
      simp only [hf, Bool.true_eq_false, if_false]
      first | (subst_vars; rfl) | ((repeat rw [if_neg (by omega)]); rfl)

set_option maxHeartbeats 400000 in
/-- The registers' places. -/
theorem registers_any (b : Nat) (w : World) :
    Calls Tryd.prog 73 #[.pointer (some ⟨b, 0, none⟩)] w fun e w' => e = .returned (.agg #[.pointer (some ⟨b, 1, none⟩), .pointer (some ⟨b, 2, none⟩), .pointer (some ⟨b, 3, none⟩)]) ∧ Below w.heap.size w w' := by
  go_enter Tryd.func73, Tryd.ntmps73
  go_wp2
  go_region
  all_goals
    go_wp2
    go_returns
    exact ⟨rfl, ((Below.refl _ _).alloc (Nat.le_refl _) _).drew⟩

theorem bcell {W w1 : World} (hb : Below W.heap.size W w1) : (∀ b o, b < W.heap.size → w1.cell? ⟨b, o, none⟩ = W.cell? ⟨b, o, none⟩) ∧ (∀ b o, b < W.heap.size → w1.frozen? ⟨b, o, none⟩ = W.frozen? ⟨b, o, none⟩) :=
  ⟨fun b o h => hb.cell (p := ⟨b, o, none⟩) h, fun b o h => hb.frozen (p := ⟨b, o, none⟩) h⟩
theorem Env.below {W w1 : World} (h : Env W) (hb : Below W.heap.size W w1) : Env w1 :=
  ⟨fun f j hf hj => ((bcell hb).1 _ _ (by have := h.size; omega)).trans (h.shapes f j hf hj), Nat.lt_of_lt_of_le h.size hb.size⟩
theorem Env.alloc {W : World} (h : Env W) (o : Obj) : Env (W.alloc o) := h.below ((Below.refl _ _).alloc (Nat.le_refl _) _)
/-- The cells of a block that is known whole. -/
theorem cells5 {w : World} {b t : Nat} {v0 v1 v2 v3 v4 : Value} {fr : Nat × Nat} (h : w.heap[b]? = some (.cells #[v0, v1, v2, v3, v4] t fr)) :
    w.cell? ⟨b, 0, none⟩ = some v0 ∧ w.cell? ⟨b, 1, none⟩ = some v1 ∧ w.cell? ⟨b, 2, none⟩ = some v2 ∧ w.cell? ⟨b, 3, none⟩ = some v3 ∧ w.cell? ⟨b, 4, none⟩ = some v4 := by
  simp [World.cell?, h]
theorem heap_new (w : World) (o : Obj) : (w.alloc o).heap[w.heap.size]? = some o := by
  show (w.heap.push o)[w.heap.size]? = _
  simp
end Go.Proofs.YtbplmbignalbgaaDoor
