/- Contracts: the document's fields. Conditions: none. -/
import Derived.Test.YtbplmbignalbgaaDoorIsaRa
import Derived.Test.YtbplmbignalbgaaDoorIsaSe
namespace Go.Proofs.YtbplmbignalbgaaDoor
open Go.RowKit

theorem ret_bool {a b : Bool} (h : a = b) : Ending.returned (.bool a) = .returned (.bool b) := by rw [h]

set_option maxRecDepth 100000 in
set_option maxHeartbeats 1000000 in
theorem hasD_any (op : Int) (w : World) : Calls Tryd.prog 68 #[.int .i64 op] w fun e w' => e = .returned (.bool (Isa.shape (Isa.form op) 0)) ∧ w = w' := by
  obtain ⟨f, hf⟩ : ∃ f, f = Isa.form op := ⟨_, rfl⟩
  have hl : f ≤ 7 := by rw [hf]; exact Isa.form_le op
  have HF := Lib.hid hf
  rw [← hf]
  clear hf
  rcases (show f = 0 ∨ f = 1 ∨ f = 2 ∨ f = 3 ∨ f = 4 ∨ f = 5 ∨ f = 6 ∨ f = 7 by omega) with rfl | rfl | rfl | rfl | rfl | rfl | rfl | rfl
  all_goals
    go_enter Tryd.func68, Tryd.ntmps68
    go_wp2_with (go_at_call 79; refine (rform_any _ _).mono ?_; rintro e w' ⟨rfl, rfl⟩; rw [← HF.out])
    go_ret
    exact ⟨rfl, rfl⟩

set_option maxRecDepth 100000 in
set_option maxHeartbeats 1000000 in
theorem hasA_any (op : Int) (w : World) : Calls Tryd.prog 69 #[.int .i64 op] w fun e w' => e = .returned (.bool (Isa.shape (Isa.form op) 1)) ∧ w = w' := by
  obtain ⟨f, hf⟩ : ∃ f, f = Isa.form op := ⟨_, rfl⟩
  have hl : f ≤ 7 := by rw [hf]; exact Isa.form_le op
  have HF := Lib.hid hf
  rw [← hf]
  clear hf
  rcases (show f = 0 ∨ f = 1 ∨ f = 2 ∨ f = 3 ∨ f = 4 ∨ f = 5 ∨ f = 6 ∨ f = 7 by omega) with rfl | rfl | rfl | rfl | rfl | rfl | rfl | rfl
  all_goals
    go_enter Tryd.func69, Tryd.ntmps69
    go_wp2_with (go_at_call 79; refine (rform_any _ _).mono ?_; rintro e w' ⟨rfl, rfl⟩; rw [← HF.out])
    go_ret
    exact ⟨rfl, rfl⟩

set_option maxRecDepth 100000 in
set_option maxHeartbeats 1000000 in
theorem hasB_any (op : Int) (w : World) : Calls Tryd.prog 70 #[.int .i64 op] w fun e w' => e = .returned (.bool (Isa.shape (Isa.form op) 2)) ∧ w = w' := by
  obtain ⟨f, hf⟩ : ∃ f, f = Isa.form op := ⟨_, rfl⟩
  have hl : f ≤ 7 := by rw [hf]; exact Isa.form_le op
  have HF := Lib.hid hf
  rw [← hf]
  clear hf
  rcases (show f = 0 ∨ f = 1 ∨ f = 2 ∨ f = 3 ∨ f = 4 ∨ f = 5 ∨ f = 6 ∨ f = 7 by omega) with rfl | rfl | rfl | rfl | rfl | rfl | rfl | rfl
  all_goals
    go_enter Tryd.func70, Tryd.ntmps70
    go_wp2_with (go_at_call 79; refine (rform_any _ _).mono ?_; rintro e w' ⟨rfl, rfl⟩; rw [← HF.out])
    go_ret
    exact ⟨rfl, rfl⟩

/-- The bits of Imm. -/
def immBits (f : Nat) : Int := if f = 5 then 21 else if 2 ≤ f ∧ f ≤ 4 then 16 else 0
set_option maxRecDepth 100000 in
set_option maxHeartbeats 1000000 in
theorem bits_any (op : Int) (w : World) : Calls Tryd.prog 71 #[.int .i64 op] w fun e w' => e = .returned (.int .i64 (immBits (Isa.form op))) ∧ w = w' := by
  obtain ⟨f, hf⟩ : ∃ f, f = Isa.form op := ⟨_, rfl⟩
  have hl : f ≤ 7 := by rw [hf]; exact Isa.form_le op
  have HF := Lib.hid hf
  rw [← hf]
  clear hf
  rcases (show f = 0 ∨ f = 1 ∨ f = 2 ∨ f = 3 ∨ f = 4 ∨ f = 5 ∨ f = 6 ∨ f = 7 by omega) with rfl | rfl | rfl | rfl | rfl | rfl | rfl | rfl
  all_goals
    go_enter Tryd.func71, Tryd.ntmps71
    go_wp2_with (go_at_call 79; refine (rform_any _ _).mono ?_; rintro e w' ⟨rfl, rfl⟩; rw [← HF.out])
    go_ret
    exact ⟨rfl, rfl⟩

set_option maxRecDepth 100000 in
set_option maxHeartbeats 1000000 in
theorem register_any (has : Bool) (r : Int) (w : World) : Calls Tryd.prog 80 #[.bool has, .int .i64 r] w fun e w' => e = .returned (.bool (Isa.regOk has r)) ∧ w = w' := by
  obtain ⟨x, hx⟩ : ∃ x, x = Isa.regOk has r := ⟨_, rfl⟩
  have HX := Lib.hid hx
  rw [← hx]
  clear hx
  cases has
  all_goals
    by_cases h0 : r = 0
    · subst h0
      go_enter Tryd.func80, Tryd.ntmps80
      go_wp2
      go_ret
      exact ⟨ret_bool (by rw [HX.out]; rfl), rfl⟩
    · have h1 : (r == 0) = false := beq_eq_false_iff_ne.2 h0
      have HZ := Lib.hid h0
      clear h0
      by_cases h2 : 0 ≤ r
      · by_cases h3 : r ≤ 31
        · go_enter Tryd.func80, Tryd.ntmps80
          go_wp2
          go_ret
          refine ⟨ret_bool ?_, rfl⟩
          rw [HX.out]
          unfold Isa.regOk
          have := HZ.out
          simp
          omega
        · go_enter Tryd.func80, Tryd.ntmps80
          go_wp2
          go_ret
          refine ⟨ret_bool ?_, rfl⟩
          rw [HX.out]
          unfold Isa.regOk
          have := HZ.out
          simp
          omega
      · go_enter Tryd.func80, Tryd.ntmps80
        go_wp2
        go_ret
        refine ⟨ret_bool ?_, rfl⟩
        rw [HX.out]
        unfold Isa.regOk
        have := HZ.out
        simp
        omega
end Go.Proofs.YtbplmbignalbgaaDoor
