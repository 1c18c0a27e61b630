/- Contracts: the document's answer: forms, names, ranges. Conditions: none. -/
import Derived.Test.YtmgheeldoadnhaaDoorWalkG
namespace Go.Proofs.YtmgheeldoadnhaaDoor
open Go.RowKit

set_option maxHeartbeats 1000000 in
theorem rform_any (op : Int) (w : World) :
    Calls Tryd.prog 12 #[.int .i64 op] w fun e w' => e = .returned (.int .i64 (Isa.form op)) ∧ w = w' := by
  go_enter Tryd.func12, Tryd.ntmps12
  go_wp2
  all_goals
    go_ret
    refine ⟨?_, rfl⟩
    simp only [beq_iff_eq, beq_eq_false_iff_ne, ne_eq] at *
    refine ret_nat ?_ (by decide)
    unfold Isa.form
    first | (subst_vars; decide) | ((repeat' split) <;> (first | rfl | omega))

/-- The names, one behind the other, each with a blank behind it. -/
def allL : List UInt8 := [97, 100, 100, 32, 115, 117, 98, 32, 109, 117, 108, 32, 109, 117, 108, 104, 32, 100, 105, 118, 32, 114, 101, 109, 32, 97, 110, 100, 32, 111, 114, 32, 120, 111, 114, 32, 115, 108, 108, 32, 115, 114, 108, 32, 115, 114, 97, 32, 115, 108, 116, 32, 115, 108, 116, 117, 32, 97, 100, 100, 105, 32, 97, 110, 100, 105, 32, 111, 114, 105, 32, 120, 111, 114, 105, 32, 115, 108, 108, 105, 32, 115, 114, 108, 105, 32, 115, 114, 97, 105, 32, 115, 108, 116, 105, 32, 108, 117, 105, 32, 108, 119, 32, 115, 119, 32, 98, 101, 113, 32, 98, 110, 101, 32, 98, 108, 116, 32, 98, 103, 101, 32, 98, 108, 116, 117, 32, 98, 103, 101, 117, 32, 106, 97, 108, 32, 106, 97, 108, 114, 32, 105, 110, 32, 111, 117, 116, 32, 104, 97, 108, 116, 32]
def allB : ByteArray := ⟨allL.toArray⟩
/-- What the loop finds: by the text that is left, the number and the word. -/
def scan (op : Int) : List UInt8 → Nat → List UInt8 → List UInt8
  | [], _, _ => []
  | c :: r, n, word => if c = 32 then (if (n : Int) = op then word else scan op r (n + 1) []) else scan op r n (word ++ [c])
theorem scan_far (op : Int) : ∀ (l : List UInt8) (n : Nat) (word : List UInt8), (op < n ∨ (n : Int) + l.countP (· = 32) ≤ op) → scan op l n word = []
  | [], _, _, _ => rfl
  | c :: r, n, word, h => by
    unfold scan
    simp only [List.countP_cons] at h
    by_cases hc : c = 32
    · rw [if_pos hc]
      simp only [hc, decide_true, if_true] at h
      rw [if_neg (by omega)]
      exact scan_far op r (n + 1) [] (by omega)
    · rw [if_neg hc]
      simp only [hc, decide_false, Bool.false_eq_true, if_false] at h
      exact scan_far op r n (word ++ [c]) (by omega)
theorem scan_near : ∀ i : Fin 37, 1 ≤ i.val → scan ((i.val : Nat) : Int) allL 1 [] = Isa.nameL i.val := by decide
theorem scan_name (op : Int) : (⟨(scan op allL 1 []).toArray⟩ : ByteArray) = nameOf op := by
  have hp := Isa.form_pos op
  unfold nameOf
  by_cases h : Isa.form op = 0
  · rw [if_pos h, scan_far op allL 1 [] (by
      have : allL.countP (· = 32) = 36 := by decide
      rw [this]; omega)]
  · rw [if_neg h]
    have := scan_near ⟨op.toNat, by omega⟩ (by show 1 ≤ op.toNat; omega)
    rw [show (((⟨op.toNat, by omega⟩ : Fin 37).val : Nat) : Int) = op by show ((op.toNat : Nat) : Int) = op; omega] at this
    rw [this]
    rfl
theorem names_any (w : World) : Calls Tryd.prog 30 #[] w fun e w' => e = .returned (.string ⟨(allL.take 152).toArray⟩) ∧ w = w' := by
  go_enter Tryd.func30, Tryd.ntmps30
  go_wp2
  go_ret
  exact ⟨rfl, rfl⟩
end Go.Proofs.YtmgheeldoadnhaaDoor
