/- Plain: the document's reading of a word's fields. Conditions: none. -/
import Derived.Test.YtknnmacmohpanaaDoorIsaSh
namespace Go.Proofs.YtknnmacmohpanaaDoor
/-- The Imm that is read. -/
def rImm (nb : Nat) (lo hi v : Int) : Int := if nb = 0 then 0 else if hi < v % (2 : Int) ^ nb ∧ lo < 0 then v % (2 : Int) ^ nb - (2 : Int) ^ nb else v % (2 : Int) ^ nb
open Isa in
theorem rImm_ok {v : Int} (ho : dOk v = true) : rImm (nbN (form (dOp v))) (low (dOp v)) (high (dOp v)) v = fImm v := by
  unfold dOk at ho
  obtain ⟨hn, ⟨o1, o2⟩, hd, ha, hb, m1, m2⟩ := ok_parts ho
  have hl := limits_of (dOp v)
  unfold Limits at hl
  unfold fImm dRaw sh at m1 m2 ⊢
  unfold rImm
  rcases form_cases (dOp v) with h | h | h | h | h | h | h | h
  · exact absurd h hn
  all_goals
    rw [h] at m1 m2 hl ⊢
    simp only [Isa.shape, dSize, nbN, if_true, if_false, Int.reducePow, Nat.reduceEqDiff, Nat.reduceLeDiff, and_self, and_true] at m1 m2 ⊢
    split at m1 <;> rename_i hq
    · rw [if_pos hq] at m2
      (repeat' split) <;> omega
    · rw [if_neg hq] at m2
      (repeat' split) <;> omega
open Isa in
theorem rImm_bad {v im : Int} (ho : ok (dOp v) (fD v) (fA v) (fB v) im = true) (hw : word (dOp v) (fD v) (fA v) (fB v) im = v) : fImm v = im := by
  have := (dec_enc ho).2.2.2.2.2
  rw [hw] at this
  exact this
end Go.Proofs.YtknnmacmohpanaaDoor
