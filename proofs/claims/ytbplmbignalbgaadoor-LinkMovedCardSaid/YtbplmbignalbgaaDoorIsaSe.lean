/- Plain arithmetic: what is laid into a word is read from it, and the other way round. Conditions: none. -/
import Derived.Test.YtbplmbignalbgaaDoorIsaSc
namespace Go.Proofs.YtbplmbignalbgaaDoor
namespace Isa

/-- The ranges of Imm, by the form. -/
def Limits (op : Int) : Prop := ((form op = 0 ∨ form op = 1 ∨ form op = 6 ∨ form op = 7) ∧ low op = 0 ∧ high op = 0) ∨
    ((form op = 2 ∨ form op = 3) ∧ low op = 0 ∧ 0 ≤ high op ∧ high op ≤ 65535) ∨
    ((form op = 2 ∨ form op = 4) ∧ low op = -32768 ∧ high op = 32767) ∨
    (form op = 5 ∧ low op = -1048576 ∧ high op = 1048575)
instance (op : Int) : Decidable (Limits op) := by unfold Limits; infer_instance
theorem limits_all : ∀ n : Fin 37, Limits ((n.val : Nat) : Int) := by decide
theorem limits_of (op : Int) : Limits op := by
  by_cases h : op < 1 ∨ 36 < op
  · have hf := (form_pos op).2 h
    refine Or.inl ⟨Or.inl hf, ?_, ?_⟩
    · unfold low; rw [hf]; rfl
    · unfold high; rw [hf]; rfl
  · have := limits_all ⟨op.toNat, by omega⟩
    have e : ((op.toNat : Nat) : Int) = op := by omega
    rw [show (((⟨op.toNat, by omega⟩ : Fin 37).val : Nat) : Int) = op from e] at this
    exact this

theorem ok_parts {op d a b imm : Int} (ho : ok op d a b imm = true) : form op ≠ 0 ∧ (1 ≤ op ∧ op ≤ 36) ∧ (0 ≤ d ∧ d ≤ if shape (form op) 0 then 31 else 0) ∧ (0 ≤ a ∧ a ≤ if shape (form op) 1 then 31 else 0) ∧ (0 ≤ b ∧ b ≤ if shape (form op) 2 then 31 else 0) ∧ low op ≤ imm ∧ imm ≤ high op := by
  unfold ok regOk at ho
  simp only [Bool.and_eq_true, decide_eq_true_eq] at ho
  obtain ⟨⟨⟨⟨⟨h1, h2, h3⟩, h4, h5⟩, h6, h7⟩, h8⟩, h9⟩ := ho
  have hp := form_pos op
  exact ⟨h1, by omega, ⟨h2, h3⟩, ⟨h4, h5⟩, ⟨h6, h7⟩, h8, h9⟩
theorem ok_of {op d a b imm : Int} (h1 : form op ≠ 0) (h2 : 0 ≤ d ∧ d ≤ if shape (form op) 0 then 31 else 0) (h3 : 0 ≤ a ∧ a ≤ if shape (form op) 1 then 31 else 0) (h4 : 0 ≤ b ∧ b ≤ if shape (form op) 2 then 31 else 0) (h5 : low op ≤ imm) (h6 : imm ≤ high op) : ok op d a b imm = true := by
  unfold ok regOk
  simp only [Bool.and_eq_true, decide_eq_true_eq]
  exact ⟨⟨⟨⟨⟨h1, h2⟩, h3⟩, h4⟩, h5⟩, h6⟩

/-- The seven forms, each with its fields. -/
theorem form_cases (op : Int) : form op = 0 ∨ form op = 1 ∨ form op = 2 ∨ form op = 3 ∨ form op = 4 ∨ form op = 5 ∨ form op = 6 ∨ form op = 7 := by
  have := form_le op
  omega

theorem dec_enc {op d a b imm : Int} (ho : ok op d a b imm = true) :
    (0 ≤ word op d a b imm ∧ word op d a b imm < 4294967296) ∧ dOp (word op d a b imm) = op ∧ fD (word op d a b imm) = d ∧ fA (word op d a b imm) = a ∧ fB (word op d a b imm) = b ∧ fImm (word op d a b imm) = imm := by
  obtain ⟨hn, ⟨o1, o2⟩, hd, ha, hb, m1, m2⟩ := ok_parts ho
  have hl := limits_of op
  unfold Limits at hl
  have key : (0 ≤ word op d a b imm ∧ word op d a b imm < 4294967296) ∧ dOp (word op d a b imm) = op := by
    unfold dOp word
    rcases form_cases op with h | h | h | h | h | h | h | h
    · exact absurd h hn
    all_goals
      rw [h] at hd ha hb ⊢
      simp only [shape, encW, if_true, Bool.false_eq_true, if_false] at hd ha hb ⊢
      omega
  refine ⟨key.1, key.2, ?_⟩
  unfold fD fA fB fImm sh
  rw [key.2]
  unfold dRaw word
  rcases form_cases op with h | h | h | h | h | h | h | h
  · exact absurd h hn
  all_goals
    rw [h] at hd ha hb hl ⊢
    simp only [shape, encW, dD, dA, dB, dSize, if_true, Bool.false_eq_true, if_false, Bool.and_true, Bool.and_false] at hd ha hb ⊢
    refine ⟨by omega, by omega, by omega, ?_⟩
    split <;> omega

theorem enc_dec {w : Int} (ho : dOk w = true) : word (dOp w) (fD w) (fA w) (fB w) (fImm w) = w := by
  unfold dOk at ho
  obtain ⟨hn, ⟨o1, o2⟩, hd, ha, hb, m1, m2⟩ := ok_parts ho
  have hl := limits_of (dOp w)
  unfold Limits at hl
  unfold fImm dRaw sh at m1 m2
  unfold word fD fA fB fImm sh dRaw
  rcases form_cases (dOp w) with h | h | h | h | h | h | h | h
  · exact absurd h hn
  all_goals
    rw [h] at m1 m2 hl ⊢
    simp only [shape, encW, dD, dA, dB, dSize, if_true, Bool.false_eq_true, if_false, Bool.and_true] at m1 m2 ⊢
    unfold dOp at *
    split at m1 <;> rename_i hq
    · rw [if_pos hq] at m2 ⊢
      omega
    · rw [if_neg hq] at m2 ⊢
      omega
end Isa
end Go.Proofs.YtbplmbignalbgaaDoor
