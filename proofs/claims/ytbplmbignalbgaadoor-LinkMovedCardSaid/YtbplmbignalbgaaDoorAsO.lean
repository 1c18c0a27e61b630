/- Contracts: what is wrong with an item. Conditions: the forms' table is as laid. -/
import Derived.Test.YtbplmbignalbgaaDoorAsN
namespace Go.Proofs.YtbplmbignalbgaaDoor
open Go.RowKit Asm
set_option linter.unusedVariables false
set_option linter.unusedSimpArgs false

theorem ok_branch {op a b : Int} (h0 : 26 ≤ op) (h1 : op ≤ 31) : chk op 0 a b 0 = if (0 ≤ a ∧ a ≤ 31) ∧ (0 ≤ b ∧ b ≤ 31) then 0 else 11 := by
  have e : op = 26 ∨ op = 27 ∨ op = 28 ∨ op = 29 ∨ op = 30 ∨ op = 31 := by omega
  have hf : Isa.form op = 4 := by rcases e with rfl | rfl | rfl | rfl | rfl | rfl <;> rfl
  have hl : Isa.low op = -32768 := by rcases e with rfl | rfl | rfl | rfl | rfl | rfl <;> rfl
  have hh : Isa.high op = 32767 := by rcases e with rfl | rfl | rfl | rfl | rfl | rfl <;> rfl
  unfold chk Isa.ok
  rw [hf, hl, hh]
  simp only [Isa.shape, Isa.regOk]
  by_cases ha : 0 ≤ a <;> by_cases ha2 : a ≤ 31 <;> by_cases hb : 0 ≤ b <;> by_cases hb2 : b ≤ 31 <;> simp [ha, ha2, hb, hb2]
theorem ok_jal (d : Int) : chk 32 d 0 0 0 = if 0 ≤ d ∧ d ≤ 31 then 0 else 11 := by
  have hf : Isa.form 32 = 5 := rfl
  have hl : Isa.low 32 = -1048576 := rfl
  have hh : Isa.high 32 = 1048575 := rfl
  unfold chk Isa.ok
  rw [hf, hl, hh]
  simp only [Isa.shape, Isa.regOk]
  by_cases ha : 0 ≤ d <;> by_cases ha2 : d ≤ 31 <;> simp [ha, ha2]
theorem turned_ne {op : Int} (h : turned op ≠ 0) : 26 ≤ op ∧ op ≤ 31 := by
  unfold turned at h
  (repeat' split at h) <;> omega

def badItem (x : It) : Prop := (x.kind = 1 ∧ Isa.ok x.op x.d x.a x.b x.imm = false) ∨ (x.kind = 3 ∧ (turned x.op = 0 ∨ ¬ (0 ≤ x.a ∧ x.a ≤ 31) ∨ ¬ (0 ≤ x.b ∧ x.b ≤ 31))) ∨ ((x.kind = 4 ∨ x.kind = 5) ∧ ¬ (0 ≤ x.d ∧ x.d ≤ 31))
theorem citem_bad {x : It} (h : 1 ≤ x.kind ∧ x.kind ≤ 8) (hb : badItem x) : citem x = 11 := by
  unfold citem
  rw [if_neg (by omega)]
  exact if_pos hb
theorem citem_good {x : It} (h : 1 ≤ x.kind ∧ x.kind ≤ 8) (hb : ¬ badItem x) : citem x = 0 := by
  unfold citem
  rw [if_neg (by omega)]
  exact if_neg hb
theorem citem_1 {x : It} (h : x.kind = 1) : chk x.op x.d x.a x.b x.imm = citem x := by
  unfold chk
  cases ho : Isa.ok x.op x.d x.a x.b x.imm
  · rw [citem_bad (by omega) (Or.inl ⟨h, ho⟩)]; rfl
  · rw [citem_good (by omega)]
    · rfl
    · rintro (⟨_, h2⟩ | ⟨h2, _⟩ | ⟨h2, _⟩)
      · rw [ho] at h2; cases h2
      · omega
      · omega
theorem citem_3t {x : It} (h : x.kind = 3) (ht : turned x.op = 0) : (11 : Int) = citem x := (citem_bad (by omega) (Or.inr (Or.inl ⟨h, Or.inl ht⟩))).symm
theorem citem_3 {x : It} (h : x.kind = 3) (ht : ¬ turned x.op = 0) : chk x.op 0 x.a x.b 0 = citem x := by
  have := turned_ne ht
  rw [ok_branch this.1 this.2]
  by_cases hab : (0 ≤ x.a ∧ x.a ≤ 31) ∧ (0 ≤ x.b ∧ x.b ≤ 31)
  · rw [if_pos hab, citem_good (by omega)]
    rintro (⟨h2, _⟩ | ⟨_, h2⟩ | ⟨h2, _⟩)
    · omega
    · rcases h2 with h2 | h2 | h2
      · exact ht h2
      · exact h2 hab.1
      · exact h2 hab.2
    · omega
  · rw [if_neg hab, citem_bad (by omega)]
    refine Or.inr (Or.inl ⟨h, ?_⟩)
    by_cases ha : 0 ≤ x.a ∧ x.a ≤ 31
    · exact Or.inr (Or.inr fun hb => hab ⟨ha, hb⟩)
    · exact Or.inr (Or.inl ha)
theorem citem_45 {x : It} (h : x.kind = 4 ∨ x.kind = 5) : chk 32 x.d 0 0 0 = citem x := by
  rw [ok_jal]
  by_cases hd : 0 ≤ x.d ∧ x.d ≤ 31
  · rw [if_pos hd, citem_good (by omega)]
    rintro (⟨h2, _⟩ | ⟨h2, _⟩ | ⟨_, h2⟩)
    · omega
    · omega
    · exact h2 hd
  · rw [if_neg hd, citem_bad (by omega) (Or.inr (Or.inr ⟨h, hd⟩))]
theorem citem_ok {x : It} (h : x.kind = 2 ∨ x.kind = 6 ∨ x.kind = 7 ∨ x.kind = 8) : (0 : Int) = citem x := by
  rw [citem_good (by omega)]
  rintro (⟨h2, _⟩ | ⟨h2, _⟩ | ⟨h2, _⟩) <;> omega
theorem citem_none {x : It} (h1 : ¬ x.kind = 1) (h2 : ¬ x.kind = 2) (h3 : ¬ x.kind = 3) (h4 : ¬ x.kind = 4) (h5 : ¬ x.kind = 5) (h6 : ¬ x.kind = 6) (h7 : ¬ x.kind = 7) (h8 : ¬ x.kind = 8) : (4 : Int) = citem x := by
  unfold citem
  rw [if_pos (by omega)]
set_option maxRecDepth 100000 in
set_option maxHeartbeats 2000000 in
theorem checkItem_any (x : It) (w : World) (hE : Env w) : Calls Tryd.prog 43 #[iv x] w fun e w' => e = .returned (.int .i64 (citem x)) ∧ Below w.heap.size w w' := by
  unfold iv
  have HE := Lib.hid hE
  clear hE
  obtain ⟨w1, hw1⟩ : ∃ w1, w1 = w.alloc (.cells #[.int .i64 x.kind, .int .i64 x.op, .int .i64 x.d, .int .i64 x.a, .int .i64 x.b, .int .i64 x.imm, .string x.lab, .int .u32 x.word] 40) := ⟨_, rfl⟩
  have hb : Below w.heap.size w w1 := by rw [hw1]; exact (Below.refl _ _).alloc (Nat.le_refl _) _
  have HB := Lib.hid (And.intro hb (HE.out.below hb))
  clear hb
  go_enter Tryd.func43, Tryd.ntmps43
  go_wp2_with (first
    | (go_at_call 56; refine (check_any _ _ _ _ _ _ (by rw [← hw1]; exact HB.out.2)).mono ?_; rintro e w9 ⟨rfl, hb9⟩)
    | (go_at_call 57; refine (turned_any _ _).mono ?_; rintro e w' ⟨rfl, rfl⟩))
  all_goals
    go_ret
  all_goals
    refine ⟨ret_int ?_, ?_⟩
  all_goals
    try simp only [beq_iff_eq, beq_eq_false_iff_ne, ne_eq] at *
  all_goals
    first
    | contradiction
    | exact citem_1 ‹_›
    | exact citem_3t ‹_› ‹_›
    | exact citem_3 ‹_› ‹_›
    | exact citem_45 (Or.inl ‹_›)
    | exact citem_45 (Or.inr ‹_›)
    | exact citem_ok (by omega)
    | exact citem_none (by omega) (by omega) (by omega) (by omega) (by omega) (by omega) (by omega) (by omega)
    | exact (Below.refl _ _).alloc (Nat.le_refl _) _
    | exact ((Below.refl _ _).alloc (Nat.le_refl _) _).trans (hb9.mono (by simp))
end Go.Proofs.YtbplmbignalbgaaDoor
