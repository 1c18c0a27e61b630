/- Plain: an instruction's text is read as that instruction. Conditions: none. -/
import Derived.Test.YtmgheeldoadnhaaDoorWalkJ
import Derived.Test.YtmgheeldoadnhaaDoorSpecE
import Derived.Test.YtmgheeldoadnhaaDoorSpecF
namespace Go.Proofs.YtmgheeldoadnhaaDoor
open Isa

theorem num_of {l : List UInt8} {v : Int} (hl : l.length ≤ 18) (h : Lib.atoi l = some v) : numOf l = v := by
  unfold numOf
  rw [Lib.atoiAll_short l hl, h]
  rfl
theorem next_reg (r : Int) (h0 : 0 ≤ r) (h1 : r ≤ 31) (ws : List (List UInt8)) : nextN (Lib.join (regL r :: ws) [32]) [114] = r ∧ nextR (Lib.join (regL r :: ws) [32]) = Lib.join ws [32] := by
  obtain ⟨e1, e2⟩ := cut_join (regL r) ws (solid_reg r)
  refine ⟨?_, e2⟩
  unfold nextN
  rw [e1, trim_reg, num_of (by have := reg_len r h0 h1; omega) (atoi_digits _)]
  omega
theorem next_imm (n : Int) (h0 : -1048576 ≤ n) (h1 : n ≤ 1048575) (ws : List (List UInt8)) : nextN (Lib.join (Lib.itoa n :: ws) [32]) [] = n ∧ nextR (Lib.join (Lib.itoa n :: ws) [32]) = Lib.join ws [32] := by
  obtain ⟨e1, e2⟩ := cut_join (Lib.itoa n) ws (solid_itoa n)
  refine ⟨?_, e2⟩
  unfold nextN
  rw [e1, trim_nil, num_of (by have := itoa_len n (by omega) (by omega); omega) (atoi_itoa n)]
theorem named_all : ∀ i : Fin 37, 1 ≤ i.val → named (nameL i.val) = i.val := by decide
theorem named_name {i : Nat} (h1 : 1 ≤ i) (h2 : i < 37) : named (nameL i) = i := named_all ⟨i, h2⟩ h1

theorem parse_text {op d a b imm : Int} (ho : ok op d a b imm = true) :
    pOp (text op d a b imm) = op ∧ (p1 (text op d a b imm)).1 = d ∧ (p2 (text op d a b imm)).1 = a ∧ (p3 (text op d a b imm)).1 = b ∧ (p4 (text op d a b imm)).1 = imm := by
  obtain ⟨hn, ⟨o1, o2⟩, hd, ha, hb, m1, m2⟩ := ok_parts ho
  have hm := ok_imm ho
  have hl := limits_of op
  unfold Limits at hl
  have hc (ws : List (List UInt8)) := cut_join (nameL op.toNat) ws (solid_name (by omega))
  have hop (ws : List (List UInt8)) : pOp (Lib.join (nameL op.toNat :: ws) [32]) = op := by
    unfold pOp
    rw [(hc ws).1, named_name (by omega) (by omega)]
    omega
  have hr (r : Int) (h0 : 0 ≤ r) (h1 : r ≤ 31) := next_reg r h0 h1
  have hi := next_imm imm hm.1 hm.2
  unfold text words
  rcases form_cases op with h | h | h | h | h | h | h | h
  · exact absurd h hn
  all_goals
    rw [h] at hd ha hb hl ⊢
    simp only [Isa.shape, if_true, Bool.false_eq_true, if_false] at hd ha hb
    have hrd := hr d (by omega) (by omega)
    have hra := hr a (by omega) (by omega)
    have hrb := hr b (by omega) (by omega)
    simp only [Isa.shape, if_true, Bool.false_eq_true, if_false, List.append_nil, List.cons_append, List.nil_append]
    refine ⟨hop _, ?_⟩
    unfold p4 p3 p2 p1 pSh
    simp only [hop, h, Isa.shape, pStep, if_true, Bool.false_eq_true, if_false, (hc _).2, (hrd _).1, (hrd _).2, (hra _).1, (hra _).2, (hrb _).1, (hrb _).2, (hi _).1]
    refine ⟨?_, ?_, ?_, ?_⟩ <;> first | trivial | rfl | omega
end Go.Proofs.YtmgheeldoadnhaaDoor
