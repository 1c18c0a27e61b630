/- Plain: the document's Parse finds what the text alone can be. Conditions: none. -/
import Derived.Test.YtmgheeldoadnhaaDoorSpecG
import Derived.Test.YtmgheeldoadnhaaDoorSpecJ
namespace Go.Proofs.YtmgheeldoadnhaaDoor
open Isa

theorem name_ne : ∀ i : Fin 37, nameL i.val ≠ [63] := by decide
theorem hit_par {op : Int} {l : List UInt8} (h : Hit op l) (o1 : 1 ≤ op) (o2 : op ≤ 36) :
    pOk l = true ∧ pOp l = op ∧ (p1 l).1 = (q1 op l).1 ∧ (p2 l).1 = (q2 op l).1 ∧ (p3 l).1 = (q3 op l).1 ∧ (p4 l).1 = (q4 op l).1 := by
  obtain ⟨hn, ht⟩ := h
  obtain ⟨d, hd⟩ : ∃ d, d = (q1 op l).1 := ⟨_, rfl⟩
  obtain ⟨a, ha⟩ : ∃ d, d = (q2 op l).1 := ⟨_, rfl⟩
  obtain ⟨b, hb⟩ : ∃ d, d = (q3 op l).1 := ⟨_, rfl⟩
  obtain ⟨imm, hi⟩ : ∃ d, d = (q4 op l).1 := ⟨_, rfl⟩
  rw [← hd, ← ha, ← hb, ← hi] at ht ⊢
  clear hd ha hb hi
  unfold txt at ht
  cases ho : ok op d a b imm
  · rw [ho, if_neg (by decide)] at ht
    rw [← ht] at hn
    exact absurd hn (name_ne ⟨op.toNat, by omega⟩)
  · rw [ho, if_pos rfl] at ht
    obtain ⟨e0, e1, e2, e3, e4⟩ := parse_text ho
    rw [ht] at e0 e1 e2 e3 e4
    refine ⟨?_, e0, e1, e2, e3, e4⟩
    unfold pOk
    rw [e0, e1, e2, e3, e4, ho, decide_eq_true ht]
    rfl
theorem fields_text {op d a b imm : Int} (ho : ok op d a b imm = true) :
    nameL op.toNat = (splitL (text op d a b imm) []).getD 0 [] ∧ (q1 op (text op d a b imm)).1 = d ∧ (q2 op (text op d a b imm)).1 = a ∧ (q3 op (text op d a b imm)).1 = b ∧ (q4 op (text op d a b imm)).1 = imm := by
  obtain ⟨hn, ⟨o1, o2⟩, hd, ha, hb, m1, m2⟩ := ok_parts ho
  have hm := ok_imm ho
  have hl := limits_of op
  unfold Limits at hl
  have hs : splitL (text op d a b imm) [] = words (Isa.shape (Isa.form op) 0) (Isa.shape (Isa.form op) 1) (Isa.shape (Isa.form op) 2) (Isa.shape (Isa.form op) 3) op d a b imm := by
    unfold text words
    rw [List.append_assoc, List.append_assoc, List.append_assoc, List.singleton_append]
    refine split_join _ _ (solid_name (by omega)) ?_
    intro y hy
    simp only [List.mem_append] at hy
    rcases hy with hy | hy | hy | hy <;> (split at hy <;> simp only [List.mem_singleton, List.not_mem_nil] at hy) <;> rw [hy] <;> first | exact solid_reg _ | exact solid_itoa _
  unfold q4 q3 q2 q1
  rw [hs]
  unfold words
  rcases form_cases op with h | h | h | h | h | h | h | h
  · exact absurd h hn
  all_goals
    rw [h] at hd ha hb hl ⊢
    simp only [Isa.shape, if_true, Bool.false_eq_true, if_false] at hd ha hb
    have hrd := num_reg d (by omega) (by omega)
    have hra := num_reg a (by omega) (by omega)
    have hrb := num_reg b (by omega) (by omega)
    have hri := num_imm imm (by omega) (by omega)
    simp [Isa.shape, qStep, hrd, hra, hrb, hri]
    try omega
theorem pok_hit {l : List UInt8} (h : pOk l = true) : 1 ≤ pOp l ∧ pOp l ≤ 36 ∧ Hit (pOp l) l ∧ l.length ≤ 60 := by
  unfold pOk at h
  simp only [Bool.and_eq_true, decide_eq_true_eq] at h
  obtain ⟨ho, ht⟩ := h
  obtain ⟨⟨o1, o2⟩, hd, ha, hb⟩ := ok_bounds ho
  have hm := ok_imm ho
  obtain ⟨f0, f1, f2, f3, f4⟩ := fields_text ho
  rw [ht] at f0 f1 f2 f3 f4
  refine ⟨o1, o2, ⟨f0, ?_⟩, ?_⟩
  · rw [f1, f2, f3, f4]
    unfold txt
    rw [if_pos ho, ht]
  · rw [← ht]
    unfold text
    refine Nat.le_trans (join_len 9 _ ?_) ?_
    · intro y hy
      have r0 (r : Int) (h0 : 0 ≤ r) (h1 : r ≤ 31) : (regL r).length ≤ 9 := by
        have := decDigits_len 6 r.toNat (by show _ < 10 ^ 7; have : (10 : Nat) ^ 7 = 10000000 := by decide
                                            omega)
        unfold regL; simp; omega
      unfold words at hy
      simp only [List.mem_append, List.mem_singleton] at hy
      rcases hy with (((hy | hy) | hy) | hy) | hy
      · rw [hy]; have := nameL_len (pOp l).toNat; omega
      · split at hy <;> simp only [List.mem_singleton, List.not_mem_nil] at hy
        rw [hy]; exact r0 _ hd.1 hd.2
      · split at hy <;> simp only [List.mem_singleton, List.not_mem_nil] at hy
        rw [hy]; exact r0 _ ha.1 ha.2
      · split at hy <;> simp only [List.mem_singleton, List.not_mem_nil] at hy
        rw [hy]; exact r0 _ hb.1 hb.2
      · split at hy <;> simp only [List.mem_singleton, List.not_mem_nil] at hy
        rw [hy]; have := itoa_len (p4 l).1 (by omega) (by omega); omega
    · unfold words
      simp only [List.length_append, List.length_singleton]
      have hx (x : Bool) (y : List UInt8) : (if x = true then [y] else []).length ≤ 1 := by cases x <;> simp
      have h0 := hx (Isa.shape (Isa.form (pOp l)) 0) (regL (p1 l).1)
      have h1 := hx (Isa.shape (Isa.form (pOp l)) 1) (regL (p2 l).1)
      have h2 := hx (Isa.shape (Isa.form (pOp l)) 2) (regL (p3 l).1)
      have h3 := hx (Isa.shape (Isa.form (pOp l)) 3) (Lib.itoa (p4 l).1)
      omega
end Go.Proofs.YtmgheeldoadnhaaDoor
