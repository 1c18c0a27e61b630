/- Plain: what the program meets is what the document tells. Conditions: none. -/
import Derived.Test.YtgnnkfdpfmlajaaDoorLxBk
import Derived.Test.YtgnnkfdpfmlajaaDoorLxZa
namespace Go.Proofs.YtgnnkfdpfmlajaaDoor
open Go.RowKit Bg Lx
set_option linter.unusedVariables false
set_option linter.unusedSimpArgs false

theorem cm_is (l : List Int) (f k : Nat) (d : Int) : cm l f k d = com f k (l.drop k) d := rfl
theorem atS_35 {r : List Int} (h : r.getD 0 0 = 35) (h0 : ¬ r = []) : atS r [35] = true := by
  obtain ⟨x, t, rfl, hx⟩ := head_of h0
  rw [atS_cons, atS_nil, Bool.and_true, decide_eq_true_eq]
  rw [← hx]; exact h
/-- What a place comes to, by the document's next lexeme. -/
def outR (s : Sit) (k : Nat) (ts : List Tk) : Out → Rs
  | .skip n => .go (k + n) ts
  | .err e p => .no e p
  | .tok t n loose => if loose = true then looseR s (k + n) ts t else .go (k + n) (ts ++ [t])
theorem hash_one {s : Sit} {k : Nat} {ts : List Tk} (hb : Byts s.l) (hk : k < s.l.length) (h35 : s.l.getD k 0 = 35) (ho : atS (s.l.drop k) [35, 124] = false) :
    hashR s k ts = outR s k ts (match Lx.mark (s.l.drop k) k with | none => .err 4 k | some (t, n) => .tok t n (decide (t.kind = 7))) := by
  unfold hashR
  rw [ho, if_neg (by decide)]
  unfold Lx.mark
  by_cases h1 : atS (s.l.drop k) [35, 40] = true
  · rw [if_pos h1, if_pos h1]; rfl
  rw [if_neg h1, if_neg h1]
  have hu := @u8_iff (s.l.drop k)
  have h35' := atS_35 (r := s.l.drop k) (by rw [drop_head]; exact h35) (drop_ne hk)
  by_cases h2 : atS (s.l.drop k) [35, 92] = true
  · have h3 : ¬ atS (s.l.drop k) [35, 117, 56, 40] = true := fun h => by
      obtain ⟨x, t, e, -⟩ := head_of (drop_ne hk)
      rw [e, atS_cons] at h h2
      simp only [Bool.and_eq_true] at h h2
      cases t with
      | nil => rw [atS_of_nil] at h2; exact absurd h2.2 (by decide)
      | cons y t =>
        have a := h.2
        have b := h2.2
        rw [atS_cons] at a b
        simp only [Bool.and_eq_true, decide_eq_true_eq] at a b
        omega
    rw [if_neg h3, if_pos h2, if_pos h2]
    unfold chR
    rw [List.drop_drop]
    cases hc : chl (s.l.drop (k + 2)) with
    | none => rfl
    | some v =>
      obtain ⟨v, n⟩ := v
      simp only [outR]
      rw [if_pos (by rfl), Nat.add_assoc]
  rw [if_neg h2, if_neg h2]
  by_cases h3 : atS (s.l.drop k) [35, 117, 56, 40] = true
  · have h4 := hu.1 h3
    rw [if_pos h3, if_pos ⟨h4.2.1, h4.2.2⟩]
    rfl
  · rw [if_neg h3, if_neg (fun h => h3 (hu.2 ⟨h35', h.1, h.2⟩))]
    unfold boolR
    rw [List.drop_drop]
    by_cases h5 : run (s.l.drop (k + 1)) = [116] ∨ run (s.l.drop (k + 1)) = [116, 114, 117, 101]
    · rw [if_pos h5, if_pos h5]
      simp only [outR]
      rw [if_pos (by rfl), Nat.add_assoc]
    rw [if_neg h5, if_neg h5]
    by_cases h6 : run (s.l.drop (k + 1)) = [102] ∨ run (s.l.drop (k + 1)) = [102, 97, 108, 115, 101]
    · rw [if_pos h6, if_pos h6]
      simp only [outR]
      rw [if_pos (by rfl), Nat.add_assoc]
    · rw [if_neg h6, if_neg h6]; rfl
theorem next_one {s : Sit} {k : Nat} {ts : List Tk} (hb : Byts s.l) (hk : k < s.l.length) : nextR s k ts = outR s k ts (one (s.l.drop k) k) := by
  have hd0 : (s.l.drop k).getD 0 0 = s.l.getD k 0 := drop_head _ _
  have hne := drop_ne hk
  unfold nextR one
  rw [hd0]
  by_cases hB : blankB (s.l.getD k 0) = true
  · rw [if_pos hB, if_pos hB]; rfl
  rw [if_neg hB, if_neg hB]
  by_cases h59 : s.l.getD k 0 = 59
  · rw [if_pos h59, if_pos h59]
    unfold lineR
    cases (line (s.l.drop k)).2 with
    | true => rfl
    | false =>
      rw [if_neg (by decide), if_neg (by decide)]
      simp only [outR]
      congr 1
  rw [if_neg h59, if_neg h59]
  by_cases ho : atS (s.l.drop k) [35, 124] = true
  · have h35 : s.l.getD k 0 = 35 := by
      obtain ⟨x, t, e, hx⟩ := head_of hne
      rw [e, atS_cons] at ho
      simp only [Bool.and_eq_true, decide_eq_true_eq] at ho
      rw [← hd0, hx, ho.1]
    rw [if_pos ho, if_neg (by omega), if_neg (by omega), if_neg (by omega), if_neg (by omega), if_pos h35]
    unfold hashR
    rw [if_pos ho]
    unfold comR
    rw [cm_is]
    have hbd := (com_bounds (k : Int) (k : Int) (s.l.drop k) 0 (hb.drop k)).1
    by_cases he : (com (k : Int) (k : Int) (s.l.drop k) 0).2.1 = 0
    · rw [if_pos he, if_pos he]
      simp only [outR]
      have := hbd he
      congr 1
      omega
    · rw [if_neg he, if_neg he]; rfl
  rw [if_neg ho]
  by_cases h40 : s.l.getD k 0 = 40
  · rw [if_pos h40, if_pos h40]; rfl
  rw [if_neg h40, if_neg h40]
  by_cases h41 : s.l.getD k 0 = 41
  · rw [if_pos h41, if_pos h41]; rfl
  rw [if_neg h41, if_neg h41]
  by_cases h39 : s.l.getD k 0 = 39
  · rw [if_pos h39, if_pos h39]; rfl
  rw [if_neg h39, if_neg h39]
  by_cases h34 : s.l.getD k 0 = 34
  · rw [if_pos h34, if_pos h34]
    unfold strR
    rw [List.drop_drop]
    have hbd := (str_bounds (k : Int) ((k : Int) + 1) (s.l.drop (k + 1)) [] (hb.drop _)).1
    rw [show ((k + 1 : Nat) : Int) = (k : Int) + 1 by omega]
    by_cases he : (str (k : Int) ((k : Int) + 1) (s.l.drop (k + 1)) []).2.2.1 = 0
    · rw [if_pos he, if_pos he]
      simp only [outR]
      rw [if_neg (by decide)]
      have := hbd he
      congr 1
      omega
    · rw [if_neg he, if_neg he]; rfl
  rw [if_neg h34, if_neg h34]
  by_cases h35 : s.l.getD k 0 = 35
  · rw [if_pos h35, if_pos h35]
    exact hash_one hb hk h35 (by cases h : atS (s.l.drop k) [35, 124] with
      | true => exact absurd h ho
      | false => rfl)
  rw [if_neg h35, if_neg h35]
  by_cases hS : symB (s.l.getD k 0) = true
  · rw [if_pos hS, if_pos hS]
    simp only [outR]
    rfl
  · rw [if_neg hS, if_neg hS]; rfl
/-- What all comes to, from a place on. -/
def allR (s : Sit) (k : Nat) (ts : List Tk) : Rs := if (lex k (s.l.drop k)).2.1 = 0 then .go s.l.length (ts ++ (lex k (s.l.drop k)).1) else .no (lex k (s.l.drop k)).2.1 (lex k (s.l.drop k)).2.2
theorem lex_nil (p : Int) : lex p [] = ([], 0, 0) := by rw [lex]; simp
theorem allR_end {s : Sit} {k : Nat} {ts : List Tk} (h : s.l.length ≤ k) : allR s k ts = .go s.l.length ts := by
  unfold allR
  rw [List.drop_eq_nil_of_le h, lex_nil, if_pos rfl, List.append_nil]
theorem dl_iff {l : List Int} {k n : Nat} : dl l (k + n) = true ↔ n < (l.drop k).length ∧ delimB ((l.drop k).getD n 0) = false := by
  unfold dl
  rw [drop_getD, List.length_drop, Bool.and_eq_true, decide_eq_true_eq, Bool.not_eq_true']
  constructor
  · rintro ⟨h1, h2⟩; exact ⟨by omega, h2⟩
  · rintro ⟨h1, h2⟩; exact ⟨by omega, h2⟩
/-- One step more. -/
def StepOk (s : Sit) (k : Nat) (ts : List Tk) : Rs → Prop
  | .go k' ts' => k < k' ∧ k' ≤ s.l.length ∧ allR s k ts = allR s k' ts'
  | .no x y => allR s k ts = .no x y
theorem all_tok {s : Sit} {k n : Nat} {ts : List Tk} {t : Tk} {l : Bool} (hk : k < s.l.length) (hn : 1 ≤ n) (e : one (s.l.drop k) k = .tok t n l) (hd : ¬ (l = true ∧ dl s.l (k + n) = true)) : allR s k ts = allR s (k + n) (ts ++ [t]) := by
  have hl : lex k (s.l.drop k) = match lex ((k + n : Nat) : Int) (s.l.drop (k + n)) with
      | (ts, e, q) => if e = 0 then (t :: ts, 0, 0) else ([], e, q) := by
    rw [lex, dif_neg (drop_ne hk)]
    simp only [e]
    rw [if_neg (fun h => hd ⟨h.1, dl_iff.2 h.2⟩), List.drop_drop, show k + (n - 1 + 1) = k + n by omega]
    rfl
  unfold allR
  rw [hl]
  obtain ⟨us, a, q⟩ := lex ((k + n : Nat) : Int) (s.l.drop (k + n))
  by_cases h0 : a = 0
  · subst h0
    simp
  · simp only [if_neg h0]
theorem next_ok {s : Sit} {k : Nat} {ts : List Tk} (hb : Byts s.l) (hk : k < s.l.length) : StepOk s k ts (nextR s k ts) := by
  rw [next_one hb hk]
  have hne := drop_ne hk
  cases e : one (s.l.drop k) k with
  | skip n =>
    have h1 := one_skip_pos (hb.drop k) hne e
    rw [List.length_drop] at h1
    refine ⟨by omega, by omega, ?_⟩
    have hl : lex k (s.l.drop k) = lex ((k + n : Nat) : Int) (s.l.drop (k + n)) := by
      rw [lex, dif_neg hne]
      simp only [e]
      rw [List.drop_drop, show k + (n - 1 + 1) = k + n by omega]
      rfl
    unfold allR
    rw [hl]
  | err x y =>
    show allR s k ts = .no x y
    have h1 := one_err_pos (hb.drop k) hne e
    have hl : lex k (s.l.drop k) = ([], x, y) := by
      rw [lex, dif_neg hne]
      simp only [e]
    unfold allR
    rw [hl, if_neg (by show ¬ x = 0; omega)]
  | tok t n l =>
    have h1 := one_tok_pos (hb.drop k) hne e
    rw [List.length_drop] at h1
    show StepOk s k ts (if l = true then looseR s (k + n) ts t else .go (k + n) (ts ++ [t]))
    by_cases hl : l = true
    · rw [if_pos hl]
      unfold looseR
      by_cases hd : dl s.l (k + n) = true
      · rw [if_pos hd]
        show allR s k ts = .no 4 ((k + n : Nat) : Int)
        have h2 : lex k (s.l.drop k) = ([], 4, (k : Int) + n) := by
          rw [lex, dif_neg hne]
          simp only [e]
          rw [if_pos ⟨hl, dl_iff.1 hd⟩]
        unfold allR
        rw [h2, if_neg (show ¬ (4 : Int) = 0 by decide)]
        rfl
      · rw [if_neg hd]
        exact ⟨by omega, by omega, all_tok hk h1.1 e (fun h => hd h.2)⟩
    · rw [if_neg hl]
      exact ⟨by omega, by omega, all_tok hk h1.1 e (fun h => hl h.1)⟩
end Go.Proofs.YtgnnkfdpfmlajaaDoor
