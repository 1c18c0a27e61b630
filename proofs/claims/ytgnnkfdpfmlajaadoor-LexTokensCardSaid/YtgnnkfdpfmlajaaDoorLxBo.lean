/- Plain: the lexemes of a given text, reckoned. Conditions: none. -/
import Derived.Test.YtgnnkfdpfmlajaaDoorLxZa
namespace Go.Proofs.YtgnnkfdpfmlajaaDoor
open Go.RowKit Bg Lx
set_option linter.unusedVariables false
set_option linter.unusedSimpArgs false

def comF : Nat → Int → Int → List Int → Int → Int × Int × Int
  | 0, first, _, _, _ => (0, 4, first)
  | f + 1, first, i, r, d =>
    if r = [] then (0, 4, first)
    else if atS r [35, 124] then (if d = 200 then (0, 5, i) else comF f first (i + 2) (r.drop (1 + 1)) (d + 1))
    else if atS r [124, 35] then (if d - 1 = 0 then (i + 2, 0, 0) else comF f first (i + 2) (r.drop (1 + 1)) (d - 1))
    else match chr r with
      | none => (0, 4, i)
      | some (_, n) => comF f first (i + n) (r.drop (n - 1 + 1)) d
theorem comF_eq : ∀ (f : Nat) (first i : Int) (r : List Int) (d : Int), r.length ≤ f → comF f first i r d = com first i r d
  | 0, first, i, r, d, h => by
    have : r = [] := List.length_eq_zero_iff.1 (by omega)
    rw [com, dif_pos this]; rfl
  | f + 1, first, i, r, d, h => by
    rw [comF, com]
    by_cases h0 : r = []
    · rw [if_pos h0, dif_pos h0]
    have hp := List.length_pos_iff.2 h0
    rw [if_neg h0, dif_neg h0, comF_eq f _ _ _ _ (by rw [List.length_drop]; omega), comF_eq f _ _ _ _ (by rw [List.length_drop]; omega)]
    cases hc : chr r with
    | none => rfl
    | some v =>
      obtain ⟨c, n⟩ := v
      simp only []
      rw [comF_eq f _ _ _ _ (by rw [List.length_drop]; omega)]
def lineF : Nat → List Int → Nat × Bool
  | 0, _ => (0, true)
  | f + 1, r =>
    if r = [] then (0, true)
    else if r.getD 0 0 = 10 then (0, true)
    else match chr r with
      | none => (0, false)
      | some (_, n) => ((lineF f (r.drop (n - 1 + 1))).1 + n, (lineF f (r.drop (n - 1 + 1))).2)
theorem lineF_eq : ∀ (f : Nat) (r : List Int), r.length ≤ f → lineF f r = line r
  | 0, r, h => by
    have : r = [] := List.length_eq_zero_iff.1 (by omega)
    rw [line, dif_pos this]; rfl
  | f + 1, r, h => by
    rw [lineF, line]
    by_cases h0 : r = []
    · rw [if_pos h0, dif_pos h0]
    have hp := List.length_pos_iff.2 h0
    rw [if_neg h0, dif_neg h0]
    cases hc : chr r with
    | none => rfl
    | some v =>
      obtain ⟨c, n⟩ := v
      simp only []
      rw [lineF_eq f _ (by rw [List.length_drop]; omega)]
def strF : Nat → Int → Int → List Int → List Int → List Int × Int × Int × Int
  | 0, first, _, _, _ => ([], 0, 4, first)
  | f + 1, first, i, r, out =>
    if r = [] then ([], 0, 4, first)
    else if r.getD 0 0 = 34 then (out, i + 1, 0, 0)
    else if r.getD 0 0 ≠ 92 then
      match chr r with
      | none => ([], 0, 4, i)
      | some (_, n) => strF f first (i + n) (r.drop (n - 1 + 1)) (out ++ r.take n)
    else if r.length = 1 then ([], 0, 4, first)
    else if r.getD 1 0 = 34 ∨ r.getD 1 0 = 92 then strF f first (i + 2) (r.drop (1 + 1)) (out ++ [r.getD 1 0])
    else if r.getD 1 0 = 110 then strF f first (i + 2) (r.drop (1 + 1)) (out ++ [10])
    else if r.getD 1 0 = 116 then strF f first (i + 2) (r.drop (1 + 1)) (out ++ [9])
    else if r.getD 1 0 = 120 ∧ atS ((r.drop 2).drop (hexs (r.drop 2)).length) [59] = true ∧ 0 ≤ hexL (hexs (r.drop 2)) then
      strF f first (i + 2 + (hexs (r.drop 2)).length + 1) (r.drop (2 + (hexs (r.drop 2)).length + 1)) (out ++ enc (hexL (hexs (r.drop 2))))
    else ([], 0, 4, i)
theorem strF_eq : ∀ (f : Nat) (first i : Int) (r out : List Int), r.length ≤ f → strF f first i r out = str first i r out
  | 0, first, i, r, out, h => by
    have : r = [] := List.length_eq_zero_iff.1 (by omega)
    rw [str, dif_pos this]; rfl
  | f + 1, first, i, r, out, h => by
    rw [strF, str]
    by_cases h0 : r = []
    · rw [if_pos h0, dif_pos h0]
    have hp := List.length_pos_iff.2 h0
    rw [if_neg h0, dif_neg h0]
    rw [strF_eq f _ _ (r.drop (1 + 1)) _ (by rw [List.length_drop]; omega), strF_eq f _ _ (r.drop (1 + 1)) _ (by rw [List.length_drop]; omega), strF_eq f _ _ (r.drop (1 + 1)) _ (by rw [List.length_drop]; omega), strF_eq f _ _ (r.drop (2 + (hexs (r.drop 2)).length + 1)) _ (by rw [List.length_drop]; omega)]
    cases hc : chr r with
    | none => rfl
    | some v =>
      obtain ⟨c, n⟩ := v
      simp only []
      rw [strF_eq f _ _ _ _ (by rw [List.length_drop]; omega)]
def oneF (r : List Int) (p : Int) : Out :=
  if blankB (r.getD 0 0) then .skip 1
  else if r.getD 0 0 = 59 then (if (lineF r.length r).2 then .skip (lineF r.length r).1 else .err 4 (p + (lineF r.length r).1))
  else if atS r [35, 124] then (if (comF r.length p p r 0).2.1 = 0 then .skip ((comF r.length p p r 0).1 - p).toNat else .err (comF r.length p p r 0).2.1 (comF r.length p p r 0).2.2)
  else if r.getD 0 0 = 40 then .tok (plainTk 1 p) 1 false
  else if r.getD 0 0 = 41 then .tok (plainTk 2 p) 1 false
  else if r.getD 0 0 = 39 then .tok (plainTk 3 p) 1 false
  else if r.getD 0 0 = 34 then (if (strF r.length p (p + 1) (r.drop 1) []).2.2.1 = 0 then .tok (datum 4 0 (strF r.length p (p + 1) (r.drop 1) []).1 p) ((strF r.length p (p + 1) (r.drop 1) []).2.1 - p).toNat false else .err (strF r.length p (p + 1) (r.drop 1) []).2.2.1 (strF r.length p (p + 1) (r.drop 1) []).2.2.2)
  else if r.getD 0 0 = 35 then (match Lx.mark r p with | none => .err 4 p | some (t, n) => .tok t n (decide (t.kind = 7)))
  else if symB (r.getD 0 0) then .tok (runTk (run r) p) (run r).length true
  else .err 4 p
theorem oneF_eq (r : List Int) (p : Int) : oneF r p = one r p := by
  unfold oneF one
  rw [lineF_eq _ _ (Nat.le_refl _), comF_eq _ _ _ _ _ (Nat.le_refl _), strF_eq _ _ _ _ _ (by rw [List.length_drop]; omega)]
  rfl
def lexF : Nat → Int → List Int → List Tk × Int × Int
  | 0, _, _ => ([], 0, 0)
  | f + 1, p, r =>
    if r = [] then ([], 0, 0)
    else match oneF r p with
      | .err e q => ([], e, q)
      | .skip n => lexF f (p + n) (r.drop (n - 1 + 1))
      | .tok t n loose =>
        if loose = true ∧ n < r.length ∧ delimB (r.getD n 0) = false then ([], 4, p + n)
        else match lexF f (p + n) (r.drop (n - 1 + 1)) with
          | (ts, e, q) => if e = 0 then (t :: ts, 0, 0) else ([], e, q)
theorem lexF_eq : ∀ (f : Nat) (p : Int) (r : List Int), r.length ≤ f → lexF f p r = lex p r
  | 0, p, r, h => by
    have : r = [] := List.length_eq_zero_iff.1 (by omega)
    rw [lex, dif_pos this]; rfl
  | f + 1, p, r, h => by
    rw [lexF, lex, oneF_eq]
    by_cases h0 : r = []
    · rw [if_pos h0, dif_pos h0]
    have hp := List.length_pos_iff.2 h0
    rw [if_neg h0, dif_neg h0]
    cases hc : one r p with
    | err e q => rfl
    | skip n =>
      simp only []
      rw [lexF_eq f _ _ (by rw [List.length_drop]; omega)]
    | tok t n l =>
      simp only []
      rw [lexF_eq f _ _ (by rw [List.length_drop]; omega)]
theorem lex_by {l : List Int} {x : List Tk × Int × Int} (h : lexF l.length 0 l = x) : lex 0 l = x := by rw [← lexF_eq _ _ _ (Nat.le_refl _)]; exact h
theorem awake_lex : lex 0 [40, 97, 32, 46, 32, 35, 116, 41] = ([plainTk 1 0, datum 5 0 [97] 1, plainTk 6 3, datum 1 1 [] 5, plainTk 2 7], 0, 0) := lex_by (by decide +kernel)
end Go.Proofs.YtgnnkfdpfmlajaaDoor
