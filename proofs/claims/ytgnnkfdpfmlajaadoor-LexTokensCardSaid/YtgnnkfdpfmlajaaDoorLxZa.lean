/- Plain: the document's lexemes, their places, texts by themselves and between, as the program meets them. Conditions: none. -/
import Derived.Test.YtgnnkfdpfmlajaaDoorUtA
namespace Go.Proofs.YtgnnkfdpfmlajaaDoor
open Bg
set_option linter.unusedVariables false
namespace Lx
def blankB (c : Int) : Bool := decide (c = 9 ∨ c = 10 ∨ c = 12 ∨ c = 13 ∨ c = 32)
def digitB (c : Int) : Bool := decide (48 ≤ c ∧ c ≤ 57)
def others : List Int := [33, 36, 37, 38, 42, 47, 58, 60, 61, 62, 63, 94, 95, 126, 43, 45, 46, 64]
def symB (c : Int) : Bool := others.contains c || digitB c || decide (97 ≤ c ∧ c ≤ 122) || decide (65 ≤ c ∧ c ≤ 90)
def delimB (c : Int) : Bool := blankB c || decide (c = 40 ∨ c = 41 ∨ c = 34 ∨ c = 59 ∨ c = 39)
/-- These bytes begin here. -/
def atS (r s : List Int) : Bool := decide (r.take s.length = s)
/-- The symbol bytes that begin here. -/
def run (r : List Int) : List Int := r.takeWhile symB
def hexD (c : Int) : Int := if 48 ≤ c ∧ c ≤ 57 then c - 48 else if 97 ≤ c ∧ c ≤ 102 then c - 87 else if 65 ≤ c ∧ c ≤ 70 then c - 55 else -1
def cap (n : Int) : Int := if 1114111 < n then 1114112 else n
def hexF : List Int → Int → Int
  | [], n => n
  | c :: cs, n => if hexD c < 0 then -1 else hexF cs (cap (16 * n + hexD c))
/-- The char that a hex number says; -1: none. -/
def hexL (s : List Int) : Int := if s = [] then -1 else if isC (hexF s 0) then hexF s 0 else -1
def hexs (r : List Int) : List Int := r.takeWhile fun c => decide (0 ≤ hexD c)
/-- A comment between marks: where it ends, the error, its place. i: the place of r. -/
def com (first i : Int) (r : List Int) (d : Int) : Int × Int × Int :=
  if h : r = [] then (0, 4, first)
  else if atS r [35, 124] then (if d = 200 then (0, 5, i) else com first (i + 2) (r.drop (1 + 1)) (d + 1))
  else if atS r [124, 35] then (if d - 1 = 0 then (i + 2, 0, 0) else com first (i + 2) (r.drop (1 + 1)) (d - 1))
  else match chr r with
    | none => (0, 4, i)
    | some (_, n) => com first (i + n) (r.drop (n - 1 + 1)) d
termination_by r.length
decreasing_by all_goals (simp only [List.length_drop]; have := List.length_pos_iff.2 h; omega)
/-- A line's comment: how many bytes; none: no char there. -/
def line (r : List Int) : Nat × Bool :=
  if h : r = [] then (0, true)
  else if r.getD 0 0 = 10 then (0, true)
  else match chr r with
    | none => (0, false)
    | some (_, n) => ((line (r.drop (n - 1 + 1))).1 + n, (line (r.drop (n - 1 + 1))).2)
termination_by r.length
decreasing_by all_goals (simp only [List.length_drop]; have := List.length_pos_iff.2 h; omega)
/-- A string behind its first mark: its bytes, where it ends, the error, its place. -/
def str (first i : Int) (r out : List Int) : List Int × Int × Int × Int :=
  if h : r = [] then ([], 0, 4, first)
  else if r.getD 0 0 = 34 then (out, i + 1, 0, 0)
  else if r.getD 0 0 ≠ 92 then
    match chr r with
    | none => ([], 0, 4, i)
    | some (_, n) => str first (i + n) (r.drop (n - 1 + 1)) (out ++ r.take n)
  else if r.length = 1 then ([], 0, 4, first)
  else if r.getD 1 0 = 34 ∨ r.getD 1 0 = 92 then str first (i + 2) (r.drop (1 + 1)) (out ++ [r.getD 1 0])
  else if r.getD 1 0 = 110 then str first (i + 2) (r.drop (1 + 1)) (out ++ [10])
  else if r.getD 1 0 = 116 then str first (i + 2) (r.drop (1 + 1)) (out ++ [9])
  else if r.getD 1 0 = 120 ∧ atS ((r.drop 2).drop (hexs (r.drop 2)).length) [59] = true ∧ 0 ≤ hexL (hexs (r.drop 2)) then
    str first (i + 2 + (hexs (r.drop 2)).length + 1) (r.drop (2 + (hexs (r.drop 2)).length + 1)) (out ++ enc (hexL (hexs (r.drop 2))))
  else ([], 0, 4, i)
termination_by r.length
decreasing_by all_goals (simp only [List.length_drop]; have := List.length_pos_iff.2 h; omega)
/-- A char's literal behind its two marks: the char, how many bytes. -/
def chl (r : List Int) : Option (Int × Nat) :=
  match chr r with
  | none => none
  | some (c, n) =>
    if run (r.drop n) = [] then some (c, n)
    else if r.take (n + (run (r.drop n)).length) = [115, 112, 97, 99, 101] then some (32, n + (run (r.drop n)).length)
    else if r.take (n + (run (r.drop n)).length) = [110, 101, 119, 108, 105, 110, 101] then some (10, n + (run (r.drop n)).length)
    else if r.take (n + (run (r.drop n)).length) = [116, 97, 98] then some (9, n + (run (r.drop n)).length)
    else if c = 120 ∧ 0 ≤ hexL (run (r.drop n)) then some (hexL (run (r.drop n)), n + (run (r.drop n)).length)
    else none
/-- The digits without noughts ahead. -/
def lead : List Int → List Int
  | [] => []
  | [c] => [c]
  | c :: d :: cs => if c = 48 then lead (d :: cs) else c :: d :: cs
/-- A run's text, if it is an integer. -/
def int (s : List Int) : Option (List Int) :=
  let ds := if s.getD 0 0 = 43 ∨ s.getD 0 0 = 45 then s.drop 1 else s
  if ds = [] then none
  else if ds.all digitB then some (if s.getD 0 0 = 45 ∧ lead ds ≠ [48] then 45 :: lead ds else lead ds)
  else none
/-- A token: its kind, place; of a datum its kind, number and text. -/
structure Tk where
  kind : Int
  pos : Int
  dk : Int
  n : Int
  text : List Int
deriving DecidableEq
def plainTk (k p : Int) : Tk := ⟨k, p, 0, 0, []⟩
def datum (dk n : Int) (t : List Int) (p : Int) : Tk := ⟨7, p, dk, n, t⟩
/-- What begins with #: the token, how many bytes. -/
def mark (r : List Int) (p : Int) : Option (Tk × Nat) :=
  if atS r [35, 40] then some (plainTk 4 p, 2)
  else if atS r [35, 92] then (match chl (r.drop 2) with | none => none | some (c, n) => some (datum 3 c [] p, 2 + n))
  else if run (r.drop 1) = [117, 56] ∧ atS (r.drop 3) [40] = true then some (plainTk 5 p, 4)
  else if run (r.drop 1) = [116] ∨ run (r.drop 1) = [116, 114, 117, 101] then some (datum 1 1 [] p, 1 + (run (r.drop 1)).length)
  else if run (r.drop 1) = [102] ∨ run (r.drop 1) = [102, 97, 108, 115, 101] then some (datum 1 0 [] p, 1 + (run (r.drop 1)).length)
  else none
/-- The token of a run. -/
def runTk (s : List Int) (p : Int) : Tk := if s = [46] then plainTk 6 p else match int s with | some t => datum 2 0 t p | none => datum 5 0 s p
inductive Out where
  | skip (n : Nat)
  | tok (t : Tk) (n : Nat) (loose : Bool)
  | err (e p : Int)
/-- What begins here: r is not empty; p its place. -/
def one (r : List Int) (p : Int) : Out :=
  if blankB (r.getD 0 0) then .skip 1
  else if r.getD 0 0 = 59 then (if (line r).2 then .skip (line r).1 else .err 4 (p + (line r).1))
  else if atS r [35, 124] then (if (com p p r 0).2.1 = 0 then .skip ((com p p r 0).1 - p).toNat else .err (com p p r 0).2.1 (com p p r 0).2.2)
  else if r.getD 0 0 = 40 then .tok (plainTk 1 p) 1 false
  else if r.getD 0 0 = 41 then .tok (plainTk 2 p) 1 false
  else if r.getD 0 0 = 39 then .tok (plainTk 3 p) 1 false
  else if r.getD 0 0 = 34 then (if (str p (p + 1) (r.drop 1) []).2.2.1 = 0 then .tok (datum 4 0 (str p (p + 1) (r.drop 1) []).1 p) ((str p (p + 1) (r.drop 1) []).2.1 - p).toNat false else .err (str p (p + 1) (r.drop 1) []).2.2.1 (str p (p + 1) (r.drop 1) []).2.2.2)
  else if r.getD 0 0 = 35 then (match mark r p with | none => .err 4 p | some (t, n) => .tok t n (decide (t.kind = 7)))
  else if symB (r.getD 0 0) then .tok (runTk (run r) p) (run r).length true
  else .err 4 p
/-- The tokens from here on; the error, its place. -/
def lex (p : Int) (r : List Int) : List Tk × Int × Int :=
  if h : r = [] then ([], 0, 0)
  else match one r p with
    | .err e q => ([], e, q)
    | .skip n => lex (p + n) (r.drop (n - 1 + 1))
    | .tok t n loose =>
      if loose = true ∧ n < r.length ∧ delimB (r.getD n 0) = false then ([], 4, p + n)
      else match lex (p + n) (r.drop (n - 1 + 1)) with
        | (ts, e, q) => if e = 0 then (t :: ts, 0, 0) else ([], e, q)
termination_by r.length
decreasing_by all_goals (simp only [List.length_drop]; have := List.length_pos_iff.2 h; omega)
end Lx
end Go.Proofs.YtgnnkfdpfmlajaaDoor
namespace Go.Proofs.YtgnnkfdpfmlajaaDoor.Lx
open Bg
set_option linter.unusedVariables false
set_option linter.unusedSimpArgs false
set_option maxHeartbeats 1000000
/-- A result, moved. -/
def mvC (k : Int) (x : Int × Int × Int) : Int × Int × Int := if x.2.1 = 0 then (x.1 + k, 0, 0) else (0, x.2.1, x.2.2 + k)
theorem com_shift (k first i : Int) (r : List Int) (d : Int) : com (first + k) (i + k) r d = mvC k (com first i r d) := by
  fun_induction com first i r d with
  | case1 => rw [com]; simp [mvC]
  | case2 i r h1 h2 => rw [com]; simp [mvC, *]
  | case3 i r d h1 h2 h3 ih => rw [com]; simp only [dif_neg h1, if_pos h2, if_neg h3]; rw [← ih]; congr 1; omega
  | case4 i r d h1 h2 h3 h4 => rw [com]; simp only [dif_neg h1, if_neg h2, if_pos h3, if_pos h4]; simp [mvC]; omega
  | case5 i r d h1 h2 h3 h4 ih => rw [com]; simp only [dif_neg h1, if_neg h2, if_pos h3, if_neg h4]; rw [← ih]; congr 1; omega
  | case6 i r d h1 h2 h3 h4 => rw [com]; simp only [dif_neg h1, if_neg h2, if_neg h3, h4]; simp [mvC]
  | case7 i r d h1 h2 h3 c n h4 ih => rw [com]; simp only [dif_neg h1, if_neg h2, if_neg h3, h4]; rw [← ih]; congr 1; omega
def mvS (k : Int) (x : List Int × Int × Int × Int) : List Int × Int × Int × Int := if x.2.2.1 = 0 then (x.1, x.2.1 + k, 0, 0) else ([], 0, x.2.2.1, x.2.2.2 + k)
theorem str_shift (k first i : Int) (r out : List Int) : str (first + k) (i + k) r out = mvS k (str first i r out) := by
  fun_induction str first i r out with
  | case1 => rw [str]; simp [mvS]
  | case2 i r out h1 h2 => rw [str]; simp only [dif_neg h1, if_pos h2]; simp [mvS]; omega
  | case3 i r out h1 h2 h3 h4 => rw [str]; simp only [dif_neg h1, if_neg h2, if_pos h3, h4]; simp [mvS]
  | case4 i r out h1 h2 h3 c n h4 ih => rw [str]; simp only [dif_neg h1, if_neg h2, if_pos h3, h4]; rw [← ih]; congr 1; omega
  | case5 i r out h1 h2 h3 h4 => rw [str]; simp only [dif_neg h1, if_neg h2, if_neg h3, if_pos h4]; simp [mvS]
  | case6 i r out h1 h2 h3 h4 h5 ih => rw [str]; simp only [dif_neg h1, if_neg h2, if_neg h3, if_neg h4, if_pos h5]; rw [← ih]; congr 1; omega
  | case7 i r out h1 h2 h3 h4 h5 h6 ih => rw [str]; simp only [dif_neg h1, if_neg h2, if_neg h3, if_neg h4, if_neg h5, if_pos h6]; rw [← ih]; congr 1; omega
  | case8 i r out h1 h2 h3 h4 h5 h6 h7 ih => rw [str]; simp only [dif_neg h1, if_neg h2, if_neg h3, if_neg h4, if_neg h5, if_neg h6, if_pos h7]; rw [← ih]; congr 1; omega
  | case9 i r out h1 h2 h3 h4 h5 h6 h7 h8 ih => rw [str]; simp only [dif_neg h1, if_neg h2, if_neg h3, if_neg h4, if_neg h5, if_neg h6, if_neg h7, if_pos h8]; rw [← ih]; congr 1; omega
  | case10 i r out h1 h2 h3 h4 h5 h6 h7 h8 => rw [str]; simp only [dif_neg h1, if_neg h2, if_neg h3, if_neg h4, if_neg h5, if_neg h6, if_neg h7, if_neg h8]; simp [mvS]
def mvT (k : Int) (t : Tk) : Tk := { t with pos := t.pos + k }
def mvO (k : Int) : Out → Out
  | .skip n => .skip n
  | .tok t n l => .tok (mvT k t) n l
  | .err e p => .err e (p + k)
theorem mark_shift (k : Int) (r : List Int) (p : Int) : mark r (p + k) = (mark r p).map fun x => (mvT k x.1, x.2) := by
  unfold mark
  split
  · rfl
  split
  · cases chl (r.drop 2) with
    | none => rfl
    | some v => rfl
  split
  · rfl
  split
  · rfl
  split
  · rfl
  · rfl
theorem runTk_shift (k : Int) (s : List Int) (p : Int) : runTk s (p + k) = mvT k (runTk s p) := by
  unfold runTk
  split
  · rfl
  · cases int s with
    | none => rfl
    | some v => rfl
theorem mark_kind {k : Int} {t : Tk} : (mvT k t).kind = t.kind := rfl
theorem one_shift (k : Int) (r : List Int) (p : Int) : one r (p + k) = mvO k (one r p) := by
  unfold one
  split
  · rfl
  split
  · split
    · rfl
    · simp only [mvO]; congr 1; omega
  split
  · rw [com_shift k p p r 0]
    unfold mvC
    split
    · rename_i h
      simp only [if_pos h, if_true, mvO]
      congr 2
      omega
    · rename_i h
      simp only [if_neg h, mvO]
  split
  · rfl
  split
  · rfl
  split
  · rfl
  split
  · have e : p + k + 1 = p + 1 + k := by omega
    rw [e, str_shift k p (p + 1) (r.drop 1) []]
    unfold mvS
    split
    · rename_i h
      simp only [if_pos h, if_true, mvO]
      congr 1
      omega
    · rename_i h
      simp only [if_neg h, mvO]
  split
  · rw [mark_shift]
    cases mark r p with
    | none => rfl
    | some v => rfl
  split
  · rw [runTk_shift]; rfl
  · rfl
def mvL (k : Int) (x : List Tk × Int × Int) : List Tk × Int × Int := if x.2.1 = 0 then (x.1.map (mvT k), 0, 0) else ([], x.2.1, x.2.2 + k)
theorem one_err {r : List Int} {p e q : Int} (h : one r p = .err e q) : e ≠ 0 := by
  unfold one at h
  split at h
  · cases h
  split at h
  · split at h
    · cases h
    · cases h; decide
  split at h
  · split at h
    · cases h
    · rename_i h1; cases h; exact h1
  split at h
  · cases h
  split at h
  · cases h
  split at h
  · cases h
  split at h
  · split at h
    · cases h
    · rename_i h1; cases h; exact h1
  split at h
  · split at h
    · cases h; decide
    · cases h
  split at h
  · cases h
  · cases h; decide
theorem lex_shift (k p : Int) (r : List Int) : lex (p + k) r = mvL k (lex p r) := by
  fun_induction lex p r with
  | case1 => rw [lex]; simp [mvL]
  | case2 p r h e q h1 =>
    rw [lex, dif_neg h, one_shift, h1]
    simp only [mvO, mvL, if_neg (one_err h1)]
  | case3 p r h n h1 ih =>
    rw [lex, dif_neg h, one_shift, h1]
    simp only [mvO]
    rw [← ih]
    congr 1
    omega
  | case4 p r h t n loose h1 h2 =>
    rw [lex, dif_neg h, one_shift, h1]
    simp only [mvO, if_pos h2, mvL]
    simp
    omega
  | case5 p r h t n loose h1 h2 ts q h3 ih =>
    rw [lex, dif_neg h, one_shift, h1]
    have e : p + k + (n : Int) = p + n + k := by omega
    simp only [mvO, if_neg h2, e, ih, h3, mvL, if_true, List.map_cons]
  | case6 p r h t n loose h1 h2 ts e q h3 h4 ih =>
    rw [lex, dif_neg h, one_shift, h1]
    have e' : p + k + (n : Int) = p + n + k := by omega
    simp only [mvO, if_neg h2, e', ih, h3, mvL, if_neg h4]
end Go.Proofs.YtgnnkfdpfmlajaaDoor.Lx
namespace Go.Proofs.YtgnnkfdpfmlajaaDoor.Lx
open Bg
set_option linter.unusedVariables false
set_option linter.unusedSimpArgs false
set_option maxHeartbeats 1000000
theorem atS_len {r s : List Int} (h : atS r s = true) : s.length ≤ r.length := by
  unfold atS at h
  rw [decide_eq_true_eq] at h
  have := congrArg List.length h
  rw [List.length_take] at this
  omega
theorem pos_len {r : List Int} (h : ¬ r = []) : 1 ≤ r.length := List.length_pos_iff.2 h
theorem com_bounds (first i : Int) (r : List Int) (d : Int) (hb : Byts r) : ((com first i r d).2.1 = 0 → i < (com first i r d).1 ∧ (com first i r d).1 ≤ i + r.length) ∧ ((com first i r d).2.1 ≠ 0 → ((com first i r d).2.1 = 4 ∨ (com first i r d).2.1 = 5) ∧ ((com first i r d).2.2 = first ∨ (i ≤ (com first i r d).2.2 ∧ (com first i r d).2.2 < i + r.length))) := by
  fun_induction com first i r d with
  | case1 => exact ⟨fun h => by simp at h, fun _ => ⟨Or.inl rfl, Or.inl rfl⟩⟩
  | case2 i r h1 h2 => have := pos_len h1; exact ⟨fun h => by simp at h, fun _ => ⟨Or.inr rfl, Or.inr ⟨by simp only; omega, by simp only; omega⟩⟩⟩
  | case3 i r d h1 h2 h3 ih =>
    have hl := atS_len h2
    have := ih (hb.drop _)
    rw [List.length_drop] at this
    simp only [List.length_cons, List.length_nil] at hl
    exact ⟨fun h => by have := this.1 h; omega, fun h => ⟨(this.2 h).1, by rcases (this.2 h).2 with h | h; exact Or.inl h; exact Or.inr (by omega)⟩⟩
  | case4 i r d h1 h2 h3 h4 =>
    have hl := atS_len h3
    simp only [List.length_cons, List.length_nil] at hl
    exact ⟨fun _ => ⟨by simp only; omega, by simp only; omega⟩, fun h => absurd rfl h⟩
  | case5 i r d h1 h2 h3 h4 ih =>
    have hl := atS_len h3
    have := ih (hb.drop _)
    rw [List.length_drop] at this
    simp only [List.length_cons, List.length_nil] at hl
    exact ⟨fun h => by have := this.1 h; omega, fun h => ⟨(this.2 h).1, by rcases (this.2 h).2 with h | h; exact Or.inl h; exact Or.inr (by omega)⟩⟩
  | case6 i r d h1 h2 h3 h4 => have := pos_len h1; exact ⟨fun h => by simp at h, fun _ => ⟨Or.inl rfl, Or.inr ⟨by simp only; omega, by simp only; omega⟩⟩⟩
  | case7 i r d h1 h2 h3 c n h4 ih =>
    have hn := chr_lt hb h4
    have := ih (hb.drop _)
    rw [List.length_drop] at this
    exact ⟨fun h => by have := this.1 h; omega, fun h => ⟨(this.2 h).1, by rcases (this.2 h).2 with h | h; exact Or.inl h; exact Or.inr (by omega)⟩⟩
theorem str_bounds (first i : Int) (r out : List Int) (hb : Byts r) : ((str first i r out).2.2.1 = 0 → i < (str first i r out).2.1 ∧ (str first i r out).2.1 ≤ i + r.length) ∧ ((str first i r out).2.2.1 ≠ 0 → (str first i r out).2.2.1 = 4 ∧ ((str first i r out).2.2.2 = first ∨ (i ≤ (str first i r out).2.2.2 ∧ (str first i r out).2.2.2 < i + r.length))) := by
  fun_induction str first i r out with
  | case1 => exact ⟨fun h => by simp at h, fun _ => ⟨rfl, Or.inl rfl⟩⟩
  | case2 i r out h1 h2 => have := pos_len h1; exact ⟨fun _ => ⟨by simp only; omega, by simp only; omega⟩, fun h => absurd rfl h⟩
  | case3 i r out h1 h2 h3 h4 => have := pos_len h1; exact ⟨fun h => by simp at h, fun _ => ⟨rfl, Or.inr ⟨by simp only; omega, by simp only; omega⟩⟩⟩
  | case4 i r out h1 h2 h3 c n h4 ih =>
    have hn := chr_lt hb h4
    have := ih (hb.drop _)
    rw [List.length_drop] at this
    exact ⟨fun h => by have := this.1 h; omega, fun h => ⟨(this.2 h).1, by rcases (this.2 h).2 with h | h; exact Or.inl h; exact Or.inr (by omega)⟩⟩
  | case5 i r out h1 h2 h3 h4 => exact ⟨fun h => by simp at h, fun _ => ⟨rfl, Or.inl rfl⟩⟩
  | case6 i r out h1 h2 h3 h4 h5 ih =>
    have hn := pos_len h1
    have := ih (hb.drop _)
    rw [List.length_drop] at this
    exact ⟨fun h => by have := this.1 h; omega, fun h => ⟨(this.2 h).1, by rcases (this.2 h).2 with h | h; exact Or.inl h; exact Or.inr (by omega)⟩⟩
  | case7 i r out h1 h2 h3 h4 h5 h6 ih =>
    have hn := pos_len h1
    have := ih (hb.drop _)
    rw [List.length_drop] at this
    exact ⟨fun h => by have := this.1 h; omega, fun h => ⟨(this.2 h).1, by rcases (this.2 h).2 with h | h; exact Or.inl h; exact Or.inr (by omega)⟩⟩
  | case8 i r out h1 h2 h3 h4 h5 h6 h7 ih =>
    have hn := pos_len h1
    have := ih (hb.drop _)
    rw [List.length_drop] at this
    exact ⟨fun h => by have := this.1 h; omega, fun h => ⟨(this.2 h).1, by rcases (this.2 h).2 with h | h; exact Or.inl h; exact Or.inr (by omega)⟩⟩
  | case9 i r out h1 h2 h3 h4 h5 h6 h7 h8 ih =>
    have hn := atS_len h8.2.1
    rw [List.length_drop, List.length_drop] at hn
    simp only [List.length_cons, List.length_nil] at hn
    have := ih (hb.drop _)
    rw [List.length_drop] at this
    exact ⟨fun h => by have := this.1 h; omega, fun h => ⟨(this.2 h).1, by rcases (this.2 h).2 with h | h; exact Or.inl h; exact Or.inr (by omega)⟩⟩
  | case10 i r out h1 h2 h3 h4 h5 h6 h7 h8 => have := pos_len h1; exact ⟨fun h => by simp at h, fun _ => ⟨rfl, Or.inr ⟨by simp only; omega, by simp only; omega⟩⟩⟩
theorem line_len (r : List Int) (hb : Byts r) : (line r).1 ≤ r.length ∧ ((line r).2 = false → (line r).1 < r.length) := by
  fun_induction line r with
  | case1 => simp
  | case2 => simp
  | case3 r h1 h2 h3 => have := pos_len h1; exact ⟨Nat.zero_le _, fun _ => by simp only; omega⟩
  | case4 r h1 h2 c n h3 ih =>
    have hn := chr_lt hb h3
    have := ih (hb.drop _)
    rw [List.length_drop] at this
    exact ⟨by simp only; omega, fun h => by have := this.2 h; simp only; omega⟩
theorem run_le (r : List Int) : (run r).length ≤ r.length := by
  have : run r <+: r := List.takeWhile_prefix _
  exact this.length_le
theorem chl_len {r : List Int} (hb : Byts r) {c : Int} {n : Nat} (h : chl r = some (c, n)) : 1 ≤ n ∧ n ≤ r.length := by
  unfold chl at h
  split at h
  · cases h
  · rename_i c' n' h1
    have hn := chr_lt hb h1
    have hr := run_le (r.drop n')
    rw [List.length_drop] at hr
    repeat' split at h
    all_goals first | (cases h; omega) | cases h
theorem mark_len {r : List Int} (hb : Byts r) (h0 : ¬ r = []) {p : Int} {t : Tk} {n : Nat} (h : mark r p = some (t, n)) : 1 ≤ n ∧ n ≤ r.length ∧ t.pos = p := by
  have hl := pos_len h0
  have hr := run_le (r.drop 1)
  rw [List.length_drop] at hr
  unfold mark at h
  split at h
  · rename_i h1
    have := atS_len h1
    simp only [List.length_cons, List.length_nil] at this
    cases h
    exact ⟨by omega, by omega, rfl⟩
  split at h
  · rename_i h1
    have := atS_len h1
    simp only [List.length_cons, List.length_nil] at this
    split at h
    · cases h
    · rename_i c n' h2
      have := chl_len (hb.drop 2) h2
      rw [List.length_drop] at this
      cases h
      exact ⟨by omega, by omega, rfl⟩
  split at h
  · rename_i h1
    have := atS_len h1.2
    rw [List.length_drop] at this
    simp only [List.length_cons, List.length_nil] at this
    cases h
    exact ⟨by omega, by omega, rfl⟩
  split at h
  · cases h; exact ⟨by omega, by omega, rfl⟩
  split at h
  · cases h; exact ⟨by omega, by omega, rfl⟩
  · cases h
theorem runTk_pos (s : List Int) (p : Int) : (runTk s p).pos = p := by
  unfold runTk
  split
  · rfl
  · split <;> rfl
theorem head_of {r : List Int} (h : ¬ r = []) : ∃ x t, r = x :: t ∧ r.getD 0 0 = x := by
  cases r with
  | nil => exact absurd rfl h
  | cons x t => exact ⟨x, t, rfl, rfl⟩
theorem run_pos {r : List Int} (h : ¬ r = []) (hs : symB (r.getD 0 0) = true) : 1 ≤ (run r).length := by
  obtain ⟨x, t, rfl, e⟩ := head_of h
  rw [e] at hs
  unfold run
  rw [List.takeWhile_cons, if_pos hs]
  simp
theorem line_pos {r : List Int} (hb : Byts r) (h : ¬ r = []) (hs : r.getD 0 0 = 59) : 1 ≤ (line r).1 := by
  rw [line, dif_neg h]
  obtain ⟨x, t, rfl, e⟩ := head_of h
  rw [e] at hs
  subst hs
  have hc : chr (59 :: t) = some (59, 1) := chr_enc (c := 59) (by decide) t
  rw [if_neg (by rw [e]; decide), hc]
  simp
def OutB (r : List Int) (p : Int) : Out → Prop
  | .skip n => 1 ≤ n ∧ n ≤ r.length
  | .tok t n _ => 1 ≤ n ∧ n ≤ r.length ∧ t.pos = p
  | .err e q => (e = 4 ∨ e = 5) ∧ p ≤ q ∧ q < p + r.length
/-- What one lexeme takes. -/
theorem one_bounds {r : List Int} (hb : Byts r) (h : ¬ r = []) (p : Int) : OutB r p (one r p) := by
  have hl := pos_len h
  unfold one
  split
  · exact ⟨by omega, hl⟩
  split
  · rename_i h1
    have h2 := line_pos hb h h1
    have h3 := line_len r hb
    split
    · exact ⟨h2, h3.1⟩
    · rename_i h4
      have := h3.2 (by simpa using h4)
      exact ⟨Or.inl rfl, by omega, by omega⟩
  split
  · have hc := com_bounds p p r 0 hb
    split
    · rename_i h1
      have := hc.1 h1
      simp only [OutB]
      omega
    · rename_i h1
      have := hc.2 h1
      simp only [OutB]
      exact ⟨this.1, by omega⟩
  split
  · exact ⟨by omega, hl, rfl⟩
  split
  · exact ⟨by omega, hl, rfl⟩
  split
  · exact ⟨by omega, hl, rfl⟩
  split
  · have hc := str_bounds p (p + 1) (r.drop 1) [] (hb.drop 1)
    rw [List.length_drop] at hc
    split
    · rename_i h1
      have := hc.1 h1
      simp only [OutB]
      exact ⟨by omega, by omega, rfl⟩
    · rename_i h1
      have := hc.2 h1
      simp only [OutB]
      exact ⟨Or.inl this.1, by omega⟩
  split
  · split
    · exact ⟨Or.inl rfl, by omega, by omega⟩
    · rename_i t n h1
      exact mark_len hb h h1
  split
  · rename_i h1
    exact ⟨run_pos h h1, run_le r, runTk_pos _ _⟩
  · exact ⟨Or.inl rfl, by omega, by omega⟩
end Go.Proofs.YtgnnkfdpfmlajaaDoor.Lx
namespace Go.Proofs.YtgnnkfdpfmlajaaDoor.Lx
open Bg
set_option linter.unusedVariables false
set_option linter.unusedSimpArgs false
set_option maxHeartbeats 1000000
theorem one_tok_pos {r : List Int} (hb : Byts r) (h : ¬ r = []) {p : Int} {t : Tk} {n : Nat} {l : Bool} (e : one r p = .tok t n l) : 1 ≤ n ∧ n ≤ r.length ∧ t.pos = p := by
  have := one_bounds hb h p
  rw [e] at this
  exact this
theorem one_skip_pos {r : List Int} (hb : Byts r) (h : ¬ r = []) {p : Int} {n : Nat} (e : one r p = .skip n) : 1 ≤ n ∧ n ≤ r.length := by
  have := one_bounds hb h p
  rw [e] at this
  exact this
theorem one_err_pos {r : List Int} (hb : Byts r) (h : ¬ r = []) {p e q : Int} (he : one r p = .err e q) : (e = 4 ∨ e = 5) ∧ p ≤ q ∧ q < p + r.length := by
  have := one_bounds hb h p
  rw [he] at this
  exact this
/-- The places rise, and lie in the source; so does a fault's. -/
theorem lex_places (p : Int) (r : List Int) (hb : Byts r) : ((lex p r).2.1 = 0 → (∀ t ∈ (lex p r).1, p ≤ t.pos ∧ t.pos < p + r.length) ∧ (lex p r).1.Pairwise fun a b => a.pos < b.pos) ∧ ((lex p r).2.1 ≠ 0 → (lex p r).1 = [] ∧ ((lex p r).2.1 = 4 ∨ (lex p r).2.1 = 5) ∧ p ≤ (lex p r).2.2 ∧ (lex p r).2.2 < p + r.length) := by
  fun_induction lex p r with
  | case1 => exact ⟨fun _ => ⟨by simp, List.Pairwise.nil⟩, fun h => absurd rfl h⟩
  | case2 p r h e q h1 =>
    have hx := one_err_pos hb h h1
    exact ⟨fun h => absurd h (one_err h1), fun _ => ⟨rfl, hx⟩⟩
  | case3 p r h n h1 ih =>
    have hx := one_skip_pos hb h h1
    have hi := ih (hb.drop _)
    rw [List.length_drop] at hi
    refine ⟨fun h => ⟨fun t ht => ?_, (hi.1 h).2⟩, fun h => ⟨(hi.2 h).1, (hi.2 h).2.1, ?_, ?_⟩⟩
    · have := (hi.1 h).1 t ht; omega
    · have := (hi.2 h).2.2; omega
    · have := (hi.2 h).2.2; omega
  | case4 p r h t n loose h1 h2 =>
    have hx := one_tok_pos hb h h1
    exact ⟨fun h => by simp at h, fun _ => ⟨rfl, Or.inl rfl, by simp only; omega, by simp only; omega⟩⟩
  | case5 p r h t n loose h1 h2 ts q h3 ih =>
    have hx := one_tok_pos hb h h1
    have hi := ih (hb.drop _)
    rw [List.length_drop, h3] at hi
    have h4 := hi.1 rfl
    refine ⟨fun _ => ⟨fun u hu => ?_, ?_⟩, fun h => absurd rfl h⟩
    · simp only [List.mem_cons] at hu
      rcases hu with rfl | hu
      · omega
      · have := h4.1 u hu; omega
    · refine List.Pairwise.cons (fun u hu => ?_) h4.2
      have := h4.1 u hu
      omega
  | case6 p r h t n loose h1 h2 ts e q h3 h4 ih =>
    have hx := one_tok_pos hb h h1
    have hi := ih (hb.drop _)
    rw [List.length_drop, h3] at hi
    have h5 := hi.2 h4
    simp only at h5
    exact ⟨fun h => absurd h h4, fun _ => ⟨rfl, h5.2.1, by simp only; omega, by simp only; omega⟩⟩
end Go.Proofs.YtgnnkfdpfmlajaaDoor.Lx
namespace Go.Proofs.YtgnnkfdpfmlajaaDoor.Lx
open Bg
set_option linter.unusedVariables false
set_option linter.unusedSimpArgs false
set_option maxHeartbeats 1000000
theorem sym_facts {x : Int} (h : symB x = true) : blankB x = false ∧ x ≠ 59 ∧ x ≠ 35 ∧ x ≠ 40 ∧ x ≠ 41 ∧ x ≠ 39 ∧ x ≠ 34 := by
  unfold symB digitB others at h
  simp only [Bool.or_eq_true, decide_eq_true_eq, List.contains_cons, List.contains_nil, Bool.or_false, beq_iff_eq] at h
  unfold blankB
  rw [decide_eq_false_iff_not]
  omega
theorem digit_sym {x : Int} (h : digitB x = true) : symB x = true := by
  unfold symB
  simp [h]
theorem atS_head {r : List Int} {c d : Int} (h : r.getD 0 0 ≠ c) : atS r [c, d] = false := by
  unfold atS
  rw [decide_eq_false_iff_not]
  intro e
  apply h
  cases r with
  | nil => simp at e
  | cons x t => simp at e; simp [e.1]
theorem run_all : ∀ {s : List Int}, (∀ c ∈ s, symB c = true) → run s = s
  | [], _ => rfl
  | x :: t, h => by
    have ih := run_all (s := t) fun c hc => h c (by simp [hc])
    unfold run at ih ⊢
    rw [List.takeWhile_cons, if_pos (h x (by simp)), ih]
/-- A run of symbol bytes is one token. -/
theorem lex_run {s : List Int} (h0 : ¬ s = []) (h : ∀ c ∈ s, symB c = true) (p : Int) : lex p s = ([runTk s p], 0, 0) := by
  obtain ⟨x, t, rfl, e⟩ := head_of h0
  have hx := h x (by simp)
  obtain ⟨f1, f2, f3, f4, f5, f6, f7⟩ := sym_facts hx
  have h1 : one (x :: t) p = .tok (runTk (x :: t) p) (x :: t).length true := by
    unfold one
    rw [e, if_neg (by rw [f1]; decide), if_neg f2, if_neg (by rw [atS_head (by rw [e]; exact f3)]; decide), if_neg f4, if_neg f5, if_neg f6, if_neg f7, if_neg f3, if_pos hx, run_all h]
  rw [lex, dif_neg h0, h1]
  simp only
  rw [if_neg (by omega)]
  have hd : (x :: t).drop ((x :: t).length - 1 + 1) = [] := List.drop_eq_nil_of_le (by simp)
  rw [hd, lex, dif_pos rfl]
  simp
theorem lead_spec : ∀ (ds : List Int), ds ≠ [] → (∀ c ∈ ds, digitB c = true) → lead ds ≠ [] ∧ (∀ c ∈ lead ds, digitB c = true) ∧ lead (lead ds) = lead ds
  | [], h, _ => absurd rfl h
  | [c], _, h => ⟨by simp [lead], by simpa [lead] using h, rfl⟩
  | c :: d :: cs, _, h => by
    by_cases hc : c = 48
    · have e : lead (c :: d :: cs) = lead (d :: cs) := by rw [lead, if_pos hc]
      rw [e]
      exact lead_spec (d :: cs) (by simp) (fun x hx => h x (by simp [hx]))
    · have e : lead (c :: d :: cs) = c :: d :: cs := by rw [lead, if_neg hc]
      rw [e]
      exact ⟨by simp, h, e⟩
theorem digit_bounds {x : Int} (h : digitB x = true) : 48 ≤ x ∧ x ≤ 57 := by
  unfold digitB at h
  exact of_decide_eq_true h
theorem all_dig {ds : List Int} (h : ds.all digitB = true) : ∀ c ∈ ds, digitB c = true := List.all_eq_true.1 h
/-- An integer's text is an integer, of the same text. -/
theorem int_again {s t : List Int} (h : int s = some t) : int t = some t ∧ ¬ t = [] ∧ (∀ c ∈ t, symB c = true) ∧ t ≠ [46] := by
  unfold int at h
  simp only at h
  obtain ⟨ds, hds⟩ : ∃ d, d = (if s.getD 0 0 = 43 ∨ s.getD 0 0 = 45 then s.drop 1 else s) := ⟨_, rfl⟩
  rw [← hds] at h
  split at h
  · cases h
  rename_i hne
  split at h
  · rename_i hall
    obtain ⟨l1, l2, l3⟩ := lead_spec _ hne (all_dig hall)
    obtain ⟨L, hL⟩ : ∃ L, L = lead ds := ⟨_, rfl⟩
    rw [← hL] at h l1 l2 l3
    have hsL : ∀ c ∈ L, symB c = true := fun c hc => digit_sym (l2 c hc)
    have hallL : L.all digitB = true := List.all_eq_true.2 l2
    split at h
    · rename_i hm
      cases h
      refine ⟨?_, by simp, ?_, ?_⟩
      · unfold int
        simp only [List.getD_cons_zero, or_true, if_true, List.drop_succ_cons, List.drop_zero]
        rw [if_neg l1, if_pos hallL, l3, if_pos ⟨trivial, hm.2⟩]
      · intro c hc
        simp only [List.mem_cons] at hc
        rcases hc with rfl | hc
        · decide
        · exact hsL c hc
      · intro e; cases e
    · cases h
      obtain ⟨x, u, hx, e⟩ := head_of l1
      have hd := digit_bounds (l2 x (by rw [hx]; simp))
      refine ⟨?_, l1, hsL, ?_⟩
      · unfold int
        simp only
        have n1 : ¬ (x = 43 ∨ x = 45) := by omega
        have n2 : ¬ (x = 45 ∧ t ≠ [48]) := fun h => by omega
        simp only [e, if_neg n1]
        rw [if_neg l1, if_pos hallL, l3, if_neg n2]
      · intro e2
        rw [hx] at e2
        cases e2
        omega
  · cases h
/-- An integer and a symbol, by themselves. -/
theorem again_int {s t : List Int} (h : int s = some t) : lex 0 t = ([datum 2 0 t 0], 0, 0) := by
  obtain ⟨h1, h2, h3, h4⟩ := int_again h
  rw [lex_run h2 h3]
  unfold runTk
  rw [if_neg h4, h1]
theorem again_sym {s : List Int} (h0 : ¬ s = []) (h : ∀ c ∈ s, symB c = true) (h1 : int s = none) (h2 : s ≠ [46]) : lex 0 s = ([datum 5 0 s 0], 0, 0) := by
  rw [lex_run h0 h]
  unfold runTk
  rw [if_neg h2, h1]
theorem again_true : lex 0 [35, 116] = ([datum 1 1 [] 0], 0, 0) := by
  rw [lex, dif_neg (by simp)]
  have h : one [35, 116] 0 = .tok (datum 1 1 [] 0) 2 true := by rfl
  rw [h]
  simp only
  rw [if_neg (by decide)]
  have hd : ([35, 116] : List Int).drop (2 - 1 + 1) = [] := rfl
  rw [hd, lex, dif_pos rfl]
  rfl
theorem again_false : lex 0 [35, 102] = ([datum 1 0 [] 0], 0, 0) := by
  rw [lex, dif_neg (by simp)]
  have h : one [35, 102] 0 = .tok (datum 1 0 [] 0) 2 true := by rfl
  rw [h]
  simp only
  rw [if_neg (by decide)]
  have hd : ([35, 102] : List Int).drop (2 - 1 + 1) = [] := rfl
  rw [hd, lex, dif_pos rfl]
  rfl
theorem str_flat (first : Int) : ∀ (cs : List Int) (i : Int) (out : List Int), AllC cs → (∀ x ∈ flat cs, x ≠ 34 ∧ x ≠ 92) → str first i (flat cs ++ [34]) out = (out ++ flat cs, i + (flat cs).length + 1, 0, 0)
  | [], i, out, _, _ => by
    rw [str, dif_neg (by simp [flat])]
    simp [flat]
  | c :: cs, i, out, ha, hp => by
    have hc := ha c (by simp)
    have hch : chr (flat (c :: cs) ++ [34]) = some (c, (enc c).length) := by rw [flat_cons, List.append_assoc]; exact chr_enc hc _
    have hne : ¬ flat (c :: cs) ++ [34] = [] := by simp
    have hel := enc_len c
    obtain ⟨x, t, hx, e⟩ := head_of (show ¬ enc c = [] from enc_ne c)
    have hg : (flat (c :: cs) ++ [34]).getD 0 0 = x := by rw [flat_cons, List.append_assoc, hx]; rfl
    have hxp := hp x (by rw [flat_cons, hx]; simp)
    rw [str, dif_neg hne, hg, if_neg hxp.1, if_pos hxp.2, hch]
    simp only
    have e1 : (enc c).length - 1 + 1 = (enc c).length := by omega
    have e2 : (flat (c :: cs) ++ [34]).drop (enc c).length = flat cs ++ [34] := by rw [flat_cons, List.append_assoc]; exact List.drop_left' rfl
    have e3 : (flat (c :: cs) ++ [34]).take (enc c).length = enc c := by rw [flat_cons, List.append_assoc]; exact List.take_left' rfl
    rw [e1, e2, e3, str_flat first cs _ _ (fun d hd => ha d (by simp [hd])) (fun y hy => hp y (by rw [flat_cons]; simp [hy])), flat_cons, List.append_assoc, List.length_append]
    congr 2
    omega
/-- A string of chars but marks and backslashes, by itself. -/
theorem again_str {cs : List Int} (ha : AllC cs) (hp : ∀ x ∈ flat cs, x ≠ 34 ∧ x ≠ 92) : lex 0 (34 :: (flat cs ++ [34])) = ([datum 4 0 (flat cs) 0], 0, 0) := by
  have hs := str_flat 0 cs 1 [] ha hp
  rw [List.nil_append] at hs
  have h1 : one (34 :: (flat cs ++ [34])) 0 = .tok (datum 4 0 (flat cs) 0) ((flat cs).length + 2) false := by
    unfold one
    have hat : atS (34 :: (flat cs ++ [34])) [35, 124] = false := atS_head (by simp)
    simp only [List.getD_cons_zero, List.drop_succ_cons, List.drop_zero, hat]
    rw [if_neg (by decide), if_neg (by decide), if_neg (by decide), if_neg (by decide), if_neg (by decide), if_neg (by decide), if_pos trivial]
    rw [show (0 : Int) + 1 = 1 from rfl, hs]
    simp only [if_true]
    congr 1
    omega
  rw [lex, dif_neg (by simp), h1]
  simp only
  rw [if_neg (by simp)]
  have hd : (34 :: (flat cs ++ [34])).drop ((flat cs).length + 2 - 1 + 1) = [] := List.drop_eq_nil_of_le (by simp)
  rw [hd, lex, dif_pos rfl]
  simp
end Go.Proofs.YtgnnkfdpfmlajaaDoor.Lx
namespace Go.Proofs.YtgnnkfdpfmlajaaDoor.Lx
open Bg
set_option linter.unusedVariables false
set_option linter.unusedSimpArgs false
set_option maxHeartbeats 1000000
theorem hexL_char {s : List Int} (h : 0 ≤ hexL s) : isC (hexL s) = true := by
  unfold hexL at h ⊢
  split at h
  · omega
  · rename_i h0
    rw [if_neg h0]
    split at h
    · rename_i h1; rw [if_pos h1]; exact h1
    · omega
theorem allc_snoc' {l : List Int} {c : Int} (h : AllC l) (hc : isC c = true) : AllC (l ++ [c]) := fun x hx => by
  rcases List.mem_append.1 hx with h1 | h1
  · exact h x h1
  · simp at h1; rw [h1]; exact hc
/-- A string's text consists of chars. -/
theorem str_chars (first i : Int) (r out : List Int) (hb : Byts r) (ho : ∃ cs, AllC cs ∧ out = flat cs) : (str first i r out).2.2.1 = 0 → ∃ cs, AllC cs ∧ (str first i r out).1 = flat cs := by
  fun_induction str first i r out with
  | case1 => intro h; simp at h
  | case2 i r out h1 h2 => intro _; exact ho
  | case3 i r out h1 h2 h3 h4 => intro h; simp at h
  | case4 i r out h1 h2 h3 c n h4 ih =>
    obtain ⟨cs, ha, rfl⟩ := ho
    obtain ⟨e1, e2, e3⟩ := chr_some hb h4
    refine ih (hb.drop _) ⟨cs ++ [c], allc_snoc' ha e1, ?_⟩
    rw [flat_snoc]
    congr 1
    conv => lhs; rw [← e3, e2]
    exact List.take_left' rfl
  | case5 i r out h1 h2 h3 h4 => intro h; simp at h
  | case6 i r out h1 h2 h3 h4 h5 ih =>
    obtain ⟨cs, ha, rfl⟩ := ho
    refine ih (hb.drop _) ⟨cs ++ [r.getD 1 0], allc_snoc' ha ?_, ?_⟩
    · rcases h5 with h | h <;> rw [h] <;> decide
    · rw [flat_snoc]
      rcases h5 with h | h <;> rw [h] <;> rfl
  | case7 i r out h1 h2 h3 h4 h5 h6 ih =>
    obtain ⟨cs, ha, rfl⟩ := ho
    exact ih (hb.drop _) ⟨cs ++ [10], allc_snoc' ha (by decide), by rw [flat_snoc]; rfl⟩
  | case8 i r out h1 h2 h3 h4 h5 h6 h7 ih =>
    obtain ⟨cs, ha, rfl⟩ := ho
    exact ih (hb.drop _) ⟨cs ++ [9], allc_snoc' ha (by decide), by rw [flat_snoc]; rfl⟩
  | case9 i r out h1 h2 h3 h4 h5 h6 h7 h8 ih =>
    obtain ⟨cs, ha, rfl⟩ := ho
    exact ih (hb.drop _) ⟨cs ++ [hexL (hexs (r.drop 2))], allc_snoc' ha (hexL_char h8.2.2), by rw [flat_snoc]⟩
  | case10 i r out h1 h2 h3 h4 h5 h6 h7 h8 => intro h; simp at h
/-- What a token's parts may be. -/
def TkOk (t : Tk) : Prop :=
  (t.kind ≠ 7 ∧ t.dk = 0) ∨ (t.kind = 7 ∧ ((t.dk = 1 ∧ t.text = [] ∧ (t.n = 0 ∨ t.n = 1)) ∨ (t.dk = 2 ∧ t.n = 0 ∧ ∃ s, int s = some t.text) ∨ (t.dk = 3 ∧ t.text = []) ∨ (t.dk = 4 ∧ t.n = 0 ∧ ∃ cs, AllC cs ∧ t.text = flat cs) ∨ (t.dk = 5 ∧ t.n = 0 ∧ ¬ t.text = [] ∧ (∀ c ∈ t.text, symB c = true) ∧ int t.text = none ∧ t.text ≠ [46])))
theorem mark_ok {r : List Int} {p : Int} {t : Tk} {n : Nat} (h : mark r p = some (t, n)) : TkOk t := by
  unfold mark at h
  split at h
  · cases h; exact Or.inl ⟨by simp [plainTk], rfl⟩
  split at h
  · split at h
    · cases h
    · cases h; exact Or.inr ⟨rfl, Or.inr (Or.inr (Or.inl ⟨rfl, rfl⟩))⟩
  split at h
  · cases h; exact Or.inl ⟨by simp [plainTk], rfl⟩
  split at h
  · cases h; exact Or.inr ⟨rfl, Or.inl ⟨rfl, rfl, Or.inr rfl⟩⟩
  split at h
  · cases h; exact Or.inr ⟨rfl, Or.inl ⟨rfl, rfl, Or.inl rfl⟩⟩
  · cases h
theorem run_sym (r : List Int) : ∀ c ∈ run r, symB c = true := fun c hc => by
  unfold run at hc
  induction r with
  | nil => cases hc
  | cons x t ih =>
    rw [List.takeWhile_cons] at hc
    split at hc
    · rename_i h1
      simp only [List.mem_cons] at hc
      rcases hc with rfl | hc
      · exact h1
      · exact ih hc
    · cases hc
theorem runTk_ok {r : List Int} (h : ¬ r = []) (hs : symB (r.getD 0 0) = true) (p : Int) : TkOk (runTk (run r) p) := by
  have h1 := run_pos h hs
  have h2 := run_sym r
  unfold runTk
  split
  · exact Or.inl ⟨by simp [plainTk], rfl⟩
  · rename_i h3
    split
    · rename_i t h4
      exact Or.inr ⟨rfl, Or.inr (Or.inl ⟨rfl, rfl, _, h4⟩)⟩
    · rename_i h4
      exact Or.inr ⟨rfl, Or.inr (Or.inr (Or.inr (Or.inr ⟨rfl, rfl, (fun e => by have e' : run r = [] := e; rw [e'] at h1; simp at h1), h2, h4, h3⟩)))⟩
theorem one_ok {r : List Int} (hb : Byts r) (h : ¬ r = []) {p : Int} {t : Tk} {n : Nat} {l : Bool} (e : one r p = .tok t n l) : TkOk t := by
  unfold one at e
  split at e
  · cases e
  split at e
  · split at e <;> cases e
  split at e
  · split at e <;> cases e
  split at e
  · cases e; exact Or.inl ⟨by simp [plainTk], rfl⟩
  split at e
  · cases e; exact Or.inl ⟨by simp [plainTk], rfl⟩
  split at e
  · cases e; exact Or.inl ⟨by simp [plainTk], rfl⟩
  split at e
  · split at e
    · rename_i h1
      cases e
      exact Or.inr ⟨rfl, Or.inr (Or.inr (Or.inr (Or.inl ⟨rfl, rfl, str_chars p (p + 1) (r.drop 1) [] (hb.drop 1) ⟨[], (fun c hc => by cases hc), rfl⟩ h1⟩)))⟩
    · cases e
  split at e
  · split at e
    · cases e
    · rename_i h1
      cases e
      exact mark_ok h1
  split at e
  · rename_i h1
    cases e
    exact runTk_ok h h1 p
  · cases e
theorem lex_ok (p : Int) (r : List Int) (hb : Byts r) : ∀ t ∈ (lex p r).1, TkOk t := by
  fun_induction lex p r with
  | case1 => simp
  | case2 p r h e q h1 => simp
  | case3 p r h n h1 ih => exact ih (hb.drop _)
  | case4 p r h t n loose h1 h2 => simp
  | case5 p r h t n loose h1 h2 ts q h3 ih =>
    have hi := ih (hb.drop _)
    rw [h3] at hi
    intro u hu
    simp only [List.mem_cons] at hu
    rcases hu with rfl | hu
    · exact one_ok hb h h1
    · exact hi u hu
  | case6 p r h t n loose h1 h2 ts e q h3 h4 ih => simp
/-- P7.3: a token's text by itself. -/
theorem lex_again {p : Int} {r : List Int} (hb : Byts r) {t : Tk} (ht : t ∈ (lex p r).1) :
    (t.dk = 2 ∨ t.dk = 5 → lex 0 t.text = ([⟨7, 0, t.dk, t.n, t.text⟩], 0, 0)) ∧ (t.dk = 1 → lex 0 (if t.n = 1 then [35, 116] else [35, 102]) = ([⟨7, 0, t.dk, t.n, t.text⟩], 0, 0)) ∧ (t.dk = 4 → (∀ x ∈ t.text, x ≠ 34 ∧ x ≠ 92) → lex 0 (34 :: (t.text ++ [34])) = ([⟨7, 0, t.dk, t.n, t.text⟩], 0, 0)) := by
  rcases lex_ok p r hb t ht with ⟨h1, h2⟩ | ⟨h1, h2⟩
  · exact ⟨fun h => by omega, fun h => by omega, fun h => by omega⟩
  · rcases h2 with ⟨h2, h3, h4⟩ | ⟨h2, h3, s, h4⟩ | ⟨h2, h3⟩ | ⟨h2, h3, cs, h4, h5⟩ | ⟨h2, h3, h4, h5, h6, h7⟩
    · refine ⟨fun h => by omega, fun _ => ?_, fun h => by omega⟩
      rw [h2, h3]
      rcases h4 with h | h
      · rw [h, if_neg (by decide)]; exact again_false
      · rw [h, if_pos rfl]; exact again_true
    · refine ⟨fun _ => ?_, fun h => by omega, fun h => by omega⟩
      rw [h2, h3]
      exact again_int h4
    · exact ⟨fun h => by omega, fun h => by omega, fun h => by omega⟩
    · refine ⟨fun h => by omega, fun h => by omega, fun _ hp => ?_⟩
      rw [h2, h3, h5]
      rw [h5] at hp
      exact again_str h4 hp
    · refine ⟨fun _ => ?_, fun h => by omega, fun h => by omega⟩
      rw [h2, h3]
      exact again_sym h4 h5 h6 h7
end Go.Proofs.YtgnnkfdpfmlajaaDoor.Lx
namespace Go.Proofs.YtgnnkfdpfmlajaaDoor.Lx
open Bg
set_option linter.unusedVariables false
set_option linter.unusedSimpArgs false
set_option maxHeartbeats 1000000
theorem chr_app {r y : List Int} (hb : Byts r) {c : Int} {n : Nat} (h : chr r = some (c, n)) : chr (r ++ y) = some (c, n) := by
  obtain ⟨e1, e2, e3⟩ := chr_some hb h
  rw [← e3, List.append_assoc, chr_enc e1, e2]
theorem atS_app {r s : List Int} (z : List Int) (hs : ∀ c ∈ s, c ≠ 32) : atS (r ++ 32 :: z) s = atS r s := by
  unfold atS
  rw [decide_eq_decide]
  rcases Nat.le_total s.length r.length with h | h
  · rw [List.take_append_of_le_length h]
  · constructor
    · intro e
      rcases Nat.eq_or_lt_of_le h with h1 | h1
      · rw [List.take_append_of_le_length (by omega)] at e
        exact e
      · exfalso
        have hm : (32 : Int) ∈ (r ++ 32 :: z).take s.length := by
          rw [List.take_append, List.mem_append]
          right
          obtain ⟨m, hm⟩ : ∃ m, s.length - r.length = m + 1 := ⟨s.length - r.length - 1, by omega⟩
          rw [hm, List.take_succ_cons]
          simp
        rw [e] at hm
        exact hs 32 hm rfl
    · intro e
      have := congrArg List.length e
      rw [List.length_take] at this
      rw [List.take_append_of_le_length (by omega)]
      exact e
theorem while_app (f : Int → Bool) (z : List Int) (hf : f 32 = false) : ∀ r : List Int, (r ++ 32 :: z).takeWhile f = r.takeWhile f
  | [] => by
    rw [List.nil_append, List.takeWhile_cons, hf]
    rfl
  | x :: t => by
    rw [List.cons_append, List.takeWhile_cons, List.takeWhile_cons, while_app f z hf t]
theorem run_app (r z : List Int) : run (r ++ 32 :: z) = run r := while_app symB z (by decide) r
theorem hexs_app (r z : List Int) : hexs (r ++ 32 :: z) = hexs r := while_app _ z (by decide) r
theorem drop_app {r : List Int} (y : List Int) {n : Nat} (h : n ≤ r.length) : (r ++ y).drop n = r.drop n ++ y := List.drop_append_of_le_length h
theorem take_app {r : List Int} (y : List Int) {n : Nat} (h : n ≤ r.length) : (r ++ y).take n = r.take n := List.take_append_of_le_length h
theorem getD_app {r : List Int} (y : List Int) {n : Nat} (h : n < r.length) : (r ++ y).getD n 0 = r.getD n 0 := by
  rw [List.getD_eq_getElem?_getD, List.getD_eq_getElem?_getD, List.getElem?_append_left h]
theorem com_app (z : List Int) (first i : Int) (r : List Int) (d : Int) (hb : Byts r) : (com first i r d).2.1 = 0 → com first i (r ++ 32 :: z) d = com first i r d := by
  fun_induction com first i r d with
  | case1 => intro h; simp at h
  | case2 i r h1 h2 => intro h; simp at h
  | case3 i r d h1 h2 h3 ih =>
    intro h
    have hl := atS_len h2
    simp only [List.length_cons, List.length_nil] at hl
    rw [com, dif_neg (by simp), if_pos (by rw [atS_app z (by simp)]; exact h2), if_neg h3, drop_app _ (by omega)]
    exact ih (hb.drop _) h
  | case4 i r d h1 h2 h3 h4 =>
    intro _
    rw [com, dif_neg (by simp), if_neg (by rw [atS_app z (by simp)]; exact h2), if_pos (by rw [atS_app z (by simp)]; exact h3), if_pos h4]
  | case5 i r d h1 h2 h3 h4 ih =>
    intro h
    have hl := atS_len h3
    simp only [List.length_cons, List.length_nil] at hl
    rw [com, dif_neg (by simp), if_neg (by rw [atS_app z (by simp)]; exact h2), if_pos (by rw [atS_app z (by simp)]; exact h3), if_neg h4, drop_app _ (by omega)]
    exact ih (hb.drop _) h
  | case6 i r d h1 h2 h3 h4 => intro h; simp at h
  | case7 i r d h1 h2 h3 c n h4 ih =>
    intro h
    have hn := chr_lt hb h4
    rw [com, dif_neg (by simp), if_neg (by rw [atS_app z (by simp)]; exact h2), if_neg (by rw [atS_app z (by simp)]; exact h3), chr_app hb h4]
    simp only
    rw [drop_app _ (by omega)]
    exact ih (hb.drop _) h
theorem str_app (z : List Int) (first i : Int) (r out : List Int) (hb : Byts r) : (str first i r out).2.2.1 = 0 → str first i (r ++ 32 :: z) out = str first i r out := by
  fun_induction str first i r out with
  | case1 => intro h; simp at h
  | case2 i r out h1 h2 =>
    intro _
    have hp := pos_len h1
    rw [str, dif_neg (by simp), getD_app _ (by omega), if_pos h2]
  | case3 i r out h1 h2 h3 h4 => intro h; simp at h
  | case4 i r out h1 h2 h3 c n h4 ih =>
    intro h
    have hp := pos_len h1
    have hn := chr_lt hb h4
    rw [str, dif_neg (by simp), getD_app _ (by omega), if_neg h2, if_pos h3, chr_app hb h4]
    simp only
    rw [drop_app _ (by omega), take_app _ (by omega)]
    exact ih (hb.drop _) h
  | case5 i r out h1 h2 h3 h4 => intro h; simp at h
  | case6 i r out h1 h2 h3 h4 h5 ih =>
    intro h
    have hp := pos_len h1
    rw [str, dif_neg (by simp), getD_app _ (by omega), if_neg h2, if_neg h3, if_neg (by simp; omega), getD_app _ (by omega), if_pos h5, drop_app _ (by omega)]
    exact ih (hb.drop _) h
  | case7 i r out h1 h2 h3 h4 h5 h6 ih =>
    intro h
    have hp := pos_len h1
    rw [str, dif_neg (by simp), getD_app _ (by omega), if_neg h2, if_neg h3, if_neg (by simp; omega), getD_app _ (by omega), if_neg h5, if_pos h6, drop_app _ (by omega)]
    exact ih (hb.drop _) h
  | case8 i r out h1 h2 h3 h4 h5 h6 h7 ih =>
    intro h
    have hp := pos_len h1
    rw [str, dif_neg (by simp), getD_app _ (by omega), if_neg h2, if_neg h3, if_neg (by simp; omega), getD_app _ (by omega), if_neg h5, if_neg h6, if_pos h7, drop_app _ (by omega)]
    exact ih (hb.drop _) h
  | case9 i r out h1 h2 h3 h4 h5 h6 h7 h8 ih =>
    intro h
    have hp := pos_len h1
    have hn := atS_len h8.2.1
    rw [List.length_drop, List.length_drop] at hn
    simp only [List.length_cons, List.length_nil] at hn
    have e1 : (r ++ 32 :: z).drop 2 = r.drop 2 ++ 32 :: z := drop_app _ (by omega)
    have e2 : hexs ((r ++ 32 :: z).drop 2) = hexs (r.drop 2) := by rw [e1, hexs_app]
    rw [str, dif_neg (by simp), getD_app _ (by omega), if_neg h2, if_neg h3, if_neg (by simp; omega), getD_app _ (by omega), if_neg h5, if_neg h6, if_neg h7, e2, if_pos ⟨h8.1, by rw [e1, drop_app _ (by rw [List.length_drop]; omega), atS_app z (by simp)]; exact h8.2.1, h8.2.2⟩, drop_app _ (by omega)]
    exact ih (hb.drop _) h
  | case10 i r out h1 h2 h3 h4 h5 h6 h7 h8 => intro h; simp at h
theorem chl_app (z : List Int) {r : List Int} (hb : Byts r) {v : Int × Nat} (h : chl r = some v) : chl (r ++ 32 :: z) = some v := by
  unfold chl at h ⊢
  cases hc : chr r with
  | none => rw [hc] at h; cases h
  | some x =>
    obtain ⟨c, n⟩ := x
    have hn := chr_lt hb hc
    have hr := run_le (r.drop n)
    rw [List.length_drop] at hr
    rw [hc] at h
    rw [chr_app hb hc]
    simp only at h ⊢
    rw [drop_app _ (by omega), run_app, take_app _ (by omega)]
    exact h
theorem mark_app (z : List Int) {r : List Int} (hb : Byts r) (h0 : ¬ r = []) {p : Int} {v : Tk × Nat} (h : mark r p = some v) : mark (r ++ 32 :: z) p = some v := by
  have hp := pos_len h0
  have e1 : run ((r ++ 32 :: z).drop 1) = run (r.drop 1) := by rw [drop_app _ (by omega), run_app]
  have hr := run_le (r.drop 1)
  rw [List.length_drop] at hr
  unfold mark at h ⊢
  rw [atS_app z (by simp), atS_app z (by simp), e1]
  split at h
  · rename_i h1; rw [if_pos h1]; exact h
  rename_i h1
  rw [if_neg h1]
  split at h
  · rename_i h2
    rw [if_pos h2]
    have hl := atS_len h2
    simp only [List.length_cons, List.length_nil] at hl
    rw [drop_app _ (by omega)]
    cases hc : chl (r.drop 2) with
    | none => rw [hc] at h; cases h
    | some x => rw [hc] at h; rw [chl_app z (hb.drop 2) hc]; exact h
  rename_i h2
  rw [if_neg h2]
  have e3 : (run (r.drop 1) = [117, 56] ∧ atS ((r ++ 32 :: z).drop 3) [40] = true) ↔ (run (r.drop 1) = [117, 56] ∧ atS (r.drop 3) [40] = true) := by
    constructor
    · rintro ⟨a, b⟩
      rw [a] at hr
      simp only [List.length_cons, List.length_nil] at hr
      rw [drop_app _ (by omega), atS_app z (by simp)] at b
      exact ⟨a, b⟩
    · rintro ⟨a, b⟩
      rw [a] at hr
      simp only [List.length_cons, List.length_nil] at hr
      refine ⟨a, ?_⟩
      rw [drop_app _ (by omega), atS_app z (by simp)]
      exact b
  simp only [e3]
  exact h
end Go.Proofs.YtgnnkfdpfmlajaaDoor.Lx
namespace Go.Proofs.YtgnnkfdpfmlajaaDoor.Lx
open Bg
set_option linter.unusedVariables false
set_option linter.unusedSimpArgs false
set_option maxHeartbeats 1000000
/-- Behind each ; stands a line's end. -/
def NC (r : List Int) : Prop := ∀ k, k < r.length → r.getD k 0 = 59 → ∃ j, k < j ∧ j < r.length ∧ r.getD j 0 = 10
theorem getD_drop (r : List Int) (n k : Nat) : (r.drop n).getD k 0 = r.getD (n + k) 0 := by
  rw [List.getD_eq_getElem?_getD, List.getD_eq_getElem?_getD, List.getElem?_drop]
theorem NC.drop {r : List Int} (h : NC r) (n : Nat) : NC (r.drop n) := fun k hk hx => by
  rw [List.length_drop] at hk
  rw [getD_drop] at hx
  obtain ⟨j, h1, h2, h3⟩ := h (n + k) (by omega) hx
  refine ⟨j - n, by omega, by rw [List.length_drop]; omega, ?_⟩
  rw [getD_drop, show n + (j - n) = j by omega]
  exact h3
theorem enc_no10 {c : Int} (h : isC c = true) (h0 : (enc c).getD 0 0 ≠ 10) : ∀ x ∈ enc c, x ≠ 10 := by
  have hc := isC_iff.1 h
  intro x hx
  rcases enc_cases h with ⟨h1, he⟩ | ⟨h1, h2, he⟩ | ⟨h1, h2, he⟩ | ⟨h1, he⟩
  · rw [he] at hx h0
    simp at hx h0
    omega
  · rw [he] at hx
    simp at hx
    omega
  · rw [he] at hx
    simp at hx
    omega
  · rw [he] at hx
    simp at hx
    omega
theorem line_end (r : List Int) (hb : Byts r) : (line r).2 = true → ((line r).1 < r.length ∧ r.getD (line r).1 0 = 10) ∨ ((line r).1 = r.length ∧ ∀ x ∈ r, x ≠ 10) := by
  fun_induction line r with
  | case1 => intro _; exact Or.inr ⟨rfl, fun x hx => by cases hx⟩
  | case2 r h1 h2 => intro _; exact Or.inl ⟨pos_len h1, h2⟩
  | case3 r h1 h2 h3 => intro h; simp at h
  | case4 r h1 h2 c n h3 ih =>
    intro h
    have hn := chr_lt hb h3
    obtain ⟨e1, e2, e3⟩ := chr_some hb h3
    have en : n - 1 + 1 = n := by omega
    rw [en] at ih h ⊢
    rcases ih (hb.drop _) h with ⟨h4, h5⟩ | ⟨h4, h5⟩
    · left
      rw [List.length_drop] at h4
      rw [getD_drop] at h5
      simp only
      exact ⟨by omega, by rw [Nat.add_comm]; exact h5⟩
    · right
      rw [List.length_drop] at h4
      refine ⟨by simp only; omega, fun x hx => ?_⟩
      rw [← e3] at hx
      rcases List.mem_append.1 hx with h6 | h6
      · refine enc_no10 e1 ?_ x h6
        intro e
        apply h2
        rw [← e3, getD_app _ (by omega)]
        exact e
      · exact h5 x h6
theorem line_app (y : List Int) (r : List Int) (hb : Byts r) : (line r).2 = true → (line r).1 < r.length → line (r ++ y) = line r := by
  fun_induction line r with
  | case1 => intro _ h; simp at h
  | case2 r h1 h2 =>
    intro _ _
    have hp := pos_len h1
    have hne : ¬ r ++ y = [] := fun e => h1 (List.append_eq_nil_iff.1 e).1
    rw [line, dif_neg hne, getD_app _ (by omega), if_pos h2]
  | case3 r h1 h2 h3 => intro h; simp at h
  | case4 r h1 h2 c n h3 ih =>
    intro h h'
    have hp := pos_len h1
    have hn := chr_lt hb h3
    have hne : ¬ r ++ y = [] := fun e => h1 (List.append_eq_nil_iff.1 e).1
    simp only at h h'
    have hi := ih (hb.drop _) h (by rw [List.length_drop]; omega)
    rw [line, dif_neg hne, getD_app _ (by omega), if_neg h2, chr_app hb h3]
    simp only
    rw [drop_app _ (by omega), hi]
theorem nc_line {r : List Int} (hb : Byts r) (h0 : ¬ r = []) (hn : NC r) (h1 : r.getD 0 0 = 59) (h2 : (line r).2 = true) : (line r).1 < r.length := by
  rcases line_end r hb h2 with h | ⟨h, h3⟩
  · exact h.1
  · exfalso
    obtain ⟨j, h4, h5, h6⟩ := hn 0 (pos_len h0) h1
    refine h3 (r.getD j 0) ?_ h6
    rw [List.getD_eq_getElem?_getD, List.getElem?_eq_getElem h5]
    exact List.getElem_mem h5
/-- What one lexeme is, with a blank and more behind all. -/
theorem one_app (z : List Int) {r : List Int} (hb : Byts r) (h0 : ¬ r = []) (hn : NC r) (p : Int) (he : ∀ e q, one r p ≠ .err e q) : one (r ++ 32 :: z) p = one r p := by
  have hp := pos_len h0
  have hg : (r ++ 32 :: z).getD 0 0 = r.getD 0 0 := getD_app _ (by omega)
  have ha := atS_app (r := r) (s := [35, 124]) z (by simp)
  unfold one at he ⊢
  rw [hg, ha]
  split at he
  · rename_i h1; rw [if_pos h1, if_pos h1]
  rename_i h1
  rw [if_neg h1, if_neg h1]
  split at he
  · rename_i h2
    rw [if_pos h2, if_pos h2]
    split at he
    · rename_i h3
      rw [line_app _ r hb h3 (nc_line hb h0 hn h2 h3)]
    · exact absurd rfl (he _ _)
  rename_i h2
  rw [if_neg h2, if_neg h2]
  split at he
  · rename_i h3
    rw [if_pos h3, if_pos h3]
    split at he
    · rename_i h4
      rw [com_app z p p r 0 hb h4]
    · exact absurd rfl (he _ _)
  rename_i h3
  rw [if_neg h3, if_neg h3]
  split at he
  · rename_i h4; rw [if_pos h4, if_pos h4]
  rename_i h4
  rw [if_neg h4, if_neg h4]
  split at he
  · rename_i h5; rw [if_pos h5, if_pos h5]
  rename_i h5
  rw [if_neg h5, if_neg h5]
  split at he
  · rename_i h6; rw [if_pos h6, if_pos h6]
  rename_i h6
  rw [if_neg h6, if_neg h6]
  split at he
  · rename_i h7
    rw [if_pos h7, if_pos h7]
    split at he
    · rename_i h8
      rw [drop_app _ (by omega), str_app z p (p + 1) (r.drop 1) [] (hb.drop 1) h8]
    · exact absurd rfl (he _ _)
  rename_i h7
  rw [if_neg h7, if_neg h7]
  split at he
  · rename_i h8
    rw [if_pos h8, if_pos h8]
    cases hm : mark r p with
    | none => rw [hm] at he; exact absurd rfl (he _ _)
    | some v => rw [mark_app z hb h0 hm]
  rename_i h8
  rw [if_neg h8, if_neg h8]
  rw [run_app]
def pre (ts : List Tk) (x : List Tk × Int × Int) : List Tk × Int × Int := if x.2.1 = 0 then (ts ++ x.1, 0, 0) else ([], x.2.1, x.2.2)
theorem lex_norm (p : Int) (r : List Int) : ((lex p r).2.1 = 0 → (lex p r).2.2 = 0) ∧ ((lex p r).2.1 ≠ 0 → (lex p r).1 = []) := by
  fun_induction lex p r with
  | case1 => exact ⟨fun _ => rfl, fun h => absurd rfl h⟩
  | case2 p r h e q h1 => exact ⟨fun h => absurd h (one_err h1), fun _ => rfl⟩
  | case3 p r h n h1 ih => exact ih
  | case4 p r h t n loose h1 h2 => exact ⟨fun h => by simp at h, fun _ => rfl⟩
  | case5 p r h t n loose h1 h2 ts q h3 ih => exact ⟨fun _ => rfl, fun h => absurd rfl h⟩
  | case6 p r h t n loose h1 h2 ts e q h3 h4 ih => exact ⟨fun h => absurd h h4, fun _ => rfl⟩
theorem pre_nil (p : Int) (r : List Int) : pre [] (lex p r) = lex p r := by
  have h := lex_norm p r
  generalize lex p r = x at h ⊢
  obtain ⟨a, b, c⟩ := x
  simp only at h
  unfold pre
  by_cases hb : b = 0
  · have := h.1 hb
    subst hb
    subst this
    rfl
  · have := h.2 hb
    subst this
    simp [hb]
theorem lex_app (z : List Int) (p : Int) (r : List Int) (hb : Byts r) (hn : NC r) : (lex p r).2.1 = 0 → lex p (r ++ 32 :: z) = pre (lex p r).1 (lex (p + r.length) (32 :: z)) := by
  fun_induction lex p r with
  | case1 p =>
    intro _
    simp only [List.nil_append, List.length_nil]
    rw [show p + ((0 : Nat) : Int) = p by omega]
    exact (pre_nil _ _).symm
  | case2 p r h e q h1 => intro h2; exact absurd h2 (one_err h1)
  | case3 p r h n h1 ih =>
    intro h2
    have hx := one_skip_pos hb h h1
    have ho := one_app z hb h hn p (fun e q h3 => by rw [h1] at h3; cases h3)
    rw [lex, dif_neg (by simp), ho, h1]
    simp only
    rw [drop_app _ (by omega), ih (hb.drop _) (hn.drop _) h2, List.length_drop]
    congr 2
    omega
  | case4 p r h t n loose h1 h2 => intro h3; simp at h3
  | case5 p r h t n loose h1 h2 ts q h3 ih =>
    intro _
    have hx := one_tok_pos hb h h1
    have ho := one_app z hb h hn p (fun e q h4 => by rw [h1] at h4; cases h4)
    have hi := ih (hb.drop _) (hn.drop _) (by rw [h3])
    rw [h3] at hi
    simp only at hi
    have hl : ¬ (loose = true ∧ n < (r ++ 32 :: z).length ∧ delimB ((r ++ 32 :: z).getD n 0) = false) := by
      rintro ⟨a, b, c⟩
      rcases Nat.lt_or_ge n r.length with h4 | h4
      · rw [getD_app _ h4] at c
        exact h2 ⟨a, h4, c⟩
      · have : n = r.length := by omega
        rw [this, List.getD_eq_getElem?_getD, List.getElem?_append_right (Nat.le_refl _), Nat.sub_self] at c
        simp [delimB, blankB] at c
    rw [lex, dif_neg (by simp), ho, h1]
    simp only
    rw [if_neg hl, drop_app _ (by omega), hi, List.length_drop]
    have e : p + (n : Int) + ((r.length - (n - 1 + 1) : Nat) : Int) = p + r.length := by omega
    rw [e]
    unfold pre
    split
    · simp
    · rename_i h5
      simp [h5]
  | case6 p r h t n loose h1 h2 ts e q h3 h4 ih => intro h5; exact absurd h5 h4

theorem lex_blank (p : Int) (z : List Int) : lex p (32 :: z) = lex (p + 1) z := by
  have h : one (32 :: z) p = .skip 1 := by
    unfold one
    simp only [List.getD_cons_zero]
    rw [if_pos (show blankB 32 = true by decide)]
  rw [lex, dif_neg (by simp), h]
  rfl
theorem lex_nl (p : Int) (z : List Int) : lex p (10 :: z) = lex (p + 1) z := by
  have h : one (10 :: z) p = .skip 1 := by
    unfold one
    simp only [List.getD_cons_zero]
    rw [if_pos (show blankB 10 = true by decide)]
  rw [lex, dif_neg (by simp), h]
  rfl
theorem chr_one {c : Int} (h : isC c = true) (h1 : c < 128) (t : List Int) : chr (c :: t) = some (c, 1) := by
  have he : enc c = [c] := Lib.encodeRuneZ_one (isC_iff.1 h).1 (by omega)
  have := chr_enc h t
  rw [he] at this
  exact this
/-- The three that may stand between. -/
theorem sep_line (p : Int) (z : List Int) : lex p (32 :: 59 :: 32 :: 40 :: 34 :: 10 :: z) = lex (p + 6) z := by
  rw [lex_blank]
  have hl : line (59 :: 32 :: 40 :: 34 :: 10 :: z) = (4, true) := by
    rw [line, dif_neg (by simp), if_neg (by simp), chr_one (by decide) (by decide)]
    simp only [Nat.sub_self, Nat.zero_add, List.drop_succ_cons, List.drop_zero]
    rw [line, dif_neg (by simp), if_neg (by simp), chr_one (by decide) (by decide)]
    simp only [Nat.sub_self, Nat.zero_add, List.drop_succ_cons, List.drop_zero]
    rw [line, dif_neg (by simp), if_neg (by simp), chr_one (by decide) (by decide)]
    simp only [Nat.sub_self, Nat.zero_add, List.drop_succ_cons, List.drop_zero]
    rw [line, dif_neg (by simp), if_neg (by simp), chr_one (by decide) (by decide)]
    simp only [Nat.sub_self, Nat.zero_add, List.drop_succ_cons, List.drop_zero]
    rw [line, dif_neg (by simp), if_pos (by simp)]
  have h : one (59 :: 32 :: 40 :: 34 :: 10 :: z) (p + 1) = .skip 4 := by
    unfold one
    simp only [List.getD_cons_zero]
    rw [if_neg (show ¬ blankB 59 = true by decide), if_pos trivial, hl]
    rfl
  rw [lex, dif_neg (by simp), h]
  simp only [List.drop_succ_cons, List.drop_zero]
  rw [lex_nl]
  congr 1
  omega
theorem sep_marks (p : Int) (z : List Int) : lex p (32 :: 35 :: 124 :: 59 :: 35 :: 124 :: 34 :: 124 :: 35 :: 124 :: 35 :: 32 :: z) = lex (p + 12) z := by
  rw [lex_blank]
  have hc : com (p + 1) (p + 1) (35 :: 124 :: 59 :: 35 :: 124 :: 34 :: 124 :: 35 :: 124 :: 35 :: 32 :: z) 0 = (p + 11, 0, 0) := by
    rw [com, dif_neg (by simp), if_pos (by simp [atS]), if_neg (by decide)]
    simp only [List.drop_succ_cons, List.drop_zero]
    rw [com, dif_neg (by simp), if_neg (by simp [atS]), if_neg (by simp [atS]), chr_one (by decide) (by decide)]
    simp only [Nat.sub_self, Nat.zero_add, List.drop_succ_cons, List.drop_zero]
    rw [com, dif_neg (by simp), if_pos (by simp [atS]), if_neg (by decide)]
    simp only [List.drop_succ_cons, List.drop_zero]
    rw [com, dif_neg (by simp), if_neg (by simp [atS]), if_neg (by simp [atS]), chr_one (by decide) (by decide)]
    simp only [Nat.sub_self, Nat.zero_add, List.drop_succ_cons, List.drop_zero]
    rw [com, dif_neg (by simp), if_neg (by simp [atS]), if_pos (by simp [atS]), if_neg (by decide)]
    simp only [List.drop_succ_cons, List.drop_zero]
    rw [com, dif_neg (by simp), if_neg (by simp [atS]), if_pos (by simp [atS]), if_pos (by decide)]
    congr 1
    simp only [Int.natCast_one]
    omega
  have h : one (35 :: 124 :: 59 :: 35 :: 124 :: 34 :: 124 :: 35 :: 124 :: 35 :: 32 :: z) (p + 1) = .skip 10 := by
    unfold one
    rw [if_neg (by simp [blankB]), if_neg (by simp), if_pos (by simp [atS]), hc]
    simp only [if_true]
    congr 1
    omega
  rw [lex, dif_neg (by simp), h]
  simp only [List.drop_succ_cons, List.drop_zero]
  rw [lex_blank]
  congr 1
  omega
def seps : List (List Int) := [[32], [32, 59, 32, 40, 34, 10], [32, 35, 124, 59, 35, 124, 34, 124, 35, 124, 35, 32]]
/-- P7.2: what stands between has no effect but on places. -/
theorem lex_between {a b s : List Int} (hs : s ∈ seps) (ha : Byts a) (hn : NC a) (h1 : (lex 0 a).2.1 = 0) (h2 : (lex 0 b).2.1 = 0) :
    lex 0 (a ++ s ++ b) = ((lex 0 a).1 ++ (lex 0 b).1.map (mvT ((a.length : Int) + s.length)), 0, 0) := by
  have hz : ∃ z, s = 32 :: z ∧ ∀ p, lex p (s ++ b) = lex (p + s.length) b := by
    unfold seps at hs
    simp only [List.mem_cons, List.mem_nil_iff, or_false] at hs
    rcases hs with rfl | rfl | rfl
    · exact ⟨_, rfl, fun p => lex_blank p b⟩
    · exact ⟨_, rfl, fun p => sep_line p b⟩
    · exact ⟨_, rfl, fun p => sep_marks p b⟩
  obtain ⟨z, hz1, hz2⟩ := hz
  have h3 := lex_app (z ++ b) 0 a ha hn h1
  have e : a ++ s ++ b = a ++ 32 :: (z ++ b) := by rw [List.append_assoc, hz1]; rfl
  have e2 : (32 :: (z ++ b) : List Int) = s ++ b := by rw [hz1]; rfl
  rw [e, h3, e2, hz2, show (0 : Int) + a.length + s.length = 0 + (a.length + s.length) by omega, lex_shift]
  unfold mvL pre
  rw [if_pos h2]
  simp
end Go.Proofs.YtgnnkfdpfmlajaaDoor.Lx
namespace Go.Proofs.YtgnnkfdpfmlajaaDoor.Lx
open Bg
set_option linter.unusedVariables false
set_option linter.unusedSimpArgs false
set_option maxHeartbeats 1000000
/-- A ; stands in the last line. -/
def openLine (a : List Int) : Bool := (a.reverse.takeWhile fun c => decide (c ≠ 10)).contains 59
theorem nc_of_rev : ∀ (t : List Int), (t.takeWhile fun c => decide (c ≠ 10)).contains 59 = false → ∀ k, k < t.length → t.getD k 0 = 59 → ∃ j, j < k ∧ t.getD j 0 = 10
  | [], _, k, h, _ => absurd h (Nat.not_lt_zero _)
  | x :: t, hc, 0, _, hx => by
    have hx' : x = 59 := hx
    subst hx'
    rw [List.takeWhile_cons, if_pos (by decide)] at hc
    simp at hc
  | x :: t, hc, k + 1, h, hx => by
    rw [List.takeWhile_cons] at hc
    by_cases h10 : x = 10
    · exact ⟨0, Nat.succ_pos _, by rw [h10]; rfl⟩
    · rw [if_pos (by simp [h10])] at hc
      have hc' : (t.takeWhile fun c => decide (c ≠ 10)).contains 59 = false := by
        rw [List.contains_cons] at hc
        simp only [Bool.or_eq_false_iff] at hc
        exact hc.2
      obtain ⟨j, h1, h2⟩ := nc_of_rev t hc' k (by simpa using h) (by simpa using hx)
      exact ⟨j + 1, by omega, by simpa using h2⟩
theorem rev_get (a : List Int) {k : Nat} (h : k < a.length) : a.reverse.getD (a.length - 1 - k) 0 = a.getD k 0 := by
  rw [List.getD_eq_getElem?_getD, List.getD_eq_getElem?_getD, List.getElem?_reverse (by omega)]
  congr 2
  omega
theorem nc_of {a : List Int} (h : openLine a = false) : NC a := fun k hk hx => by
  obtain ⟨j, h1, h2⟩ := nc_of_rev a.reverse h (a.length - 1 - k) (by rw [List.length_reverse]; omega) (by rw [rev_get a hk]; exact hx)
  refine ⟨a.length - 1 - j, by omega, by omega, ?_⟩
  have := rev_get a (k := a.length - 1 - j) (by omega)
  rw [show a.length - 1 - (a.length - 1 - j) = j by omega, h2] at this
  exact this.symm
/-- What the document's helpers say, by places. -/
theorem at_iff {l s : List Int} {i : Nat} : atS (l.drop i) s = true ↔ i + s.length ≤ l.length ∧ (l.drop i).take s.length = s ∨ s = [] := by
  unfold atS
  rw [decide_eq_true_eq]
  constructor
  · intro h
    by_cases h0 : s = []
    · exact Or.inr h0
    · have := congrArg List.length h
      rw [List.length_take, List.length_drop] at this
      have h1 := List.length_pos_iff.2 h0
      exact Or.inl ⟨by omega, h⟩
  · rintro (⟨-, h⟩ | rfl)
    · exact h
    · simp
theorem run_step {l : List Int} {i : Nat} (h : i < l.length) (hs : symB (l.getD i 0) = true) : (run (l.drop i)).length = (run (l.drop (i + 1))).length + 1 := by
  rw [List.drop_eq_getElem_cons h]
  unfold run
  rw [List.takeWhile_cons, if_pos (by rw [List.getD_eq_getElem?_getD, List.getElem?_eq_getElem h] at hs; exact hs)]
  simp
theorem run_stop {l : List Int} {i : Nat} (h : i < l.length) (hs : symB (l.getD i 0) = false) : run (l.drop i) = [] := by
  rw [List.drop_eq_getElem_cons h]
  unfold run
  rw [List.takeWhile_cons, if_neg (by rw [List.getD_eq_getElem?_getD, List.getElem?_eq_getElem h] at hs; simpa using hs)]
theorem run_over {l : List Int} {i : Nat} (h : l.length ≤ i) : run (l.drop i) = [] := by
  rw [List.drop_eq_nil_of_le h]
  rfl
end Go.Proofs.YtgnnkfdpfmlajaaDoor.Lx
namespace Go.Proofs.YtgnnkfdpfmlajaaDoor.Lx
open Bg
set_option linter.unusedVariables false
set_option linter.unusedSimpArgs false
set_option maxHeartbeats 1000000
theorem atS_cons (x : Int) (t : List Int) (c : Int) (s : List Int) : atS (x :: t) (c :: s) = (decide (x = c) && atS t s) := by
  unfold atS
  rw [List.length_cons, List.take_succ_cons, Bool.eq_iff_iff, Bool.and_eq_true, decide_eq_true_eq, decide_eq_true_eq, decide_eq_true_eq, List.cons.injEq]
theorem atS_nil (r : List Int) : atS r [] = true := by unfold atS; simp
theorem atS_of_nil (c : Int) (s : List Int) : atS [] (c :: s) = false := by unfold atS; simp
/-- The marks of a row of bytes. -/
theorem u8_iff {r : List Int} : atS r [35, 117, 56, 40] = true ↔ atS r [35] = true ∧ run (r.drop 1) = [117, 56] ∧ atS (r.drop 3) [40] = true := by
  match r with
  | [] => simp [atS]
  | [a] => simp [atS, run]
  | [a, b] =>
    constructor
    · intro h; have := atS_len h; simp at this
    · rintro ⟨-, h, -⟩
      have := congrArg List.length h
      have h2 := (List.takeWhile_prefix symB (l := [b])).length_le
      unfold run at this
      simp at this h2
      omega
  | [a, b, c] =>
    constructor
    · intro h; have := atS_len h; simp at this
    · rintro ⟨-, -, h⟩; have := atS_len h; simp at this
  | a :: b :: c :: d :: t =>
    simp only [atS_cons, atS_nil, List.drop_succ_cons, List.drop_zero, Bool.and_true, Bool.and_eq_true, decide_eq_true_eq]
    constructor
    · rintro ⟨rfl, rfl, rfl, rfl⟩
      exact ⟨rfl, by unfold run; rw [List.takeWhile_cons, if_pos (by decide), List.takeWhile_cons, if_pos (by decide), List.takeWhile_cons, if_neg (by decide)], rfl⟩
    · rintro ⟨rfl, h, rfl⟩
      unfold run at h
      rw [List.takeWhile_cons] at h
      split at h
      · rw [List.takeWhile_cons] at h
        split at h
        · simp only [List.cons.injEq] at h
          exact ⟨rfl, h.1, h.2.1, rfl⟩
        · simp at h
      · simp at h
theorem hexF_cap : ∀ t : List Int, hexF t 1114112 = -1 ∨ hexF t 1114112 = 1114112
  | [] => Or.inr rfl
  | c :: cs => by
    rw [hexF]
    split
    · exact Or.inl rfl
    · have : cap (16 * 1114112 + hexD c) = 1114112 := by unfold cap; rw [if_pos (by omega)]
      rw [this]
      exact hexF_cap cs
theorem hexF_neg {c : Int} {t : List Int} {n : Int} (h : hexD c < 0) : hexF (c :: t) n = -1 := by rw [hexF, if_pos h]
theorem hexF_step {c : Int} {t : List Int} {n : Int} (h : 0 ≤ hexD c) (h2 : 16 * n + hexD c ≤ 1114111) : hexF (c :: t) n = hexF t (16 * n + hexD c) := by
  rw [hexF, if_neg (by omega)]
  congr 1
  unfold cap
  rw [if_neg (by omega)]
theorem hexF_over {c : Int} {t : List Int} {n : Int} (h : 0 ≤ hexD c) (h2 : 1114111 < 16 * n + hexD c) : isC (hexF (c :: t) n) = false := by
  rw [hexF, if_neg (by omega)]
  have : cap (16 * n + hexD c) = 1114112 := by unfold cap; rw [if_pos (by omega)]
  rw [this]
  rcases hexF_cap t with h | h <;> rw [h] <;> decide
theorem hexD_lt (c : Int) : hexD c ≤ 15 := by unfold hexD; split <;> (try split) <;> (try split) <;> omega
/-- A hex number as the program reads it: its char, or none. -/
def hexO (s : List Int) : Option Int := if 0 ≤ hexL s then some (hexL s) else none
theorem isC_nonneg {c : Int} (h : isC c = true) : 0 ≤ c := (isC_iff.1 h).1
theorem hexO_eq (s : List Int) : hexO s = if s ≠ [] ∧ isC (hexF s 0) = true then some (hexF s 0) else none := by
  unfold hexO hexL
  by_cases h0 : s = []
  · rw [if_pos h0, if_neg (by decide), if_neg (fun h => h.1 h0)]
  · rw [if_neg h0]
    by_cases h1 : isC (hexF s 0) = true
    · rw [if_pos h1, if_pos (isC_nonneg h1), if_pos ⟨h0, h1⟩]
    · rw [if_neg h1, if_neg (by decide), if_neg (fun h => h1 h.2)]
theorem hexF_digits : ∀ (s : List Int) (n : Int), isC (hexF s n) = true → ∀ c ∈ s, 0 ≤ hexD c
  | [], _, _, c, h => by cases h
  | d :: s, n, h, c, hc => by
    by_cases hd : hexD d < 0
    · rw [hexF_neg hd] at h; simp [isC] at h
    · rw [hexF, if_neg hd] at h
      rcases List.mem_cons.1 hc with rfl | hc
      · omega
      · exact hexF_digits s _ h c hc
theorem hexO_digits {s : List Int} {v : Int} (h : hexO s = some v) : s ≠ [] ∧ (∀ c ∈ s, 0 ≤ hexD c) ∧ isC v = true ∧ hexL s = v := by
  have h' := h
  rw [hexO_eq] at h
  split at h
  · rename_i hh
    cases h
    refine ⟨hh.1, hexF_digits s 0 hh.2, hh.2, ?_⟩
    unfold hexL
    rw [if_neg hh.1, if_pos hh.2]
  · cases h
/-- The escape that begins here (with a \, and a byte behind it). -/
def escO (r : List Int) : Option (Int × Nat) :=
  if r.getD 1 0 = 34 ∨ r.getD 1 0 = 92 then some (r.getD 1 0, 2)
  else if r.getD 1 0 = 110 then some (10, 2)
  else if r.getD 1 0 = 116 then some (9, 2)
  else if r.getD 1 0 = 120 ∧ atS ((r.drop 2).drop (hexs (r.drop 2)).length) [59] = true ∧ 0 ≤ hexL (hexs (r.drop 2)) then some (hexL (hexs (r.drop 2)), 2 + (hexs (r.drop 2)).length + 1)
  else none
/-- The char of a string that stands here. -/
def tch (r : List Int) : Option (Int × Nat) := if r.getD 0 0 = 92 then escO r else chr r
/-- \x, a hex number and a semicolon, by the place of the first semicolon. -/
def hexE (r : List Int) : Option (Int × Nat) :=
  match (r.drop 2).findIdx? (fun c => decide (c = 59)) with
  | none => none
  | some d => (hexO ((r.drop 2).take d)).map fun v => (v, 2 + d + 1)
theorem hexD_semi : hexD 59 < 0 := by decide
theorem hexs_le (r : List Int) : (hexs r).length ≤ r.length := (List.takeWhile_prefix _).length_le
theorem hexs_is (r : List Int) : hexs r = r.take (hexs r).length := (List.prefix_iff_eq_take.1 (List.takeWhile_prefix _))
theorem hexs_all : ∀ (r : List Int), ∀ c ∈ hexs r, 0 ≤ hexD c
  | [], c, h => by cases h
  | x :: r, c, h => by
    unfold hexs at h
    rw [List.takeWhile_cons] at h
    split at h
    · rename_i hx
      rcases List.mem_cons.1 h with rfl | h
      · simpa using hx
      · exact hexs_all r c h
    · cases h
theorem hexs_of : ∀ {X Y : List Int}, (∀ c ∈ X, 0 ≤ hexD c) → hexs (X ++ 59 :: Y) = X
  | [], Y, _ => by unfold hexs; rw [List.nil_append, List.takeWhile_cons, if_neg (by decide)]
  | x :: X, Y, h => by
    have ih := hexs_of (X := X) (Y := Y) (fun c hc => h c (by simp [hc]))
    unfold hexs at ih ⊢
    rw [List.cons_append, List.takeWhile_cons, if_pos (by simpa using h x (by simp)), ih]
theorem find_of : ∀ {X Y : List Int}, (∀ c ∈ X, c ≠ 59) → (X ++ 59 :: Y).findIdx? (fun c => decide (c = 59)) = some X.length
  | [], Y, _ => by simp [List.findIdx?_cons]
  | x :: X, Y, h => by
    have ih := find_of (X := X) (Y := Y) (fun c hc => h c (by simp [hc]))
    rw [List.cons_append, List.findIdx?_cons, if_neg (by simpa using h x (by simp)), ih]
    rfl
theorem find_split : ∀ {s : List Int} {d : Nat}, s.findIdx? (fun c => decide (c = 59)) = some d → ∃ Y, s = s.take d ++ 59 :: Y ∧ (s.take d).length = d ∧ d < s.length
  | [], d, h => by simp at h
  | x :: s, d, h => by
    rw [List.findIdx?_cons] at h
    split at h
    · rename_i hx
      cases h
      simp only [decide_eq_true_eq] at hx
      subst hx
      exact ⟨s, rfl, rfl, by simp⟩
    · cases hs : s.findIdx? (fun c => decide (c = 59)) with
      | none => rw [hs] at h; cases h
      | some k =>
        rw [hs] at h
        simp only [Option.map_some, Option.some.injEq] at h
        subst h
        obtain ⟨Y, e1, e2, e3⟩ := find_split hs
        refine ⟨Y, ?_, by rw [List.take_succ_cons, List.length_cons, e2], by simp; omega⟩
        rw [List.take_succ_cons, List.cons_append, ← e1]
theorem atS_one {s : List Int} {c : Int} (h : atS s [c] = true) : ∃ t, s = c :: t := by
  match s with
  | [] => rw [atS_of_nil] at h; cases h
  | x :: t =>
    rw [atS_cons, atS_nil, Bool.and_true, decide_eq_true_eq] at h
    exact ⟨t, by rw [h]⟩
theorem escO_x {r : List Int} (h : r.getD 1 0 = 120) : escO r = hexE r := by
  unfold escO
  rw [h, if_neg (by decide), if_neg (by decide), if_neg (by decide)]
  unfold hexE
  obtain ⟨s, hs⟩ : ∃ s, s = r.drop 2 := ⟨_, rfl⟩
  rw [← hs]
  by_cases hc : (120 : Int) = 120 ∧ atS (s.drop (hexs s).length) [59] = true ∧ 0 ≤ hexL (hexs s)
  · rw [if_pos hc]
    obtain ⟨Y, hY⟩ := atS_one hc.2.1
    have e : s = hexs s ++ 59 :: Y := by
      conv => lhs; rw [← List.take_append_drop (hexs s).length s, hY, ← hexs_is]
    have hf : s.findIdx? (fun c => decide (c = 59)) = some (hexs s).length := by
      have := find_of (X := hexs s) (Y := Y) (fun c hx h59 => by have := hexs_all s c hx; rw [h59] at this; exact absurd this (by decide))
      rwa [← e] at this
    simp only [hf]
    rw [← hexs_is]
    unfold hexO
    rw [if_pos hc.2.2]
    rfl
  · rw [if_neg hc]
    cases hf : s.findIdx? (fun c => decide (c = 59)) with
    | none => rfl
    | some d =>
      obtain ⟨Y, e1, e2, e3⟩ := find_split hf
      cases ho : hexO (s.take d) with
      | none => simp only [ho]; rfl
      | some v =>
        exfalso
        obtain ⟨h1, h2, h3, h4⟩ := hexO_digits ho
        have hx : hexs s = s.take d := by
          have := hexs_of (X := s.take d) (Y := Y) h2
          rwa [← e1] at this
        refine hc ⟨rfl, ?_, ?_⟩
        · rw [hx, e2]
          have : s.drop d = 59 :: Y := by
            have hd : (s.take d ++ 59 :: Y).drop d = 59 :: Y := by
              conv => lhs; rw [← e2]
              rw [e2, List.drop_left' e2]
            rwa [← e1] at hd
          rw [this, atS_cons, atS_nil]
          rfl
        · rw [hx, h4]
          exact isC_nonneg h3
theorem escO_other {r : List Int} (h1 : r.getD 1 0 ≠ 34) (h2 : r.getD 1 0 ≠ 92) (h3 : r.getD 1 0 ≠ 110) (h4 : r.getD 1 0 ≠ 116) (h5 : r.getD 1 0 ≠ 120) : escO r = none := by
  unfold escO
  rw [if_neg (fun h => h.elim h1 h2), if_neg h3, if_neg h4, if_neg (fun h => h5 h.1)]
theorem enc_small {c : Int} (h0 : 0 ≤ c) (h : c < 128) : enc c = [c] := by
  have hi : isC c = true := isC_iff.2 (by omega)
  rcases enc_cases hi with ⟨_, he⟩ | ⟨h1, _, _⟩ | ⟨h1, _, _⟩ | ⟨h1, _⟩
  · exact he
  all_goals omega
theorem tch_ok {r : List Int} (hb : Byts r) (h0 : ¬ r = []) (h1 : r.getD 0 0 = 92 → r.length ≠ 1) {c : Int} {n : Nat} (h : tch r = some (c, n)) : isC c = true ∧ 1 ≤ n ∧ n ≤ r.length := by
  have hp := List.length_pos_iff.2 h0
  unfold tch at h
  split at h
  · rename_i h92
    have hl := h1 h92
    have hl2 : 2 ≤ r.length := by omega
    unfold escO at h
    split at h
    · rename_i hh
      cases h
      exact ⟨by rcases hh with hh | hh <;> rw [hh] <;> decide, by omega, hl2⟩
    split at h
    · cases h; exact ⟨by decide, by omega, hl2⟩
    split at h
    · cases h; exact ⟨by decide, by omega, hl2⟩
    split at h
    · rename_i hh
      cases h
      refine ⟨hexL_char hh.2.2, by omega, ?_⟩
      have h3 := atS_len hh.2.1
      rw [List.length_drop, List.length_drop] at h3
      simp only [List.length_cons, List.length_nil] at h3
      have h4 := hexs_le (r.drop 2)
      omega
    · cases h
  · obtain ⟨a1, a2, a3⟩ := chr_lt hb h
    exact ⟨(chr_some hb h).1, a1, a3⟩
/-- A string, char by char. -/
theorem str_tch (first i : Int) (r out : List Int) (hb : Byts r) (h0 : ¬ r = []) (h1 : r.getD 0 0 ≠ 34) (h2 : r.getD 0 0 = 92 → r.length ≠ 1) :
    str first i r out = match tch r with
      | none => ([], 0, 4, i)
      | some (c, n) => str first (i + n) (r.drop n) (out ++ enc c) := by
  have nn : ∀ n : Nat, 1 ≤ n → n - 1 + 1 = n := fun n h => by omega
  rw [str, dif_neg h0, if_neg h1]
  unfold tch
  by_cases h92 : r.getD 0 0 = 92
  · rw [if_neg (fun h => h h92), if_neg (h2 h92), if_pos h92]
    unfold escO
    by_cases a1 : r.getD 1 0 = 34 ∨ r.getD 1 0 = 92
    · rw [if_pos a1, if_pos a1]
      show str first (i + 2) (r.drop (1 + 1)) _ = str first (i + 2) (r.drop 2) _
      rcases a1 with a | a <;> rw [a] <;> rw [enc_small (by decide) (by decide)]
    rw [if_neg a1, if_neg a1]
    by_cases a2 : r.getD 1 0 = 110
    · rw [if_pos a2, if_pos a2]
      show str first (i + 2) (r.drop (1 + 1)) _ = str first (i + 2) (r.drop 2) _
      rw [enc_small (by decide) (by decide)]
    rw [if_neg a2, if_neg a2]
    by_cases a3 : r.getD 1 0 = 116
    · rw [if_pos a3, if_pos a3]
      show str first (i + 2) (r.drop (1 + 1)) _ = str first (i + 2) (r.drop 2) _
      rw [enc_small (by decide) (by decide)]
    rw [if_neg a3, if_neg a3]
    by_cases a4 : r.getD 1 0 = 120 ∧ atS ((r.drop 2).drop (hexs (r.drop 2)).length) [59] = true ∧ 0 ≤ hexL (hexs (r.drop 2))
    · rw [if_pos a4, if_pos a4]
      simp only []
      congr 1
      omega
    · rw [if_neg a4, if_neg a4]
  · rw [if_pos h92, if_neg h92]
    cases hc : chr r with
    | none => rfl
    | some x =>
      obtain ⟨c, n⟩ := x
      obtain ⟨b1, b2, b3⟩ := chr_some hb hc
      have b4 := chr_lt hb hc
      simp only []
      rw [nn n b4.1]
      congr 2
      rw [← b3, b2, List.take_left' rfl]
theorem str_end (first i : Int) (out : List Int) : str first i [] out = ([], 0, 4, first) := by rw [str, dif_pos rfl]
theorem str_shut (first i : Int) {r : List Int} (out : List Int) (h0 : ¬ r = []) (h1 : r.getD 0 0 = 34) : str first i r out = (out, i + 1, 0, 0) := by rw [str, dif_neg h0, if_pos h1]
theorem str_cut (first i : Int) {r : List Int} (out : List Int) (h0 : ¬ r = []) (h1 : r.getD 0 0 = 92) (h2 : r.length = 1) : str first i r out = ([], 0, 4, first) := by
  rw [str, dif_neg h0, if_neg (by rw [h1]; decide), if_neg (fun h => h h1), if_pos h2]
/-- Noughts ahead, as the program takes them away. -/
def noughts (s : List Int) : List Int := s.dropWhile fun c => decide (c = 48)
theorem lead_noughts : ∀ {s : List Int}, s ≠ [] → lead s = if noughts s = [] then [48] else noughts s
  | [], h => absurd rfl h
  | [c], _ => by
    unfold noughts
    by_cases h : c = 48
    · subst h; rfl
    · rw [List.dropWhile_cons, if_neg (show ¬ decide (c = 48) = true by simpa using h), if_neg (List.cons_ne_nil _ _)]; rfl
  | c :: d :: s, _ => by
    have ih := lead_noughts (s := d :: s) (by simp)
    unfold noughts at ih ⊢
    rw [List.dropWhile_cons]
    by_cases h : c = 48
    · rw [lead, if_pos h, if_pos (show decide (c = 48) = true by simpa using h), ih]
    · rw [lead, if_neg h, if_neg (show ¬ decide (c = 48) = true by simpa using h), if_neg (List.cons_ne_nil _ _)]
theorem noughts_head {s : List Int} (h : noughts s ≠ []) : noughts s ≠ [48] := by
  intro e
  have := List.head?_dropWhile_not (fun c => decide (c = (48 : Int))) s
  unfold noughts at e
  rw [e] at this
  simp at this
/-- The run's digits. -/
def digs (s : List Int) : List Int := if s.getD 0 0 = 43 ∨ s.getD 0 0 = 45 then s.drop 1 else s
/-- The text of an integer: m says that there is a minus. -/
def intT (m : Bool) (ds : List Int) : List Int := if noughts ds = [] then [48] else if m = true then 45 :: noughts ds else noughts ds
theorem int_digs (s : List Int) : int s = if digs s = [] ∨ (digs s).all digitB = false then none else some (intT (decide (s.getD 0 0 = 45)) (digs s)) := by
  unfold int
  show (if digs s = [] then none else if (digs s).all digitB then some (if s.getD 0 0 = 45 ∧ lead (digs s) ≠ [48] then 45 :: lead (digs s) else lead (digs s)) else none) = _
  by_cases h0 : digs s = []
  · rw [if_pos h0, if_pos (Or.inl h0)]
  · rw [if_neg h0]
    cases h1 : (digs s).all digitB with
    | false => rw [if_neg (by decide), if_pos (Or.inr rfl)]
    | true =>
      rw [if_pos rfl, if_neg (show ¬ (digs s = [] ∨ true = false) from fun h => h.elim h0 (fun h => by cases h))]
      congr 1
      unfold intT
      rw [lead_noughts h0]
      by_cases h2 : noughts (digs s) = []
      · rw [if_pos h2, if_neg (fun h => h.2 rfl), if_pos h2]
      · rw [if_neg h2, if_neg h2]
        by_cases h3 : s.getD 0 0 = 45
        · rw [if_pos ⟨h3, noughts_head h2⟩, if_pos (decide_eq_true h3)]
        · rw [if_neg (fun h => h3 h.1), if_neg (by rw [decide_eq_false h3]; decide)]
end Go.Proofs.YtgnnkfdpfmlajaaDoor.Lx
