/- Contracts: the document's lexemes, one after another; a token appended. Conditions: none. -/
import Derived.Test.YtgnnkfdpfmlajaaDoorLxBl
import Derived.Test.YtgnnkfdpfmlajaaDoorLxZa
namespace Go.Proofs.YtgnnkfdpfmlajaaDoor
open Go.RowKit Bg Lx
set_option linter.unusedVariables false
set_option linter.unusedSimpArgs false

/-- What is read so far, and what comes. -/
def cont (ts : List Tk) (V : List Tk × Int × Int) : List Tk × Int × Int := if V.2.1 = 0 then (ts ++ V.1, 0, 0) else ([], V.2.1, V.2.2)
theorem cont_nil (p : Int) (r : List Int) : cont [] (lex p r) = lex p r := by
  have h := lex_norm p r
  unfold cont
  by_cases h0 : (lex p r).2.1 = 0
  · rw [if_pos h0, List.nil_append]
    refine Prod.ext rfl (Prod.ext h0.symm (h.1 h0).symm)
  · rw [if_neg h0]
    exact Prod.ext (h.2 h0).symm rfl
theorem cont_end (ts : List Tk) (p : Int) : cont ts (lex p []) = (ts, 0, 0) := by
  rw [lex_nil]
  unfold cont
  rw [if_pos rfl, List.append_nil]
theorem cont_skip {l : List Int} (hb : Byts l) {k n : Nat} (h : k < l.length) (e : one (l.drop k) k = .skip n) (ts : List Tk) : cont ts (lex (k : Int) (l.drop k)) = cont ts (lex ((k + n : Nat) : Int) (l.drop (k + n))) := by
  have hp := one_skip_pos (hb.drop k) (drop_ne h) e
  rw [lex, dif_neg (drop_ne h)]
  simp only [e]
  rw [List.drop_drop, show k + (n - 1 + 1) = k + n by omega]
  rfl
theorem cont_err {l : List Int} {k : Nat} {x q : Int} (h : k < l.length) (e : one (l.drop k) k = .err x q) (ts : List Tk) : cont ts (lex (k : Int) (l.drop k)) = ([], x, q) := by
  rw [lex, dif_neg (drop_ne h)]
  simp only [e]
  unfold cont
  rw [if_neg (one_err e)]
theorem cont_tok {l : List Int} (hb : Byts l) {k n : Nat} {t : Tk} {lo : Bool} (h : k < l.length) (e : one (l.drop k) k = .tok t n lo) (ts : List Tk) : cont ts (lex (k : Int) (l.drop k)) = if lo = true ∧ k + n < l.length ∧ delimB (l.getD (k + n) 0) = false then ([], 4, ((k + n : Nat) : Int)) else cont (ts ++ [t]) (lex ((k + n : Nat) : Int) (l.drop (k + n))) := by
  have hp := one_tok_pos (hb.drop k) (drop_ne h) e
  rw [lex, dif_neg (drop_ne h)]
  simp only [e]
  rw [List.drop_drop, show k + (n - 1 + 1) = k + n by omega, drop_getD, List.length_drop]
  by_cases hl : lo = true ∧ k + n < l.length ∧ delimB (l.getD (k + n) 0) = false
  · rw [if_pos hl, if_pos ⟨hl.1, by have := hl.2.1; omega, hl.2.2⟩]
    unfold cont
    rw [if_neg (show ¬ (4 : Int) = 0 by decide)]
    rfl
  · rw [if_neg hl, if_neg (fun h' => hl ⟨h'.1, by have := h'.2.1; omega, h'.2.2⟩)]
    obtain ⟨V, hV⟩ : ∃ V, V = lex ((k : Int) + n) (l.drop (k + n)) := ⟨_, rfl⟩
    rw [show ((k + n : Nat) : Int) = (k : Int) + n by omega, ← hV]
    obtain ⟨a, x, q⟩ := V
    unfold cont
    by_cases hx : x = 0
    · simp [hx]
    · simp [hx]
theorem app_tok {w : World} {B : Nat} {v : Value} {ts : List Tk} (t : Tk) (h : TR B w v ts) (hm : ts.length + 1 ≤ 1000000000) (hB : B ≤ w.heap.size) :
    ∃ v' w', (Builtin.append_ #[24, 24] 24 #[v, .slice (some ⟨w.heap.size, 0, none⟩) 1 1]).run Tryd.prog (w.alloc (.cells #[.int .i64 t.kind, .int .i64 t.pos, .int .i64 t.dk, .int .i64 t.n, .string (strOfNums t.text), .slice none 0 0, .int .i64 (dpos t)] 37)) = .ok v' w' ∧ TR B w' v' (ts ++ [t]) ∧ Below B w w' := by
  obtain ⟨i, hi, hz0, hz1, hz2⟩ := z37
  obtain ⟨W4, hW4⟩ : ∃ W4, W4 = w.alloc (.cells #[.int .i64 t.kind, .int .i64 t.pos, .int .i64 t.dk, .int .i64 t.n, .string (strOfNums t.text), .slice none 0 0, .int .i64 (dpos t)] 37) := ⟨_, rfl⟩
  have hb : Below w.heap.size w W4 := by rw [hW4]; exact (Below.refl _ _).alloc (Nat.le_refl _) _
  have hn : W4.heap[w.heap.size]? = some (.cells (tkC t).toArray 37) := by rw [hW4]; exact heap_new w _
  rw [← hW4]
  have hrow4 : TR B W4 v ts := h.below hb
  have hB4 : B ≤ W4.heap.size := Nat.le_trans hB hb.size
  obtain ⟨v', w', hr, h1, h2, -⟩ := run_append_own (P := Tryd.prog) W4 B 24 24 37 i tk0 7 80 Tryd.underlying24 hi hz0 hz1 hz2 rfl (by decide) v ts.length (tkCs ts) hrow4 ⟨w.heap.size, 0, none⟩ 1 1 (tkC t) rfl (World.news_of_block hn) (tkC_one t) (by unfold maxLen; omega) (by omega) hB4
  refine ⟨v', w', hr, ?_, (hb.mono hB).trans ((Below.refl _ _).grown h2 hB4 (fun q hq => (World.ownsRow.lt hrow4 q hq).1))⟩
  unfold TR
  rw [tkCs_snoc, List.length_append]
  exact h1
end Go.Proofs.YtgnnkfdpfmlajaaDoor
