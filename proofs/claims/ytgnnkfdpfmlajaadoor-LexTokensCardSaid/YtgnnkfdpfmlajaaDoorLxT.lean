/- How a lexer lies in memory, and rows of tokens. Conditions: none. -/
import Derived.Test.YtgnnkfdpfmlajaaDoorLxS
import Derived.Test.YtgnnkfdpfmlajaaDoorUtJ
import Derived.Deep.DeepAppendRoom
namespace Go.Proofs.YtgnnkfdpfmlajaaDoor
open Go.RowKit Bg Lx
set_option linter.unusedVariables false
set_option linter.unusedSimpArgs false


theorem info_of3 {E : TypeId} {z : Value} {n b : Nat} (h : (Tryd.prog.info? E).map (fun i => (i.zero, i.size, i.bytes)) = some (some z, n, b)) : ∃ i, Tryd.prog.info? E = some i ∧ i.zero = some z ∧ i.size = n ∧ i.bytes = b := by
  obtain ⟨i, hi, hx⟩ := Option.map_eq_some_iff.1 h
  simp only [Prod.mk.injEq] at hx
  exact ⟨i, hi, hx⟩
def tk0 : Value := .agg #[.int .i64 0, .int .i64 0, .int .i64 0, .int .i64 0, .string {data := #[]}, .slice none 0 0, .int .i64 0]
theorem z37 : ∃ i, Tryd.prog.info? 37 = some i ∧ i.zero = some tk0 ∧ i.size = 7 ∧ i.bytes = 80 := info_of3 (by kernel_rfl)
/-- A token's cells. -/
def dpos (t : Tk) : Int := if t.kind = 7 then t.pos else 0
def tkC (t : Tk) : List Value := [.int .i64 t.kind, .int .i64 t.pos, .int .i64 t.dk, .int .i64 t.n, .string (strOfNums t.text), .slice none 0 0, .int .i64 (dpos t)]
def tkV (t : Tk) : Value := .agg #[.int .i64 t.kind, .int .i64 t.pos, .int .i64 t.dk, .int .i64 t.n, .string (strOfNums t.text), .slice none 0 0, .int .i64 (dpos t)]
def tkCs (ts : List Tk) : List Value := ts.flatMap tkC
theorem tkCs_len (ts : List Tk) : (tkCs ts).length = ts.length * 7 := by
  induction ts with
  | nil => rfl
  | cons t ts ih =>
    show ((tkC t) ++ tkCs ts).length = _
    rw [List.length_append, ih, List.length_cons]
    show 7 + _ = _
    omega
theorem tkCs_snoc (ts : List Tk) (t : Tk) : tkCs (ts ++ [t]) = tkCs ts ++ tkC t := by unfold tkCs; simp
theorem tkC_one (t : Tk) : ∀ u ∈ tkC t, u.oneCell' = true := by
  intro u hu
  simp only [tkC, List.mem_cons, List.not_mem_nil, or_false] at hu
  rcases hu with rfl | rfl | rfl | rfl | rfl | rfl | rfl <;> rfl
theorem tkCs_get : ∀ (ts : List Tk) (i j : Nat) (h : i < ts.length), j < 7 → (tkCs ts)[i * 7 + j]? = (tkC ts[i])[j]?
  | [], i, j, h, _ => absurd h (Nat.not_lt_zero _)
  | t :: ts, 0, j, h, hj => by
    show ((tkC t) ++ tkCs ts)[0 * 7 + j]? = _
    rw [Nat.zero_mul, Nat.zero_add, List.getElem?_append_left (by show j < 7; exact hj)]
    rfl
  | t :: ts, i + 1, j, h, hj => by
    show ((tkC t) ++ tkCs ts)[(i + 1) * 7 + j]? = _
    rw [List.getElem?_append_right (by show 7 ≤ _; omega)]
    have e : (i + 1) * 7 + j - (tkC t).length = i * 7 + j := by show _ - 7 = _; omega
    rw [e]
    exact tkCs_get ts i j (by simpa using h) hj
/-- A row of tokens of the call's own. -/
def TR (B : Nat) (w : World) (v : Value) (ts : List Tk) : Prop := w.ownsRow B 37 7 v ts.length (tkCs ts)
theorem TR.nil (B : Nat) (w : World) : TR B w (.slice none 0 0) [] := World.ownsRow_nil _ _ _ _
theorem TR.block {B : Nat} {w : World} {v : Value} {ts : List Tk} (h : TR B w v ts) {g : Nat} (hg : v.ownBlock = some g) : B ≤ g ∧ ∃ cs fr, w.heap[g]? = some (.cells cs 37 fr) := by
  rcases h.2 with ⟨rfl, _⟩ | ⟨k, cap, cur, rfl, hB, hk, -⟩
  · cases hg
  · simp only [Value.ownBlock, Option.some.injEq] at hg
    subst hg
    exact ⟨hB, cur, _, hk⟩
theorem TR.kept {B : Nat} {w w' : World} {v : Value} {ts : List Tk} (h : TR B w v ts) (hb : ∀ g, v.ownBlock = some g → w'.heap[g]? = w.heap[g]?) : TR B w' v ts := by
  refine ⟨h.1, h.2.imp id ?_⟩
  rintro ⟨g, cap, cur, rfl, hb', hg, rest⟩
  exact ⟨g, cap, cur, rfl, hb', (hb g rfl).trans hg, rest⟩
theorem TR.below {B : Nat} {w w' : World} {v : Value} {ts : List Tk} (h : TR B w v ts) (hb : Below w.heap.size w w') : TR B w' v ts := h.kept fun g hg => by
  obtain ⟨-, cs, fr, hk⟩ := h.block hg
  exact hb.block g (lt_block hk)
theorem TR.base {B B' : Nat} {w : World} {v : Value} {ts : List Tk} (h : TR B w v ts) (hB : B' ≤ B) : TR B' w v ts := by
  refine ⟨h.1, h.2.imp id ?_⟩
  rintro ⟨g, cap, cur, rfl, hb', rest⟩
  exact ⟨g, cap, cur, rfl, Nat.le_trans hB hb', rest⟩
/-- Blocks of other types than a lexer's and a token's stay. -/
structure Kp (w w' : World) : Prop where
  size : w.heap.size ≤ w'.heap.size
  keep : ∀ (i : Nat) (o : Obj), w.heap[i]? = some o → (∀ cs fr, o ≠ Obj.cells cs 45 fr) → (∀ cs fr, o ≠ Obj.cells cs 37 fr) → w'.heap[i]? = some o
theorem Kp.refl (w : World) : Kp w w := ⟨Nat.le_refl _, fun _ _ h _ _ => h⟩
theorem Kp.trans {a b c : World} (h : Kp a b) (k : Kp b c) : Kp a c := ⟨Nat.le_trans h.size k.size, fun i o h1 h2 h3 => k.keep i o (h.keep i o h1 h2 h3) h2 h3⟩
theorem Kp.of_below {a b : World} (h : Below a.heap.size a b) : Kp a b := ⟨h.size, fun i o h1 _ _ => (h.block i (lt_block h1)).trans h1⟩
theorem Kp.set {a b : World} (h : Kp a b) {g : Nat} {cs : Array Value} {t : Nat} {fr : Nat × Nat} (hg : b.heap[g]? = some (.cells cs t fr)) (ht : t = 45 ∨ t = 37) (j : Nat) (v : Value) : Kp a (b.setCell ⟨g, j, none⟩ v) := by
  refine h.trans ⟨by show _ ≤ (b.heap.modify _ _).size; simp, fun i o h1 h2 h3 => ?_⟩
  have hne : g ≠ i := by
    rintro rfl
    rw [hg] at h1
    cases h1
    rcases ht with rfl | rfl
    · exact h2 cs fr rfl
    · exact h3 cs fr rfl
  rw [Below.heap_setCell _ _ _ _ (by show i ≠ g; exact fun e => hne e.symm)]
  exact h1
theorem Kp.grown {a b c : World} (h : Kp a b) {g : Nat} (hg : b.grownBy c (some g)) {cs : Array Value} {fr : Nat × Nat} (hk : b.heap[g]? = some (.cells cs 37 fr)) : Kp a c := by
  refine h.trans ⟨hg.size, fun i o h1 h2 h3 => ?_⟩
  have hne : g ≠ i := by
    rintro rfl
    rw [hk] at h1
    cases h1
    exact h3 cs fr rfl
  rw [hg.block i (lt_block h1) (fun e => hne (Option.some.inj e).symm)]
  exact h1
/-- Where a lexer lies, and what it reads: the world at the beginning, the source, its block, the room for tokens. -/
structure Sit where
  w0 : World
  p : Option Addr
  c : Nat
  l : List Int
  b : Nat
  C : Nat
def Sit.cells (s : Sit) (k n : Nat) (tv : Value) : Array Value := #[.slice s.p s.l.length s.c, .int .i64 (k : Int), .int .i64 (n : Int), tv]
structure St (s : Sit) (k : Nat) (ts : List Tk) (w : World) : Prop where
  fr : Below s.w0.heap.size s.w0 w
  lo : s.w0.heap.size ≤ s.b
  arg : Arg .u8 s.w0 s.p s.c s.l
  byts : Byts s.l
  len : s.l.length ≤ 100000
  tab : Tab s.w0
  kle : k ≤ s.l.length
  tle : ts.length ≤ k
  lex : ∃ q, w.heap[s.b]? = some (.cells (s.cells k ts.length (.slice q (ts.take s.C).length s.C)) 45) ∧ TR s.w0.heap.size w (.slice q (ts.take s.C).length s.C) (ts.take s.C)
theorem ne_type {w : World} {a b t u : Nat} {cs ds : Array Value} {f g : Nat × Nat} (h : w.heap[a]? = some (.cells cs t f)) (k : w.heap[b]? = some (.cells ds u g)) (hne : t ≠ u) : a ≠ b := by
  rintro rfl
  rw [h] at k
  simp only [Option.some.injEq, Obj.cells.injEq] at k
  exact hne k.2.1
theorem blk_cell {w : World} {b t : Nat} {cs : Array Value} {fr : Nat × Nat} (h : w.heap[b]? = some (.cells cs t fr)) (i : Nat) : w.cell? ⟨b, i, none⟩ = cs[i]? := by simp [World.cell?, h]
theorem blk_free {w : World} {b t : Nat} {cs : Array Value} (h : w.heap[b]? = some (.cells cs t (0, 0))) (i : Nat) : w.frozen? ⟨b, i, none⟩ = false := by simp [World.frozen?, h]
theorem blk_set {w : World} {b i : Nat} {cs : Array Value} {t : Nat} {fr : Nat × Nat} {x : Value} (h : w.heap[b]? = some (.cells cs t fr)) (hi : i < cs.size) : (w.setCell ⟨b, i, none⟩ x).heap[b]? = some (.cells (cs.setIfInBounds i x) t fr) := by
  have hlt := lt_block h
  have h' : w.heap[b] = .cells cs t fr := by simpa [Array.getElem?_eq_getElem hlt] using h
  show (w.heap.modify b _)[b]? = _
  rw [Array.getElem?_eq_getElem (by simpa using hlt), Array.getElem_modify_self, h']
  simp [Array.setIfInBounds, hi]
theorem blk_other {w : World} {b i g : Nat} {x : Value} (hne : g ≠ b) : (w.setCell ⟨b, i, none⟩ x).heap[g]? = w.heap[g]? := Below.heap_setCell _ _ _ _ hne
theorem St.below {s : Sit} {k : Nat} {ts : List Tk} {w w' : World} (h : St s k ts w) (hb : Below w.heap.size w w') : St s k ts w' := by
  obtain ⟨q, h1, h2⟩ := h.lex
  exact ⟨h.fr.trans (hb.mono h.fr.size), h.lo, h.arg, h.byts, h.len, h.tab, h.kle, h.tle, q, (hb.block _ (lt_block h1)).trans h1, h2.below hb⟩
theorem St.blt {s : Sit} {k : Nat} {ts : List Tk} {w : World} (h : St s k ts w) : s.b < w.heap.size := by
  obtain ⟨q, h1, h2⟩ := h.lex
  exact lt_block h1
/-- A block of another type is written to. -/
theorem St.side {s : Sit} {k : Nat} {ts : List Tk} {w : World} (h : St s k ts w) {R t : Nat} {cs : Array Value} {fr : Nat × Nat} (hR : w.heap[R]? = some (.cells cs t fr)) (h45 : t ≠ 45) (h37 : t ≠ 37) (hlo : s.w0.heap.size ≤ R) (j : Nat) (v : Value) : St s k ts (w.setCell ⟨R, j, none⟩ v) := by
  obtain ⟨q, h1, h2⟩ := h.lex
  refine ⟨h.fr.setCell hlo _, h.lo, h.arg, h.byts, h.len, h.tab, h.kle, h.tle, q, ?_, ?_⟩
  · rw [blk_other (ne_type h1 hR (fun e => h45 e.symm))]
    exact h1
  · refine h2.kept fun g hg => ?_
    obtain ⟨-, cs', fr', hk⟩ := h2.block hg
    exact blk_other (ne_type hk hR (fun e => h37 e.symm))
theorem St.src {s : Sit} {k : Nat} {ts : List Tk} {w : World} (h : St s k ts w) : Arg .u8 w s.p s.c s.l := h.arg.below h.fr
theorem St.tabs {s : Sit} {k : Nat} {ts : List Tk} {w : World} (h : St s k ts w) : Tab w := h.tab.below h.fr
/-- The cells, read. -/
theorem St.cell {s : Sit} {k : Nat} {ts : List Tk} {w : World} (h : St s k ts w) : w.cell? ⟨s.b, 0, none⟩ = some (.slice s.p s.l.length s.c) ∧ w.cell? ⟨s.b, 1, none⟩ = some (.int .i64 (k : Int)) ∧ w.cell? ⟨s.b, 2, none⟩ = some (.int .i64 (ts.length : Int)) ∧ (∀ i, w.frozen? ⟨s.b, i, none⟩ = false) := by
  obtain ⟨q, h1, h2⟩ := h.lex
  exact ⟨blk_cell h1 0, blk_cell h1 1, blk_cell h1 2, fun i => blk_free h1 i⟩
/-- The place is set. -/
theorem St.go {s : Sit} {k : Nat} {ts : List Tk} {w : World} (h : St s k ts w) {k' : Nat} (h1 : k ≤ k') (h2 : k' ≤ s.l.length) : St s k' ts (w.setCell ⟨s.b, 1, none⟩ (.int .i64 (k' : Int))) ∧ Kp w (w.setCell ⟨s.b, 1, none⟩ (.int .i64 (k' : Int))) := by
  obtain ⟨q, e1, e2⟩ := h.lex
  refine ⟨⟨h.fr.setCell h.lo _, h.lo, h.arg, h.byts, h.len, h.tab, h2, Nat.le_trans h.tle h1, q, ?_, ?_⟩, (Kp.refl w).set e1 (Or.inl rfl) _ _⟩
  · rw [blk_set e1 (by show 1 < 4; decide)]
    rfl
  · refine e2.kept fun g hg => ?_
    obtain ⟨-, cs', fr', hk⟩ := e2.block hg
    exact blk_other (ne_type hk e1 (by decide))
theorem take_all_app (ts : List Tk) (t : Tk) (C : Nat) : (ts.length < C → (ts ++ [t]).take C = ts.take C ++ [t]) ∧ (C ≤ ts.length → (ts ++ [t]).take C = ts.take C) := by
  constructor
  · intro h
    rw [List.take_of_length_le (by simp; omega), List.take_of_length_le (by omega)]
  · intro h
    rw [List.take_append_of_le_length h]
end Go.Proofs.YtgnnkfdpfmlajaaDoor
