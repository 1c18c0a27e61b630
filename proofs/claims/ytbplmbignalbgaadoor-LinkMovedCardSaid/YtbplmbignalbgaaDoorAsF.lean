/- How items and a layout lie in memory. Conditions: none. -/
import Derived.Test.YtbplmbignalbgaaDoorAsE
import Derived.Maps.OwnSet
namespace Go.Proofs.YtbplmbignalbgaaDoor
open Go.RowKit Asm
set_option linter.unusedVariables false
set_option linter.unusedSimpArgs false

def icell (x : It) (k : Nat) : Value := if k = 0 then .int .i64 x.kind else if k = 1 then .int .i64 x.op else if k = 2 then .int .i64 x.d else if k = 3 then .int .i64 x.a else if k = 4 then .int .i64 x.b else if k = 5 then .int .i64 x.imm else if k = 6 then .string x.lab else .int .u32 x.word
/-- Items lie so. -/
structure Items (w : World) (p : Option Addr) (n c : Nat) (X : Nat → It) : Prop where
  nil : p = none → n = 0 ∧ c = 0
  le : n ≤ c
  max : c ≤ 9223372036854775807
  cell : 0 < n → ∃ b off, p = some ⟨b, off, none⟩ ∧ ∀ i, i < n → ∀ k, k < 8 → w.cell? ⟨b, off + i * 8 + k, none⟩ = some (icell (X i) k)
  word : ∀ i, i < n → 0 ≤ (X i).word ∧ (X i).word < 4294967296
  lab : ∀ i, i < n → (X i).lab.size ≤ maxLen
theorem Items.same {w w' : World} {p : Option Addr} {n c : Nat} {X : Nat → It} (h : Items w p n c X) (hb : 0 < n → ∀ a, p = some a → w'.heap[a.block]? = w.heap[a.block]?) : Items w' p n c X :=
  ⟨h.nil, h.le, h.max, fun hn => by
    obtain ⟨b, off, hp, hc⟩ := h.cell hn
    exact ⟨b, off, hp, fun i hi k hk => (World.cell?_of_block (a := ⟨b, off + i * 8 + k, none⟩) (hb hn ⟨b, off, none⟩ hp)).trans (hc i hi k hk)⟩, h.word, h.lab⟩
theorem Items.below {w w' : World} {p : Option Addr} {n c : Nat} {X : Nat → It} (h : Items w p n c X) (hb : Below w.heap.size w w') : Items w' p n c X :=
  ⟨h.nil, h.le, h.max, fun hn => by
    obtain ⟨b, off, hp, hc⟩ := h.cell hn
    exact ⟨b, off, hp, fun i hi k hk => (hb.cell (p := ⟨b, off + i * 8 + k, none⟩) (World.block_lt_of_cell? w _ (hc i hi k hk))).trans (hc i hi k hk)⟩, h.word, h.lab⟩
/-- The cells of one item. -/
theorem Items.at {w : World} {p : Option Addr} {n c : Nat} {X : Nat → It} (h : Items w p n c X) {i : Nat} (hi : i < n) : ∃ b off, p = some ⟨b, off, none⟩ ∧
    w.cell? ⟨b, off + i * 8, none⟩ = some (.int .i64 (X i).kind) ∧ w.cell? ⟨b, off + i * 8 + 1, none⟩ = some (.int .i64 (X i).op) ∧ w.cell? ⟨b, off + i * 8 + 2, none⟩ = some (.int .i64 (X i).d) ∧ w.cell? ⟨b, off + i * 8 + 3, none⟩ = some (.int .i64 (X i).a) ∧
    w.cell? ⟨b, off + i * 8 + 4, none⟩ = some (.int .i64 (X i).b) ∧ w.cell? ⟨b, off + i * 8 + 5, none⟩ = some (.int .i64 (X i).imm) ∧ w.cell? ⟨b, off + i * 8 + 6, none⟩ = some (.string (X i).lab) ∧ w.cell? ⟨b, off + i * 8 + 7, none⟩ = some (.int .u32 (X i).word) := by
  obtain ⟨b, off, hp, hc⟩ := h.cell (by omega)
  have g := hc i hi
  exact ⟨b, off, hp, g 0 (by decide), g 1 (by decide), g 2 (by decide), g 3 (by decide), g 4 (by decide), g 5 (by decide), g 6 (by decide), g 7 (by decide)⟩

abbrev DU := DataW Unit
def key (s : ByteArray) : Lit := .string s.data.toList
/-- A map that tells which of the first k items defines a label. -/
def MapAt (w : World) (B : Nat) (X : Nat → It) (k : Nat) : Prop :=
  ∃ D : DU, w.ownsMap Tryd.prog 9 (plainElem Tryd.prog 3) B k D ∧ ∀ s : ByteArray, s.size ≤ maxLen → Maps.has D (key s) = (st X s k).isSome ∧ D.atKey (key s) (.lit (.int .i64 0)) = .lit (.int .i64 ((st X s k).getD 0 : Nat))
theorem MapAt.kept {w w' : World} {B : Nat} {X : Nat → It} {k : Nat} (h : MapAt w B X k) (hb : w'.heap[B]? = w.heap[B]?) : MapAt w' B X k := by
  obtain ⟨D, ⟨es, clock, hB, r⟩, hD⟩ := h
  exact ⟨D, ⟨es, clock, hb.trans hB, r⟩, hD⟩
theorem MapAt.lt {w : World} {B : Nat} {X : Nat → It} {k : Nat} (h : MapAt w B X k) : B < w.heap.size := by
  obtain ⟨D, hD, -⟩ := h
  exact hD.lt

/-- Where a layout lies. -/
structure LL where
  L : Nat
  F : Nat
  A : Nat
  T : Nat
  U : Nat
  B : Nat
  p : Option Addr
  n : Nat
  c : Nat
/-- What a layout holds: forms; addresses when they were settled; extra words; all of them; till when an item fits for certain. -/
structure LS where
  f : Nat → Nat
  ats : Nat → Int
  x : Nat → Int
  tot : Int
  due : Nat → Int
def arr (b n : Nat) : Value := .slice (some ⟨b, 0, none⟩) n n
def lcell (l : LL) (s : LS) (i : Nat) : Value :=
  if i = 0 then .slice l.p l.n l.c else if i = 1 then .map (some l.B) else if i = 2 then arr l.F l.n else if i = 3 then arr l.A (l.n + 1) else if i = 4 then arr l.T (l.n + 1) else if i = 5 then .int .i64 s.tot else arr l.U l.n
def forms (f : Nat → Nat) (i : Nat) : Value := .int .i64 (f i)
def LL.fp (l : LL) (k : Nat) : Prop := k = l.L ∨ k = l.F ∨ k = l.T ∨ k = l.U

structure LRep (base : Nat) (w : World) (l : LL) (X : Nat → It) (b0 : Int) (s : LS) : Prop where
  n60 : l.n ≤ 480
  b0r : 0 ≤ b0 ∧ b0 ≤ 67108864
  items : Items w l.p l.n l.c X
  lay : w.heap[l.L]? = some (.cells (cellsF 7 (lcell l s)) 84 (0, 0))
  map : MapAt w l.B X l.n
  frm : w.heap[l.F]? = some (.cells (cellsF l.n (forms s.f)) 3 (0, 0))
  ats : w.heap[l.A]? = some (.cells (cellsF (l.n + 1) (ints s.ats)) 3 (0, 0))
  tal : w.heap[l.T]? = some (.cells (cellsF (l.n + 1) (ints (fw s.x))) 3 (0, 0))
  dus : w.heap[l.U]? = some (.cells (cellsF l.n (ints s.due)) 3 (0, 0))
  ne : l.F ≠ l.A ∧ l.F ≠ l.T ∧ l.F ≠ l.U ∧ l.A ≠ l.T ∧ l.A ≠ l.U ∧ l.T ≠ l.U
  lb : base ≤ l.L ∧ base ≤ l.F ∧ base ≤ l.A ∧ base ≤ l.T ∧ base ≤ l.U ∧ base ≤ l.B
  pb : 0 < l.n → ∀ a, l.p = some a → a.block < base
  valid : valid X l.n s.f
  xb : ∀ k, 0 ≤ s.x k ∧ s.x k ≤ 3
  xs : ∀ i, i < l.n → s.x i = 0 ∨ s.x i ≤ isz (X i) (s.f i) - 1
  tot : s.tot = psum s.x l.n
  adr : ∀ i, i ≤ l.n → s.ats i + psum s.x i = ad X b0 s.f i
  due0 : ∀ i, i < l.n → 0 ≤ s.due i ∧ s.due i ≤ 2000000
  dok : ∀ i, i < l.n → s.tot < s.due i → reach (X i) (s.f i) ≠ 0 ∧ far (dist X l.n b0 s.f i) + (s.due i - s.tot) ≤ reach (X i) (s.f i)

namespace LRep
variable {base : Nat} {w w' : World} {l : LL} {X : Nat → It} {b0 : Int} {s : LS}
theorem frame (h : LRep base w l X b0 s) (hi : 0 < l.n → ∀ a, l.p = some a → w'.heap[a.block]? = w.heap[a.block]?) (hL : w'.heap[l.L]? = w.heap[l.L]?) (hB : w'.heap[l.B]? = w.heap[l.B]?) (hF : w'.heap[l.F]? = w.heap[l.F]?) (hA : w'.heap[l.A]? = w.heap[l.A]?) (hT : w'.heap[l.T]? = w.heap[l.T]?) (hU : w'.heap[l.U]? = w.heap[l.U]?) : LRep base w' l X b0 s :=
  ⟨h.n60, h.b0r, h.items.same hi, hL.trans h.lay, h.map.kept hB, hF.trans h.frm, hA.trans h.ats, hT.trans h.tal, hU.trans h.dus, h.ne, h.lb, h.pb, h.valid, h.xb, h.xs, h.tot, h.adr, h.due0, h.dok⟩
theorem below (h : LRep base w l X b0 s) (hb : Below w.heap.size w w') : LRep base w' l X b0 s :=
  ⟨h.n60, h.b0r, h.items.below hb, (hb.block _ (lt_of_block h.lay)).trans h.lay, h.map.kept (hb.block _ h.map.lt), (hb.block _ (lt_of_block h.frm)).trans h.frm, (hb.block _ (lt_of_block h.ats)).trans h.ats, (hb.block _ (lt_of_block h.tal)).trans h.tal, (hb.block _ (lt_of_block h.dus)).trans h.dus, h.ne, h.lb, h.pb, h.valid, h.xb, h.xs, h.tot, h.adr, h.due0, h.dok⟩
theorem base_le (h : LRep base w l X b0 s) : base ≤ w.heap.size := Nat.le_trans h.lb.1 (Nat.le_of_lt (lt_of_block h.lay))
theorem c0 (h : LRep base w l X b0 s) : w.cell? ⟨l.L, 0, none⟩ = some (.slice l.p l.n l.c) := cellV h.lay 0 (by decide) rfl
theorem c1 (h : LRep base w l X b0 s) : w.cell? ⟨l.L, 1, none⟩ = some (.map (some l.B)) := cellV h.lay 1 (by decide) rfl
theorem c2 (h : LRep base w l X b0 s) : w.cell? ⟨l.L, 2, none⟩ = some (.slice (some ⟨l.F, 0, none⟩) l.n l.n) := cellV h.lay 2 (by decide) rfl
theorem c3 (h : LRep base w l X b0 s) : w.cell? ⟨l.L, 3, none⟩ = some (.slice (some ⟨l.A, 0, none⟩) (l.n + 1) (l.n + 1)) := cellV h.lay 3 (by decide) rfl
theorem c4 (h : LRep base w l X b0 s) : w.cell? ⟨l.L, 4, none⟩ = some (.slice (some ⟨l.T, 0, none⟩) (l.n + 1) (l.n + 1)) := cellV h.lay 4 (by decide) rfl
theorem c5 (h : LRep base w l X b0 s) : w.cell? ⟨l.L, 5, none⟩ = some (.int .i64 s.tot) := cellV h.lay 5 (by decide) rfl
theorem c6 (h : LRep base w l X b0 s) : w.cell? ⟨l.L, 6, none⟩ = some (.slice (some ⟨l.U, 0, none⟩) l.n l.n) := cellV h.lay 6 (by decide) rfl
theorem cf (h : LRep base w l X b0 s) {i : Nat} (hi : i < l.n) : w.cell? ⟨l.F, i, none⟩ = some (.int .i64 (s.f i)) := cellF h.frm i hi
theorem ca (h : LRep base w l X b0 s) {i : Nat} (hi : i ≤ l.n) : w.cell? ⟨l.A, i, none⟩ = some (.int .i64 (s.ats i)) := cellF h.ats i (by omega)
theorem cu (h : LRep base w l X b0 s) {i : Nat} (hi : i < l.n) : w.cell? ⟨l.U, i, none⟩ = some (.int .i64 (s.due i)) := cellF h.dus i hi
theorem f_lt (h : LRep base w l X b0 s) {i : Nat} (hi : i < l.n) : s.f i ≤ 3 := by
  have := h.valid i hi
  split at this
  · exact this.2
  · split at this <;> omega
end LRep
theorem held_of {w : World} {l : LL} {X : Nat → It} {s : LS} {v : Value} {i : Nat} (hi : i < l.n) (hL : w.heap[l.L]? = some (.cells (cellsF 7 (lcell l s)) 84 (0, 0))) (hI : Items w l.p l.n l.c X) (hF : w.cell? ⟨l.F, i, none⟩ = some v) : ∃ b off, l.p = some ⟨b, off, none⟩ ∧ ∀ w', Below w.heap.size w w' → w'.cell? ⟨l.L, 0, none⟩ = some (.slice (some ⟨b, off, none⟩) l.n l.c) ∧ w'.cell? ⟨l.L, 2, none⟩ = some (.slice (some ⟨l.F, 0, none⟩) l.n l.n) ∧ w'.cell? ⟨l.F, i, none⟩ = some v ∧ w'.cell? ⟨b, off + i * 8, none⟩ = some (.int .i64 (X i).kind) ∧ w'.cell? ⟨b, off + i * 8 + 1, none⟩ = some (.int .i64 (X i).op) ∧ w'.cell? ⟨b, off + i * 8 + 2, none⟩ = some (.int .i64 (X i).d) ∧ w'.cell? ⟨b, off + i * 8 + 3, none⟩ = some (.int .i64 (X i).a) ∧ w'.cell? ⟨b, off + i * 8 + 4, none⟩ = some (.int .i64 (X i).b) ∧ w'.cell? ⟨b, off + i * 8 + 5, none⟩ = some (.int .i64 (X i).imm) ∧ w'.cell? ⟨b, off + i * 8 + 6, none⟩ = some (.string (X i).lab) ∧ w'.cell? ⟨b, off + i * 8 + 7, none⟩ = some (.int .u32 (X i).word) := by
  obtain ⟨b, off, hp, -⟩ := hI.at hi
  refine ⟨b, off, hp, fun w' hb => ?_⟩
  obtain ⟨b2, off2, hp2, ks⟩ := (hI.below hb).at hi
  rw [hp] at hp2
  simp only [Option.some.injEq, Addr.mk.injEq, and_true] at hp2
  obtain ⟨rfl, rfl⟩ := hp2
  have g := (hb.block _ (lt_of_block hL)).trans hL
  have c0 := cellF g 0 (by decide)
  have c2 := cellF g 2 (by decide)
  refine ⟨c0.trans ?_, c2, (hb.cell (World.block_lt_of_cell? w _ hF)).trans hF, ks⟩
  show some (Value.slice l.p l.n l.c) = _
  rw [hp]
theorem isz_le {x : It} {f : Nat} (h : 0 ≤ x.word ∧ x.word < 4294967296) : isz x f ≤ 4294967296 := by unfold isz; (repeat' split) <;> omega
theorem ad_bounds {X : Nat → It} {n : Nat} {b0 : Int} {f : Nat → Nat} (hw : ∀ i, i < n → 0 ≤ (X i).word ∧ (X i).word < 4294967296) : ∀ {i : Nat}, i ≤ n → b0 ≤ ad X b0 f i ∧ ad X b0 f i ≤ b0 + 4294967296 * i
  | 0, _ => by unfold ad; omega
  | i + 1, hi => by
    have h1 := ad_bounds (b0 := b0) (f := f) hw (show i ≤ n by omega)
    have h2 := isz_le (f := f i) (hw i (by omega))
    have h3 := isz_nonneg (f := f i) (hw i (by omega)).1
    have e : ad X b0 f (i + 1) = ad X b0 f i + isz (X i) (f i) := rfl
    omega
theorem LRep.ads {base : Nat} {w : World} {l : LL} {X : Nat → It} {b0 : Int} {s : LS} (h : LRep base w l X b0 s) {i : Nat} (hi : i ≤ l.n) : 0 ≤ ad X b0 s.f i ∧ ad X b0 s.f i ≤ 3000000000000 := by
  have := ad_bounds (X := X) (b0 := b0) (f := s.f) h.items.word hi
  have := h.b0r
  have := h.n60
  omega
end Go.Proofs.YtbplmbignalbgaaDoor
