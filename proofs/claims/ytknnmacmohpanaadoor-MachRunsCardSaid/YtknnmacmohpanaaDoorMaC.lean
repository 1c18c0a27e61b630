/- How a machine lies in memory. Conditions: none. -/
import Derived.Test.YtknnmacmohpanaaDoorMaB
namespace Go.Proofs.YtknnmacmohpanaaDoor
open Go.RowKit

/-- Where a machine lies: itself, its pages' directory, its page, what its page's words were decoded to, its input, its output. -/
structure Lay where
  M : Nat
  G : Nat
  pg : Option Nat
  ip : Option Nat
  vi : Value
  vo : Value
def ptr (o : Option Nat) : Value := .pointer (o.map fun b => ⟨b, 0, none⟩)
def mcell (l : Lay) (m : MS) (i : Nat) : Value :=
  if i = 0 then .pointer (some ⟨l.M, 0, none⟩) else if i ≤ 32 then .int .u32 (m.regs (i - 1)) else if i = 33 then .int .u32 m.size else if i = 34 then .slice (some ⟨l.G, 0, none⟩) 1 1
  else if i = 35 then .int .u32 m.place else if i = 36 then .int .i64 m.state else if i = 37 then .int .u32 m.code else if i = 38 then .int .i64 m.trap else if i = 39 then .int .i64 m.steps
  else if i = 40 then l.vi else l.vo
def pcell (l : Lay) (m : MS) (i : Nat) : Value := if i < 1024 then .int .u32 (m.mem i) else ptr l.ip
/-- What a word is decoded to: the word, Imm, the operation, D, A, B; the word alone, if it is none. -/
def icell (v : Int) (k : Nat) : Value :=
  if k = 0 then .int .u32 v else if Isa.dOk v = false then (if k = 1 then .int .u32 0 else .int .u8 0)
  else if k = 1 then .int .u32 (Isa.fImm v % 4294967296) else if k = 2 then .int .u8 (Isa.dOp v) else if k = 3 then .int .u8 (Isa.fD v) else if k = 4 then .int .u8 (Isa.fA v) else .int .u8 (Isa.fB v)
def byL (l : List Int) : List Value := l.map (Value.int .u8)
/-- The block of an input that is not at its end. -/
def inB : Value → Option Nat
  | .slice (some a) (_ + 1) _ => some a.block
  | _ => none
/-- Input that is left. -/
def InRep (w : World) (v : Value) (l : List Int) : Prop :=
  (l = [] ∧ ∃ p c, v = .slice p 0 c) ∨
  (∃ N off cap cs, v = .slice (some ⟨N, off, none⟩) l.length cap ∧ l ≠ [] ∧ l.length ≤ cap ∧ cap ≤ 9223372036854775807 ∧ w.heap[N]? = some (.cells cs 5 (0, 0)) ∧ ∀ j, j < l.length → cs[off + j]? = some (.int .u8 (l.getD j 0)))
def Lay.fp (l : Lay) (k : Nat) : Prop := k = l.M ∨ k = l.G ∨ l.pg = some k ∨ l.ip = some k ∨ inB l.vi = some k ∨ l.vo.ownBlock = some k

structure MRep (base : Nat) (w : World) (l : Lay) (m : MS) : Prop where
  ok : MOk m
  mac : w.heap[l.M]? = some (.cells (cellsF 42 (mcell l m)) 66 (0, 0))
  dir : w.heap[l.G]? = some (.cells #[ptr l.pg] 105 (0, 0))
  pag : ∀ P, l.pg = some P → w.heap[P]? = some (.cells (cellsF 1025 (pcell l m)) 109 (0, 0))
  nop : l.pg = none → l.ip = none ∧ ∀ i, m.mem i = 0
  ins : ∀ I, l.ip = some I → ∃ g : Nat → Int, (∀ j, 0 ≤ g j ∧ g j < 4294967296) ∧ w.heap[I]? = some (.cells (cellsF 6144 (fun i => icell (g (i / 6)) (i % 6))) 117 (0, 0))
  inp : InRep w l.vi m.inp
  out : w.ownsRow base 5 1 l.vo m.out.length (byL m.out)
  ne : inB l.vi = none ∨ inB l.vi ≠ l.vo.ownBlock
  lb : ∀ k, l.fp k → base ≤ k

theorem InRep.block {w : World} {v : Value} {l : List Int} (h : InRep w v l) {k : Nat} (hk : inB v = some k) : ∃ cs, w.heap[k]? = some (.cells cs 5 (0, 0)) := by
  rcases h with ⟨-, p, c, rfl⟩ | ⟨N, off, cap, cs, rfl, hne, -, -, hN, -⟩
  · cases p <;> cases hk
  · match l, hne with
    | x :: r, _ =>
      simp only [List.length_cons, inB, Option.some.injEq] at hk
      subst hk
      exact ⟨cs, hN⟩
theorem own_block {w : World} {base n : Nat} {v : Value} {xs : List Value} (h : w.ownsRow base 5 1 v n xs) {k : Nat} (hk : v.ownBlock = some k) : ∃ cs, w.heap[k]? = some (.cells cs 5 (0, 0)) := by
  rcases h.2 with ⟨rfl, _⟩ | ⟨g, cap, cur, rfl, -, hg, -⟩
  · cases hk
  · simp only [Value.ownBlock, Option.some.injEq] at hk
    subst hk
    exact ⟨cur, hg⟩
theorem InRep.kept {w w' : World} {v : Value} {l : List Int} (h : InRep w v l) (hb : ∀ k, inB v = some k → w'.heap[k]? = w.heap[k]?) : InRep w' v l := by
  rcases h with ⟨hl, hv⟩ | ⟨N, off, cap, cs, rfl, hne, hc, hm, hN, hcs⟩
  · exact Or.inl ⟨hl, hv⟩
  · refine Or.inr ⟨N, off, cap, cs, rfl, hne, hc, hm, ?_, hcs⟩
    rw [hb N (by match l, hne with | x :: r, _ => rfl)]
    exact hN
theorem own_kept {w w' : World} {base n : Nat} {v : Value} {xs : List Value} (h : w.ownsRow base 5 1 v n xs) (hb : ∀ k, v.ownBlock = some k → w'.heap[k]? = w.heap[k]?) : w'.ownsRow base 5 1 v n xs := by
  refine ⟨h.1, h.2.imp id ?_⟩
  rintro ⟨g, cap, cur, rfl, hb', hg, rest⟩
  exact ⟨g, cap, cur, rfl, hb', (hb g rfl).trans hg, rest⟩

namespace MRep
variable {base : Nat} {w w' : World} {l : Lay} {m : MS}
/-- Every block of a machine is there. -/
theorem lt (h : MRep base w l m) {k : Nat} (hk : l.fp k) : k < w.heap.size := by
  rcases hk with rfl | rfl | hk | hk | hk | hk
  · exact lt_of_block h.mac
  · exact lt_of_block h.dir
  · exact lt_of_block (h.pag k hk)
  · obtain ⟨g, -, hg⟩ := h.ins k hk; exact lt_of_block hg
  · obtain ⟨cs, hg⟩ := h.inp.block hk; exact lt_of_block hg
  · exact (h.out.lt k hk).2
theorem frame (h : MRep base w l m) (hb : ∀ k, l.fp k → w'.heap[k]? = w.heap[k]?) : MRep base w' l m where
  ok := h.ok
  mac := (hb _ (Or.inl rfl)).trans h.mac
  dir := (hb _ (Or.inr (Or.inl rfl))).trans h.dir
  pag := fun P hP => (hb _ (Or.inr (Or.inr (Or.inl hP)))).trans (h.pag P hP)
  nop := h.nop
  ins := fun I hI => by
    obtain ⟨g, hg, hi⟩ := h.ins I hI
    exact ⟨g, hg, (hb _ (Or.inr (Or.inr (Or.inr (Or.inl hI))))).trans hi⟩
  inp := h.inp.kept fun k hk => hb _ (Or.inr (Or.inr (Or.inr (Or.inr (Or.inl hk)))))
  out := own_kept h.out fun k hk => hb _ (Or.inr (Or.inr (Or.inr (Or.inr (Or.inr hk)))))
  ne := h.ne
  lb := h.lb
theorem chg (h : MRep base w l m) {F : Nat → Prop} (hc : Chg F w w') (hF : ∀ k, l.fp k → ¬ F k) : MRep base w' l m := h.frame fun k hk => hc.block k (h.lt hk) (hF k hk)
theorem below (h : MRep base w l m) (hb : Below w.heap.size w w') : MRep base w' l m := h.frame fun k hk => hb.block k (h.lt hk)
theorem drewN (h : MRep base w l m) (n : Nat) : MRep base (w.drewN n) l m := h.below (below_drewN (Below.refl _ _) n)
theorem drew (h : MRep base w l m) : MRep base w.drew l m := h.below (Below.refl _ _).drew
theorem alloc (h : MRep base w l m) (o : Obj) : MRep base (w.alloc o) l m := h.below ((Below.refl _ _).alloc (Nat.le_refl _) o)

/-- A machine's own block was written, and nothing else. -/
theorem upd {m' : MS} (h : MRep base w l m) (hc : Chg (fun k => k = l.M) w w') (hmac : w'.heap[l.M]? = some (.cells (cellsF 42 (mcell l m')) 66 (0, 0))) (ok : MOk m') (hmem : m'.mem = m.mem) (hinp : m'.inp = m.inp) (hout : m'.out = m.out) : MRep base w' l m' where
  ok := ok
  mac := hmac
  dir := hc.same h.dir (fun e => ne_kind h.dir h.mac (by decide) e)
  pag := fun P hP => by
    have := hc.same (h.pag P hP) (fun e => ne_kind (h.pag P hP) h.mac (by decide) e)
    rw [this]
    congr 3
    funext i
    unfold pcell
    rw [hmem]
  nop := fun hn => by rw [hmem]; exact h.nop hn
  ins := fun I hI => by
    obtain ⟨g, hg, hi⟩ := h.ins I hI
    exact ⟨g, hg, hc.same hi (fun e => ne_kind hi h.mac (by decide) e)⟩
  inp := by
    rw [hinp]
    exact h.inp.kept fun k hk => by
      obtain ⟨cs, hk'⟩ := h.inp.block hk
      exact hc.block k (lt_of_block hk') (fun e => ne_kind hk' h.mac (by decide) e)
  out := by
    rw [hout]
    exact own_kept h.out fun k hk => by
      obtain ⟨cs, hk'⟩ := own_block h.out hk
      exact hc.block k (lt_of_block hk') (fun e => ne_kind hk' h.mac (by decide) e)
  ne := h.ne
  lb := h.lb
end MRep

/-- One cell of the machine's block is written. -/
theorem MRep.set1 {base : Nat} {w : World} {l : Lay} {m m' : MS} (h : MRep base w l m) (i : Nat) (x : Value) (hi : i < 42) (hx : ∀ j, j < 42 → updF (mcell l m) i x j = mcell l m' j) (ok : MOk m') (hmem : m'.mem = m.mem) (hinp : m'.inp = m.inp) (hout : m'.out = m.out) :
    MRep base (w.setCell ⟨l.M, i, none⟩ x) l m' ∧ Chg (fun k => k = l.M) w (w.setCell ⟨l.M, i, none⟩ x) := by
  have hc : Chg (fun k => k = l.M) w (w.setCell ⟨l.M, i, none⟩ x) := (Chg.refl _ _).setCell _ _ (Or.inl rfl)
  exact ⟨h.upd hc (set_blockF h.mac hi hx) ok hmem hinp hout, hc⟩
end Go.Proofs.YtknnmacmohpanaaDoor
