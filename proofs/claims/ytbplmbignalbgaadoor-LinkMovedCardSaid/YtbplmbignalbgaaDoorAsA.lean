/- Plain: blocks whose cells are told by a function, and which blocks may have changed. Conditions: none. -/
import Derived.Test.YtbplmbignalbgaaDoorIsaWa
import Derived.OneCell
import Derived.Laws.AppendOwn
import Derived.WalkSmall
namespace Go.Proofs.YtbplmbignalbgaaDoor
open Go.RowKit

/-- A block's cells, by a function. -/
def cellsF (n : Nat) (f : Nat → Value) : Array Value := Array.ofFn (n := n) (fun i => f i.val)
theorem cellsF_size (n : Nat) (f : Nat → Value) : (cellsF n f).size = n := by unfold cellsF; simp
theorem cellsF_get {n : Nat} {f : Nat → Value} {i : Nat} (h : i < n) : (cellsF n f)[i]? = some (f i) := by unfold cellsF; simp [h]
def updF {α : Type} (f : Nat → α) (i : Nat) (x : α) (j : Nat) : α := if j = i then x else f j
theorem updF_same {α : Type} (f : Nat → α) (i : Nat) (x : α) : updF f i x i = x := by unfold updF; rw [if_pos rfl]
theorem updF_other {α : Type} (f : Nat → α) {i j : Nat} (x : α) (h : j ≠ i) : updF f i x j = f j := by unfold updF; rw [if_neg h]
theorem cellsF_congr {n : Nat} {f g : Nat → Value} (h : ∀ i, i < n → f i = g i) : cellsF n f = cellsF n g := by
  unfold cellsF
  congr 1
  funext i
  exact h i.val i.isLt
theorem cellsF_set (n : Nat) (f : Nat → Value) (i : Nat) (x : Value) : (cellsF n f).setIfInBounds i x = cellsF n (updF f i x) := by
  apply Array.ext_getElem?
  intro j
  rw [Array.getElem?_setIfInBounds, cellsF_size]
  by_cases hn : j < n
  · rw [cellsF_get hn, cellsF_get hn]
    by_cases hj : i = j
    · subst hj; rw [if_pos rfl, if_pos hn, updF_same]
    · rw [if_neg hj, updF_other _ _ (Ne.symm hj)]
  · have e1 : (cellsF n f)[j]? = none := Array.getElem?_eq_none (by rw [cellsF_size]; omega)
    have e2 : (cellsF n (updF f i x))[j]? = none := Array.getElem?_eq_none (by rw [cellsF_size]; omega)
    rw [e1, e2]
    by_cases hj : i = j
    · subst hj; rw [if_pos rfl, if_neg hn]
    · rw [if_neg hj]

theorem cell_of_block {w : World} {b t : Nat} {cs : Array Value} {fr : Nat × Nat} (h : w.heap[b]? = some (.cells cs t fr)) (i : Nat) : w.cell? ⟨b, i, none⟩ = cs[i]? := by simp [World.cell?, h]
theorem cellF {w : World} {b t n : Nat} {f : Nat → Value} {fr : Nat × Nat} (h : w.heap[b]? = some (.cells (cellsF n f) t fr)) (i : Nat) (hi : i < n) : w.cell? ⟨b, i, none⟩ = some (f i) := by
  rw [cell_of_block h, cellsF_get hi]
theorem cellV {w : World} {b t n : Nat} {f : Nat → Value} {fr : Nat × Nat} {v : Value} (h : w.heap[b]? = some (.cells (cellsF n f) t fr)) (i : Nat) (hi : i < n) (hv : f i = v) : w.cell? ⟨b, i, none⟩ = some v := by
  rw [cellF h i hi, hv]
theorem freeF {w : World} {b t : Nat} {cs : Array Value} (h : w.heap[b]? = some (.cells cs t (0, 0))) (i : Nat) : w.frozen? ⟨b, i, none⟩ = false := by simp [World.frozen?, h]
theorem set_block {w : World} {b i : Nat} {cs : Array Value} {t : Nat} {fr : Nat × Nat} {x : Value} (h : w.heap[b]? = some (.cells cs t fr)) (hi : i < cs.size) : (w.setCell ⟨b, i, none⟩ x).heap[b]? = some (.cells (cs.setIfInBounds i x) t fr) := by
  have hlt := lt_of_block h
  have h' : w.heap[b] = .cells cs t fr := by simpa [Array.getElem?_eq_getElem hlt] using h
  show (w.heap.modify b _)[b]? = _
  rw [Array.getElem?_eq_getElem (by simpa using hlt), Array.getElem_modify_self, h']
  simp [Array.setIfInBounds, hi]
theorem set_blockF {w : World} {b i n : Nat} {f g : Nat → Value} {t : Nat} {fr : Nat × Nat} {x : Value} (h : w.heap[b]? = some (.cells (cellsF n f) t fr)) (hi : i < n) (hg : ∀ j, j < n → updF f i x j = g j) : (w.setCell ⟨b, i, none⟩ x).heap[b]? = some (.cells (cellsF n g) t fr) := by
  rw [set_block h (by rw [cellsF_size]; exact hi), cellsF_set, cellsF_congr hg]
/-- Blocks of unlike kinds are not one. -/
theorem ne_kind {w : World} {a b t u : Nat} {cs ds : Array Value} {f g : Nat × Nat} (h : w.heap[a]? = some (.cells cs t f)) (k : w.heap[b]? = some (.cells ds u g)) (hne : t ≠ u) : a ≠ b := by
  rintro rfl
  rw [h] at k
  simp only [Option.some.injEq, Obj.cells.injEq] at k
  exact hne k.2.1

/-- Of what there was, the blocks of F alone may have changed. -/
structure Chg (F : Nat → Prop) (w w' : World) : Prop where
  os : w'.os = w.os
  tape : w'.tape = w.tape
  output : w'.output = w.output
  size : w.heap.size ≤ w'.heap.size
  block : ∀ k, k < w.heap.size → ¬ F k → w'.heap[k]? = w.heap[k]?
theorem Chg.refl (F : Nat → Prop) (w : World) : Chg F w w := ⟨rfl, rfl, rfl, Nat.le_refl _, fun _ _ _ => rfl⟩
theorem Chg.trans {F F' : Nat → Prop} {a b c : World} (h : Chg F a b) (k : Chg F' b c) (hF : ∀ i, F' i → F i ∨ a.heap.size ≤ i) : Chg F a c :=
  ⟨k.os.trans h.os, k.tape.trans h.tape, k.output.trans h.output, Nat.le_trans h.size k.size, fun i hi hn => (k.block i (Nat.lt_of_lt_of_le hi h.size) (fun hf => (hF i hf).elim hn (by omega))).trans (h.block i hi hn)⟩
theorem Chg.mono {F F' : Nat → Prop} {a b : World} (h : Chg F a b) (hF : ∀ i, F i → F' i) : Chg F' a b := ⟨h.os, h.tape, h.output, h.size, fun i hi hn => h.block i hi (fun hf => hn (hF i hf))⟩
theorem Chg.of_below {F : Nat → Prop} {a b : World} (h : Below a.heap.size a b) : Chg F a b := ⟨h.os, h.tape, h.output, h.size, fun i hi _ => h.block i hi⟩
theorem Chg.below {F : Nat → Prop} {B : Nat} {a b : World} (h : Chg F a b) (hB : B ≤ a.heap.size) (hF : ∀ i, F i → B ≤ i) : Below B a b := ⟨h.os, h.tape, h.output, h.size, fun i hi => h.block i (by omega) (fun hf => by have := hF i hf; omega)⟩
theorem Chg.drew {F : Nat → Prop} {a b : World} (h : Chg F a b) : Chg F a b.drew := ⟨h.os, h.tape, h.output, h.size, h.block⟩
theorem Chg.drewN {F : Nat → Prop} {a b : World} (h : Chg F a b) (n : Nat) : Chg F a (b.drewN n) :=
  h.trans (Chg.of_below (below_drewN (Below.refl _ _) n) : Chg F b _) (fun _ h => Or.inl h)
theorem Chg.alloc {F : Nat → Prop} {a b : World} (h : Chg F a b) (o : Obj) : Chg F a (b.alloc o) := h.trans (Chg.of_below ((Below.refl _ _).alloc (Nat.le_refl _) o) : Chg F b _) (fun _ h => Or.inl h)
theorem Chg.setCell {F : Nat → Prop} {a b : World} (h : Chg F a b) (p : Addr) (v : Value) (hp : F p.block ∨ a.heap.size ≤ p.block) : Chg F a (b.setCell p v) :=
  ⟨h.os, h.tape, h.output, by show _ ≤ (b.heap.modify _ _).size; simpa using h.size, fun i hi hn => (Below.heap_setCell _ _ _ _ (fun e => by subst e; rcases hp with hp | hp; exact hn hp; omega)).trans (h.block i hi hn)⟩
theorem Chg.grown {F : Nat → Prop} {a b c : World} {row : Option Nat} (h : Chg F a b) (hg : b.grownBy c row) (hr : ∀ k, row = some k → F k ∨ a.heap.size ≤ k) : Chg F a c :=
  h.trans (F' := fun k => row = some k) ⟨hg.os, hg.tape, hg.output, hg.size, fun i hi hn => hg.block i hi (fun e => hn e.symm)⟩ hr
theorem Chg.same {F : Nat → Prop} {a b : World} (h : Chg F a b) {k : Nat} {o : Obj} (hk : a.heap[k]? = some o) (hn : ¬ F k) : b.heap[k]? = some o := (h.block k (lt_of_block hk) hn).trans hk
end Go.Proofs.YtbplmbignalbgaaDoor
