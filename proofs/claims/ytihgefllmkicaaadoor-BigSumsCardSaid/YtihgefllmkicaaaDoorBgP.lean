/- Numbers as results; boxes. Conditions: the digits lie as told. -/
import Derived.Test.YtihgefllmkicaaaDoorBgO
import Derived.Deep.RegionHeld3
namespace Go.Proofs.YtihgefllmkicaaaDoor
open Go.RowKit Bg
set_option linter.unusedVariables false
set_option linter.unusedSimpArgs false


theorem Below.al {W w : World} (h : Below W.heap.size W w) (o : Obj) : Below W.heap.size W (w.alloc o) := h.alloc h.size o
theorem below_tr {W cur w1 : World} (hb : Below cur.heap.size cur w1) (h : Below W.heap.size W cur) : Below W.heap.size W w1 := h.trans (hb.mono h.size)
theorem below_set {W w : World} (h : Below W.heap.size W w) {b i : Nat} (v : Value) (hb : W.heap.size ≤ b) : Below W.heap.size W (w.setCell ⟨b, i, none⟩ v) := h.setCell hb v
theorem bcell {W w1 : World} (hb : Below W.heap.size W w1) : (∀ b o, b < W.heap.size → w1.cell? ⟨b, o, none⟩ = W.cell? ⟨b, o, none⟩) ∧ (∀ b o, b < W.heap.size → w1.frozen? ⟨b, o, none⟩ = W.frozen? ⟨b, o, none⟩) :=
  ⟨fun b o h => hb.cell (p := ⟨b, o, none⟩) h, fun b o h => hb.frozen (p := ⟨b, o, none⟩) h⟩
theorem three_boxes (w : World) (a b c d e f : Value) : ∃ W, W = ((w.alloc (.cells #[a, b] 24)).alloc (.cells #[c, d] 24)).alloc (.cells #[e, f] 24) ∧ Below w.heap.size w W ∧ W.heap.size = w.heap.size + 3 ∧ W.heap[w.heap.size]? = some (.cells #[a, b] 24) ∧ W.heap[w.heap.size + 1]? = some (.cells #[c, d] 24) ∧ W.heap[w.heap.size + 2]? = some (.cells #[e, f] 24) := by
  obtain ⟨W2, h2, hB, hS, h0, h1⟩ := two_boxes w a b c d
  refine ⟨W2.alloc (.cells #[e, f] 24), by rw [h2], hB.alloc hB.size _, by simp [hS], ?_, ?_, ?_⟩
  · rw [Below.heap_alloc _ _ _ (by omega)]; exact h0
  · rw [Below.heap_alloc _ _ _ (by omega)]; exact h1
  · rw [← hS]; exact heap_new _ _
theorem four_boxes (w : World) (a b c d e f g h : Value) : ∃ W, W = (((w.alloc (.cells #[a, b] 24)).alloc (.cells #[c, d] 24)).alloc (.cells #[e, f] 24)).alloc (.cells #[g, h] 24) ∧ Below w.heap.size w W ∧ W.heap.size = w.heap.size + 4 ∧ W.heap[w.heap.size]? = some (.cells #[a, b] 24) ∧ W.heap[w.heap.size + 1]? = some (.cells #[c, d] 24) ∧ W.heap[w.heap.size + 2]? = some (.cells #[e, f] 24) ∧ W.heap[w.heap.size + 3]? = some (.cells #[g, h] 24) := by
  obtain ⟨W2, h2, hB, hS, h0, h1, h3⟩ := three_boxes w a b c d e f
  refine ⟨W2.alloc (.cells #[g, h] 24), by rw [h2], hB.alloc hB.size _, by simp [hS], ?_, ?_, ?_, ?_⟩
  · rw [Below.heap_alloc _ _ _ (by omega)]; exact h0
  · rw [Below.heap_alloc _ _ _ (by omega)]; exact h1
  · rw [Below.heap_alloc _ _ _ (by omega)]; exact h3
  · rw [← hS]; exact heap_new _ _
/-- A block of two cells that may be written. -/
structure Box (w : World) (b : Nat) (x y : Value) : Prop where
  c0 : w.cell? ⟨b, 0, none⟩ = some x
  c1 : w.cell? ⟨b, 1, none⟩ = some y
  f0 : w.frozen? ⟨b, 0, none⟩ = false
  f1 : w.frozen? ⟨b, 1, none⟩ = false
theorem Box.below {w w' : World} {b : Nat} {x y : Value} (h : Box w b x y) (hb : Below w.heap.size w w') : Box w' b x y := by
  have hl := World.block_lt_of_cell? w _ h.c0
  exact ⟨(hb.cell (p := ⟨b, 0, none⟩) hl).trans h.c0, (hb.cell (p := ⟨b, 1, none⟩) hl).trans h.c1, (hb.frozen (p := ⟨b, 0, none⟩) hl).trans h.f0, (hb.frozen (p := ⟨b, 1, none⟩) hl).trans h.f1⟩
theorem Box.of {w : World} {b : Nat} {x y : Value} (h : w.heap[b]? = some (.cells #[x, y] 24)) : Box w b x y := by
  have k := two_cells h
  exact ⟨k.1, k.2.1, k.2.2.1, k.2.2.2⟩
theorem Box.alloc {w : World} {b : Nat} {x y : Value} (h : Box w b x y) (o : Obj) : Box (w.alloc o) b x y := h.below ((Below.refl _ _).alloc (Nat.le_refl _) o)
theorem Below.undrew {B : Nat} {a w : World} (h : Below B a.drew w) : Below B a w := ⟨h.os, h.tape, h.output, h.size, h.block⟩
theorem four_kept {W w' : World} {b0 b1 : Nat} {x0 x1 y0 y1 : Value} (h : Box W b0 x0 x1 ∧ Box W b1 y0 y1) (hb : Below W.heap.size W w') : w'.cell? ⟨b0, 0, none⟩ = some x0 ∧ w'.cell? ⟨b0, 1, none⟩ = some x1 ∧ w'.cell? ⟨b1, 0, none⟩ = some y0 ∧ w'.cell? ⟨b1, 1, none⟩ = some y1 :=
  ⟨(h.1.below hb).c0, (h.1.below hb).c1, (h.2.below hb).c0, (h.2.below hb).c1⟩
theorem size_drew (w : World) : w.drew.heap.size = w.heap.size := rfl
theorem size_alloc (w : World) (o : Obj) : (w.alloc o).heap.size = w.heap.size + 1 := by simp
/-- A box that was made just ahead of a call, or one ahead of it. -/
theorem box_new {X w1 : World} {x y : Value} (hb : Below (X.alloc (.cells #[x, y] 24)).heap.size (X.alloc (.cells #[x, y] 24)) w1) {n : Nat} (hn : X.heap.size = n) : Box w1 n x y := by
  subst hn
  exact (Box.of (heap_new X _)).below hb
theorem box_new2 {X w1 : World} {x y : Value} {o : Obj} (hb : Below ((X.alloc (.cells #[x, y] 24)).alloc o).heap.size ((X.alloc (.cells #[x, y] 24)).alloc o) w1) {n : Nat} (hn : X.heap.size = n) : Box w1 n x y := by
  subst hn
  have h1 : Box (X.alloc (.cells #[x, y] 24)) X.heap.size x y := Box.of (heap_new X _)
  exact (h1.below ((Below.refl _ _).alloc (Nat.le_refl _) o)).below hb
/-- Two new variables, and all that was there. -/
structure Both (W wx : World) (b5 b6 : Nat) (x0 x1 y0 y1 : Value) : Prop where
  below : Below W.heap.size W wx
  h5 : Box wx b5 x0 x1
  h6 : Box wx b6 y0 y1
  keep : ∀ q x y, Box W q x y → Box wx q x y
  f5 : W.heap.size ≤ b5
  f6 : W.heap.size ≤ b6
  ne : b5 ≠ b6
theorem Box.far {w : World} {b : Nat} {x y : Value} (h : Box w b x y) {b' : Nat} (hne : b ≠ b') (u v : Value) : Box ((w.setCell ⟨b', 0, none⟩ u).setCell ⟨b', 1, none⟩ v) b x y := by
  have e : ((w.setCell ⟨b', 0, none⟩ u).setCell ⟨b', 1, none⟩ v).heap[b]? = w.heap[b]? := (Below.heap_setCell _ _ _ _ hne).trans (Below.heap_setCell _ _ _ _ hne)
  exact ⟨(World.cell?_of_block (w := w) e).trans h.c0, (World.cell?_of_block (w := w) e).trans h.c1, (World.frozen?_of_block (w := w) e).trans h.f0, (World.frozen?_of_block (w := w) e).trans h.f1⟩
theorem Box.fresh (w : World) (x y : Value) {n : Nat} (hn : w.heap.size = n) : Box (w.alloc (.cells #[x, y] 24)) n x y := by
  subst hn
  exact Box.of (heap_new w _)
/-- A number as a result is. -/
def IsNum (B : Nat) (w : World) (v : Value) (x : Int) : Prop := ∃ s sv D, v = .agg #[.bool s, sv] ∧ Own 52 .u16 B w sv D ∧ Bg.Can 65536 s D ∧ nv 65536 s D = x
theorem isNum_of {B : Nat} {w : World} {sv : Value} {D : List Int} {neg : Bool} {x : Int} (o : Own 52 .u16 B w sv D) (d : Dig 65536 D) (t : Tidy D) (h : nv 65536 neg D = x) : IsNum B w (.agg #[.bool (neg && decide (0 < D.length)), sv]) x := by
  refine ⟨_, sv, D, rfl, o, ⟨d, t, fun e => by rw [e]; simp⟩, ?_⟩
  rw [← h]
  by_cases h0 : 0 < D.length
  · rw [decide_eq_true h0, Bool.and_true]
  · have : D = [] := List.length_eq_zero_iff.1 (by omega)
    rw [this, nv_nil, nv_nil]
theorem tidy_can {l : List Int} (s : Bool) (h : Dig 65536 l) : Bg.Can 65536 (tneg s l) (tdig l) ∧ nv 65536 (tneg s l) (tdig l) = nv 65536 s l := can_made (by decide) h
theorem nv_mul {B : Int} {s t : Bool} {x y D : List Int} (h : val B D = val B x * val B y) : nv B (s != t) D = nv B s x * nv B t y := by
  unfold nv
  cases s <;> cases t <;> simp [h, Int.neg_mul, Int.mul_neg]
theorem IsNum.below {B : Nat} {w w' : World} {v : Value} {x : Int} (h : IsNum B w v x) (hb : Below w.heap.size w w') : IsNum B w' v x := by
  obtain ⟨s, sv, D, h1, h2, h3⟩ := h
  exact ⟨s, sv, D, h1, h2.below hb, h3⟩
theorem IsNum.base {B B' : Nat} {w : World} {v : Value} {x : Int} (h : IsNum B w v x) (hB : B' ≤ B) : IsNum B' w v x := by
  obtain ⟨s, sv, D, h1, h2, h3⟩ := h
  exact ⟨s, sv, D, h1, h2.base hB, h3⟩
theorem Bg.Can.len {s : Bool} {D : List Int} {n : Nat} (h : Bg.Can 65536 s D) (hx : nv 65536 s D < 65536 ^ n ∧ -(65536 ^ n) < nv 65536 s D) : D.length ≤ n := by
  by_cases h0 : D = []
  · rw [h0]; exact Nat.zero_le _
  have h1 := val_ge (by decide) h.dig h.tidy h0
  have h2 : val 65536 D < 65536 ^ n := by
    unfold nv at hx
    split at hx <;> omega
  rcases Nat.lt_or_ge n D.length with h3 | h3
  · exfalso
    have := pow_le (show (1 : Int) ≤ 65536 by decide) (show n ≤ D.length - 1 by omega)
    omega
  · exact h3
theorem Box.store {w : World} {b : Nat} {x y : Value} (h : Box w b x y) (u v : Value) : ((w.setCell ⟨b, 0, none⟩ u).setCell ⟨b, 1, none⟩ v).cell? ⟨b, 0, none⟩ = some u ∧ ((w.setCell ⟨b, 0, none⟩ u).setCell ⟨b, 1, none⟩ v).cell? ⟨b, 1, none⟩ = some v := by
  obtain ⟨cs, t, fr, hh⟩ : ∃ cs t fr, w.heap[b]? = some (.cells cs t fr) := by
    have h0 := h.c0
    unfold World.cell? at h0
    split at h0
    · rename_i c t fr hq; exact ⟨c, t, fr, hq⟩
    · cases h0
  have h0 := h.c0
  have h1 := h.c1
  simp only [World.cell?, hh] at h0 h1
  have hs1 : 1 < cs.size := (Array.getElem?_eq_some_iff.1 (by simpa using h1)).1
  have hlt := lt_block hh
  have h' : w.heap[b] = .cells cs t fr := by simpa [Array.getElem?_eq_getElem hlt] using hh
  have k1 : (w.setCell ⟨b, 0, none⟩ u).heap[b]? = some (.cells (cs.setIfInBounds 0 u) t fr) := by
    show (w.heap.modify b _)[b]? = _
    rw [Array.getElem?_eq_getElem (by simpa using hlt), Array.getElem_modify_self, h']
    simp [Array.setIfInBounds, show 0 < cs.size by omega]
  have hlt2 := lt_block k1
  have k1' : (w.setCell ⟨b, 0, none⟩ u).heap[b] = .cells (cs.setIfInBounds 0 u) t fr := by simpa [Array.getElem?_eq_getElem hlt2] using k1
  have k2 : ((w.setCell ⟨b, 0, none⟩ u).setCell ⟨b, 1, none⟩ v).heap[b]? = some (.cells ((cs.setIfInBounds 0 u).setIfInBounds 1 v) t fr) := by
    show ((w.setCell ⟨b, 0, none⟩ u).heap.modify b _)[b]? = _
    rw [Array.getElem?_eq_getElem (by simpa using hlt2), Array.getElem_modify_self, k1']
    simp [Array.setIfInBounds, hs1]
  constructor
  · simp only [World.cell?, k2]
    simp [Array.getElem?_setIfInBounds, show 0 < cs.size by omega]
  · simp only [World.cell?, k2]
    simp [Array.getElem?_setIfInBounds, hs1]
theorem Box.first {w : World} {b : Nat} {x y : Value} (h : Box w b x y) (u : Value) : (w.setCell ⟨b, 0, none⟩ u).cell? ⟨b, 0, none⟩ = some u := by
  have k := (h.store u y).1
  rw [← k]
  obtain ⟨cs, t, fr, hh⟩ : ∃ cs t fr, (w.setCell ⟨b, 0, none⟩ u).heap[b]? = some (.cells cs t fr) := by
    unfold World.cell? at k
    have hlt : b < w.heap.size := World.block_lt_of_cell? w _ h.c0
    have hl2 : b < (w.setCell ⟨b, 0, none⟩ u).heap.size := by show b < (w.heap.modify _ _).size; simpa using hlt
    have h0 := h.c0
    unfold World.cell? at h0
    split at h0
    · rename_i c t fr hq
      refine ⟨c.setIfInBounds 0 u, t, fr, ?_⟩
      have hq' : w.heap[b] = .cells c t fr := by simpa [Array.getElem?_eq_getElem hlt] using hq
      show (w.heap.modify b _)[b]? = _
      rw [Array.getElem?_eq_getElem (by simpa using hlt), Array.getElem_modify_self, hq']
      simp
    · cases h0
  have hl2 := lt_block hh
  have hh' : (w.setCell ⟨b, 0, none⟩ u).heap[b] = .cells cs t fr := by simpa [Array.getElem?_eq_getElem hl2] using hh
  have k2 : ((w.setCell ⟨b, 0, none⟩ u).setCell ⟨b, 1, none⟩ y).heap[b]? = some (.cells (cs.setIfInBounds 1 y) t fr) := by
    show ((w.setCell ⟨b, 0, none⟩ u).heap.modify b _)[b]? = _
    rw [Array.getElem?_eq_getElem (by simpa using hl2), Array.getElem_modify_self, hh']
    simp
  simp only [World.cell?, hh, k2]
  simp [Array.getElem?_setIfInBounds]
theorem Box.put {w : World} {b : Nat} {x y : Value} (h : Box w b x y) (u v : Value) : Box ((w.setCell ⟨b, 0, none⟩ u).setCell ⟨b, 1, none⟩ v) b u v := by
  obtain ⟨k0, k1⟩ := h.store u v
  exact ⟨k0, k1, (World.frozen?_setCell _ _ _ _).trans ((World.frozen?_setCell _ _ _ _).trans h.f0), (World.frozen?_setCell _ _ _ _).trans ((World.frozen?_setCell _ _ _ _).trans h.f1)⟩
end Go.Proofs.YtihgefllmkicaaaDoor
