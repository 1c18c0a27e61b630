/- Contracts: the closure of Encode. Conditions: its two captured variables are blocks of their own. -/
import Derived.Test.YtbplmbignalbgaaDoorIsaWa
import Derived.Test.YtbplmbignalbgaaDoorIsaSb
import Derived.OneCell
import Derived.Deep.Light
namespace Go.Proofs.YtbplmbignalbgaaDoor
open Go.RowKit

/-- Two blocks of one cell were written; all else is as it was. -/
structure Two (L V : Nat) (x y : Value) (tx ty : Nat) (w w' : World) : Prop where
  os : w'.os = w.os
  tape : w'.tape = w.tape
  output : w'.output = w.output
  size : w'.heap.size = w.heap.size
  first : w'.heap[L]? = some (.cells #[x] tx (0, 0))
  second : w'.heap[V]? = some (.cells #[y] ty (0, 0))
  other : ∀ k, k ≠ L → k ≠ V → w'.heap[k]? = w.heap[k]?
theorem Two.below {L V B tx ty : Nat} {x y : Value} {w w' : World} (h : Two L V x y tx ty w w') (hL : B ≤ L) (hV : B ≤ V) : Below B w w' :=
  ⟨h.os, h.tape, h.output, Nat.le_of_eq h.size.symm, fun k hk => h.other k (by omega) (by omega)⟩
theorem two_of {L V : Nat} {x y x0 y0 : Value} {tx ty : Nat} {w : World} (hne : L ≠ V) (cL : w.heap[L]? = some (.cells #[x0] tx (0, 0))) (cV : w.heap[V]? = some (.cells #[y0] ty (0, 0))) :
    Two L V x y tx ty w ((w.setCell ⟨L, 0, none⟩ x).setCell ⟨V, 0, none⟩ y).drew where
  os := rfl
  tape := rfl
  output := rfl
  size := by simp [World.setCell]
  first := by
    show ((w.setCell ⟨L, 0, none⟩ x).setCell ⟨V, 0, none⟩ y).heap[L]? = _
    rw [Below.heap_setCell _ _ _ _ hne]
    exact one_setCell cL
  second := by
    show ((w.setCell ⟨L, 0, none⟩ x).setCell ⟨V, 0, none⟩ y).heap[V]? = _
    refine one_setCell (v := y0) ?_
    rw [Below.heap_setCell _ _ _ _ (Ne.symm hne)]
    exact cV
  other := fun k h1 h2 => by
    show ((w.setCell ⟨L, 0, none⟩ x).setCell ⟨V, 0, none⟩ y).heap[k]? = _
    rw [Below.heap_setCell _ _ _ _ h2, Below.heap_setCell _ _ _ _ h1]

set_option maxRecDepth 100000 in
set_option maxHeartbeats 1000000 in
theorem put_any (n : Int) (bits left : Nat) (v : Int) (L V : Nat) (w : World) (hne : L ≠ V) (h2 : bits ≤ 26) (h3 : bits ≤ left) (h4 : left ≤ 32) (v0 : 0 ≤ v) (v1 : v < 4294967296) (hv : v % (2 : Int) ^ left = 0)
    (cL : w.heap[L]? = some (.cells #[.int .i64 left] 3 (0, 0))) (cV : w.heap[V]? = some (.cells #[.int .u32 v] 38 (0, 0))) :
    Calls Tryd.prog 77 #[.int .i64 n, .int .i64 bits, .pointer (some ⟨L, 0, none⟩), .pointer (some ⟨V, 0, none⟩)] w fun e w' => e = .returned (.tuple #[]) ∧
      Two L V (.int .i64 ((left : Int) - bits)) (.int .u32 (v + n % (2 : Int) ^ bits * (2 : Int) ^ (left - bits))) 3 38 w w' := by
  have H := Lib.hid (And.intro hv (And.intro cL cV))
  have gL := cell_of_one cL
  have gV := cell_of_one cV
  have fL := free_of_one cL
  have fV := free_of_one cV
  clear hv cL cV
  go_enter Tryd.func77, Tryd.ntmps77
  go_wp2
  go_region
  all_goals
    go_wp2
    go_returns
    obtain ⟨hv, cL, cV⟩ := H.out
    rw [Isa.put_word n v bits left h2 h3 h4 v0 v1 hv]
    exact ⟨rfl, two_of hne cL cV⟩
theorem put_num (n : Int) (k left : Nat) (bi li lo v r : Int) (L V : Nat) (w : World) (hne : L ≠ V) (h2 : k ≤ 26) (h3 : k ≤ left) (h4 : left ≤ 32) (hb : bi = k) (hl : li = left) (hlo : lo = li - bi) (v0 : 0 ≤ v) (v1 : v < 4294967296) (hv : v % (2 : Int) ^ left = 0)
    (hr : r = v + n % (2 : Int) ^ k * (2 : Int) ^ (left - k))
    (cL : w.heap[L]? = some (.cells #[.int .i64 li] 3 (0, 0))) (cV : w.heap[V]? = some (.cells #[.int .u32 v] 38 (0, 0))) :
    Calls Tryd.prog 77 #[.int .i64 n, .int .i64 bi, .pointer (some ⟨L, 0, none⟩), .pointer (some ⟨V, 0, none⟩)] w fun e w' => e = .returned (.tuple #[]) ∧
      Two L V (.int .i64 lo) (.int .u32 r) 3 38 w w' := by
  subst hb hl hlo hr
  exact put_any n k left v L V w hne h2 h3 h4 v0 v1 hv cL cV
end Go.Proofs.YtbplmbignalbgaaDoor
