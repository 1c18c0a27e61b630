/- Plain: the walk of BigRing. Conditions: the digits lie as told; the table lies. -/
import Derived.Test.YtihgefllmkicaaaDoorBbD
namespace Go.Proofs.YtihgefllmkicaaaDoor
open Go.RowKit Bg
set_option linter.unusedVariables false
set_option linter.unusedSimpArgs false


theorem Bg.Can.below {B : Int} {s : Bool} {l : List Int} (h : Bg.Can B s l) {N : Nat} {w w' : World} (hb : Below N w w') : Bg.Can B s l := h
theorem Nu.wide {n m : Nat} {w : World} {s : Bool} {p : Option Addr} {c : Nat} {D : List Int} {x : Int} (h : Nu n w s p c D x) (k : n ≤ m) : Nu m w s p c D x := ⟨h.toNm, Nat.le_trans h.len k⟩
theorem can_below {s : Bool} {D : List Int} {v : Int} (h : Bg.Can 65536 s D) (hv : nv 65536 s D = v) (k : v < 0) : s = true ∧ 0 < D.length := by
  have h0 := val_nonneg (show (0 : Int) ≤ 65536 by decide) h.dig
  have h1 : s = true := by
    cases s
    · exfalso; unfold nv at hv; simp at hv; omega
    · rfl
  refine ⟨h1, ?_⟩
  rcases Nat.eq_zero_or_pos D.length with e | e
  · exfalso; rw [List.length_eq_zero_iff.1 e, nv_nil] at hv; omega
  · exact e
theorem can_above {s : Bool} {D : List Int} {v : Int} (h : Bg.Can 65536 s D) (hv : nv 65536 s D = v) (k : 0 < v) : s = false ∧ 0 < D.length := by
  have h0 := val_nonneg (show (0 : Int) ≤ 65536 by decide) h.dig
  have h1 : s = false := by
    cases s
    · rfl
    · exfalso; unfold nv at hv; simp at hv; omega
  refine ⟨h1, ?_⟩
  rcases Nat.eq_zero_or_pos D.length with e | e
  · exfalso; rw [List.length_eq_zero_iff.1 e, nv_nil] at hv; omega
  · exact e
theorem cmp_lit {w : World} {p p' : Option Addr} {c c' : Nat} {l l' : List Int} {s s' : Bool} {x y a : Int} {n m : Nat} (h : Nu n w s p c l x) (k : Nu m w s' p' c' l' y) (hn : n ≤ 100000) (hm : m ≤ 100000) (ha : sgn x y = a) :
    Calls Tryd.prog 27 #[.agg #[.bool s, .slice p l.length c], .agg #[.bool s', .slice p' l'.length c']] w fun e w' => e = .returned (.int .i64 a) ∧ Below w.heap.size w w' := by
  rw [← ha]
  exact cmp_nu h k hn hm
theorem rw_three {w : World} {n : Nat} (hn : w.heap.size = n) (b1 b2 b3 : Value) (p1 p2 p3 : Option Addr) (n1 n2 n3 c1 c2 c3 : Nat) : Rw (w.alloc (.cells #[b1, .slice p1 n1 c1, b2, .slice p2 n2 c2, b3, .slice p3 n3 c3] 24)) n 0 [n1, n2, n3] := by
  subst hn
  refine ⟨fun i hi => ?_⟩
  have e := heap_new w (.cells #[b1, .slice p1 n1 c1, b2, .slice p2 n2 c2, b3, .slice p3 n3 c3] 24)
  unfold World.cell?
  rw [e]
  have hi' : i < 3 := hi
  rcases (show i = 0 ∨ i = 1 ∨ i = 2 by omega) with rfl | rfl | rfl
  · exact ⟨p1, c1, rfl⟩
  · exact ⟨p2, c2, rfl⟩
  · exact ⟨p3, c3, rfl⟩
theorem rw_two {w : World} {n : Nat} (hn : w.heap.size = n) (b1 b2 : Value) (p1 p2 : Option Addr) (n1 n2 c1 c2 : Nat) : Rw (w.alloc (.cells #[b1, .slice p1 n1 c1, b2, .slice p2 n2 c2] 24)) n 0 [n1, n2] := by
  subst hn
  refine ⟨fun i hi => ?_⟩
  have e := heap_new w (.cells #[b1, .slice p1 n1 c1, b2, .slice p2 n2 c2] 24)
  unfold World.cell?
  rw [e]
  have hi' : i < 2 := hi
  rcases (show i = 0 ∨ i = 1 by omega) with rfl | rfl
  · exact ⟨p1, c1, rfl⟩
  · exact ⟨p2, c2, rfl⟩
theorem rw_one {w : World} {n : Nat} (hn : w.heap.size = n) (b1 : Value) (p1 : Option Addr) (n1 c1 : Nat) : Rw (w.alloc (.cells #[b1, .slice p1 n1 c1] 24)) n 0 [n1] := by
  subst hn
  refine ⟨fun i hi => ?_⟩
  have e := heap_new w (.cells #[b1, .slice p1 n1 c1] 24)
  unfold World.cell?
  rw [e]
  have hi' : i < 1 := hi
  obtain rfl : i = 0 := by omega
  exact ⟨p1, c1, rfl⟩
theorem same_true {w : World} {p p' : Option Addr} {c c' : Nat} {l m : List Int} {s s' : Bool} {x y : Int} (h1 : Nm w s p c l x) (h2 : Nm w s' p' c' m y) (k1 : Bg.Can 65536 s l) (k2 : Bg.Can 65536 s' m) (e : x = y) :
    Calls Tryd.prog 37 #[.agg #[.bool s, .slice p l.length c], .agg #[.bool s', .slice p' m.length c']] w fun e w' => e = .returned (.bool true) ∧ Below w.heap.size w w' := by
  have := same_nm h1 h2 k1 k2
  rw [decide_eq_true e] at this
  exact this
def long (L : List Nat) : Bool := L.any fun n => decide (60 < n)
theorem long_three {a b c : Nat} (h : long [a, b, c] = false) : a ≤ 60 ∧ b ≤ 60 ∧ c ≤ 60 := by
  unfold long at h
  rw [List.any_eq_false] at h
  have h1 := h a (by simp)
  have h2 := h b (by simp)
  have h3 := h c (by simp)
  rw [decide_eq_true_eq] at h1 h2 h3
  omega
theorem long_two {a b : Nat} (h : long [a, b] = false) : a ≤ 60 ∧ b ≤ 60 := by
  unfold long at h
  rw [List.any_eq_false] at h
  have h1 := h a (by simp)
  have h2 := h b (by simp)
  rw [decide_eq_true_eq] at h1 h2
  omega
theorem long_one {a : Nat} (h : long [a] = false) : a ≤ 60 := by
  unfold long at h
  rw [List.any_eq_false] at h
  have h1 := h a (by simp)
  rw [decide_eq_true_eq] at h1
  omega
end Go.Proofs.YtihgefllmkicaaaDoor
