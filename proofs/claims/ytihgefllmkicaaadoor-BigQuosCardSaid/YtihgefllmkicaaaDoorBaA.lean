/- Contracts: parts of a number joined. Conditions: the parts lie as told. -/
import Derived.Test.YtihgefllmkicaaaDoorBgL
import Derived.Lib.AppendZeros
namespace Go.Proofs.YtihgefllmkicaaaDoor
open Go.RowKit Bg
set_option linter.unusedVariables false
set_option linter.unusedSimpArgs false


/-- Slices of digits, as values. -/
structure Parts (C : Nat) (w : World) (vs : List Value) (Ls : List (List Int)) : Prop where
  len : vs.length = Ls.length
  at_ : ∀ i, i < vs.length → Own 52 .u16 C w (vs.getD i undef) (Ls.getD i [])
theorem Parts.below {C : Nat} {w w' : World} {vs : List Value} {Ls : List (List Int)} (h : Parts C w vs Ls) (hb : Below w.heap.size w w') : Parts C w' vs Ls :=
  ⟨h.len, fun i hi => (h.at_ i hi).below hb⟩
theorem Parts.nil (C : Nat) (w : World) : Parts C w [] [] := ⟨rfl, fun i hi => absurd hi (Nat.not_lt_zero _)⟩
theorem Parts.snoc {C : Nat} {w : World} {vs : List Value} {Ls : List (List Int)} (h : Parts C w vs Ls) {v : Value} {L : List Int} (a : Own 52 .u16 C w v L) : Parts C w (vs ++ [v]) (Ls ++ [L]) := by
  refine ⟨by rw [List.length_append, List.length_append, h.len]; rfl, fun i hi => ?_⟩
  rw [List.length_append] at hi
  have hi' : i < vs.length + 1 := hi
  by_cases h1 : i < vs.length
  · have e1 : (vs ++ [v]).getD i undef = vs.getD i undef := by
      simp only [List.getD_eq_getElem?_getD]; rw [List.getElem?_append_left h1]
    have e2 : (Ls ++ [L]).getD i [] = Ls.getD i [] := by
      simp only [List.getD_eq_getElem?_getD]; rw [List.getElem?_append_left (by rw [← h.len]; exact h1)]
    rw [e1, e2]
    exact h.at_ i h1
  · have hz : i = vs.length := by omega
    subst hz
    have e1 : (vs ++ [v]).getD vs.length undef = v := by
      simp only [List.getD_eq_getElem?_getD]; rw [List.getElem?_append_right (Nat.le_refl _), Nat.sub_self]; rfl
    have e2 : (Ls ++ [L]).getD vs.length [] = L := by
      simp only [List.getD_eq_getElem?_getD]; rw [h.len, List.getElem?_append_right (Nat.le_refl _), Nat.sub_self]; rfl
    rw [e1, e2]
    exact a
theorem own_kinds {w : World} {B B' t t' m m' n n' : Nat} {v v' : Value} {xs ys : List Value} (h : w.ownsRow B t m v n xs) (k : w.ownsRow B' t' m' v' n' ys) (hne : t ≠ t') : v.ownBlock = none ∨ v.ownBlock ≠ v'.ownBlock := by
  rcases h.2 with ⟨rfl, -⟩ | ⟨g, cap, cur, rfl, -, hg, -⟩
  · exact Or.inl rfl
  · rcases k.2 with ⟨rfl, -⟩ | ⟨g', cap', cur', rfl, -, hg', -⟩
    · exact Or.inr (by simp [Value.ownBlock])
    · refine Or.inr (fun e => ?_)
      have e' : g = g' := by simpa [Value.ownBlock] using e
      subst e'
      rw [hg] at hg'
      simp only [Option.some.injEq, Obj.cells.injEq] at hg'
      exact hne hg'.2.1
/-- An own row of slices. -/
def RowS (B : Nat) (w : World) (v : Value) (vs : List Value) : Prop := w.ownsRow B 22 1 v vs.length vs
theorem RowS.nil (B : Nat) (w : World) : RowS B w (.slice none 0 0) [] := World.ownsRow_nil _ _ _ _
theorem RowS.below {B : Nat} {w w' : World} {v : Value} {vs : List Value} (h : RowS B w v vs) (hb : Below w.heap.size w w') : RowS B w' v vs := by
  rcases h.2 with h0 | ⟨g, cap, cur, hv, hB, hg, hcap, hmax, hcs, htake⟩
  · exact ⟨h.1, Or.inl h0⟩
  · exact ⟨h.1, Or.inr ⟨g, cap, cur, hv, hB, (hb.block g (lt_block hg)).trans hg, hcap, hmax, hcs, htake⟩⟩
theorem RowS.base {B B' : Nat} {w : World} {v : Value} {vs : List Value} (h : RowS B w v vs) (hB : B' ≤ B) : RowS B' w v vs := by
  rcases h.2 with h0 | ⟨g, cap, cur, hv, hBg, hr⟩
  · exact ⟨h.1, Or.inl h0⟩
  · exact ⟨h.1, Or.inr ⟨g, cap, cur, hv, Nat.le_trans hB hBg, hr⟩⟩
theorem RowS.form {B : Nat} {w : World} {v : Value} {vs : List Value} (h : RowS B w v vs) : ∃ p c, v = .slice p vs.length c ∧ (0 < vs.length → ∃ g, p = some ⟨g, 0, none⟩ ∧ B ≤ g ∧ g < w.heap.size ∧ ∀ i, i < vs.length → w.cell? ⟨g, i, none⟩ = some (vs.getD i undef)) := by
  rcases h.2 with ⟨rfl, h0⟩ | ⟨g, cap, cur, rfl, hB, hg, hcap, hmax, hcs, htake⟩
  · rw [h0]; exact ⟨none, 0, rfl, fun h => absurd h (Nat.lt_irrefl _)⟩
  · refine ⟨_, cap, rfl, fun _ => ⟨g, rfl, hB, lt_block hg, fun i hi => ?_⟩⟩
    rw [World.ownsRow.cellAt h i (by omega), List.getD_eq_getElem?_getD, List.getElem?_eq_getElem hi]
    rfl
theorem infoS : ∃ i, Tryd.prog.info? 22 = some i ∧ i.zero = some (.slice none 0 0) ∧ i.size = 1 ∧ i.bytes = 24 := by
  have h : (Tryd.prog.info? 22).map (fun i => (i.zero, i.size, i.bytes)) = some (some (.slice none 0 0), 1, 24) := by kernel_rfl
  obtain ⟨i, hi, hx⟩ := Option.map_eq_some_iff.1 h
  simp only [Prod.mk.injEq] at hx
  exact ⟨i, hi, hx⟩
/-- One slice, appended. -/
theorem app_slice {w : World} {B : Nat} {v : Value} {vs : List Value} {p : Option Addr} {n c : Nat} (h : RowS B w v vs) (hm : vs.length + 1 ≤ 1000000000) (hB : B ≤ w.heap.size) :
    ∃ v' w', (Builtin.append_ #[88, 88] 88 #[v, .slice (some ⟨w.heap.size, 0, none⟩) 1 1]).run Tryd.prog (w.alloc (.cells #[.slice p n c] 22)) = .ok v' w' ∧ RowS B w' v' (vs ++ [.slice p n c]) ∧ (w.alloc (.cells #[.slice p n c] 22)).grownBy w' v.ownBlock ∧ Below B w w' := by
  obtain ⟨i0, hi, hz0, hz1, hz2⟩ := infoS
  have hb : Below B w (w.alloc (.cells #[.slice p n c] 22)) := (Below.refl _ _).alloc hB _
  obtain ⟨v', w', hr, h1, h2, -⟩ := run_append_own (P := Tryd.prog) (w.alloc (.cells #[.slice p n c] 22)) B 88 88 22 i0 (.slice none 0 0) 1 24 Tryd.underlying88 hi hz0 hz1 hz2 rfl (by decide) v vs.length vs (World.ownsRow.alloc h _) ⟨w.heap.size, 0, none⟩ 1 1 [.slice p n c] rfl (fun j u hu => by
    have hj : j = 0 := by have := (List.getElem?_eq_some_iff.1 hu).1; have h1 : j < 1 := this; omega
    subst hj
    have e := heap_new w (.cells #[.slice p n c] 22)
    rw [add_at]
    unfold World.cell?
    rw [e]
    exact hu) (fun u hu => by rw [List.mem_singleton.1 hu]; rfl) (by unfold maxLen; omega) (by omega) (by simp; omega)
  refine ⟨v', w', hr, ?_, h2, hb.grown h2 (by simp; omega) (fun q hq => (World.ownsRow.lt h q hq).1)⟩
  unfold RowS
  rw [List.length_append]
  exact h1
/-- Parts stay where a row of slices grows. -/
theorem Parts.kept {C : Nat} {w w' : World} {B : Nat} {v : Value} {us vs : List Value} {Ls : List (List Int)} {o : Obj} (h : Parts C w vs Ls) (hr : RowS B w v us) (hg : (w.alloc o).grownBy w' v.ownBlock) : Parts C w' vs Ls :=
  ⟨h.len, fun i hi => by
    have h1 := (h.at_ i hi).alloc o
    exact World.ownsRow.kept h1 hg (own_kinds h1 (World.ownsRow.alloc hr o) (by decide))⟩
/-- Parts' worth, each one x times the one ahead. -/
def tot (R x : Int) : List (List Int) → Int
  | [] => 0
  | L :: r => val R L + x * tot R x r
theorem tot_app (R x : Int) : ∀ (a b : List (List Int)), tot R x (a ++ b) = tot R x a + x ^ a.length * tot R x b
  | [], b => by show tot R x b = 0 + x ^ 0 * tot R x b; rw [Int.pow_zero]; omega
  | L :: r, b => by
    show val R L + x * tot R x (r ++ b) = val R L + x * tot R x r + x ^ (r.length + 1) * tot R x b
    rw [tot_app R x r b, Int.mul_add, Int.pow_succ, Int.mul_comm (x ^ r.length) x, Int.mul_assoc]; omega
theorem tot_drop (R x : Int) (Ls : List (List Int)) {i : Nat} (hi : i < Ls.length) : tot R x (Ls.drop i) = val R (Ls.getD i []) + x * tot R x (Ls.drop (i + 1)) := by
  rw [List.drop_eq_getElem_cons hi, List.getD_eq_getElem?_getD, List.getElem?_eq_getElem hi]
  rfl
theorem tot_none (R x : Int) (Ls : List (List Int)) {i : Nat} (hi : Ls.length ≤ i) : tot R x (Ls.drop i) = 0 := by
  rw [List.drop_eq_nil_of_le hi]; rfl
end Go.Proofs.YtihgefllmkicaaaDoor
