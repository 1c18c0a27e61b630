/- What every row's proof wants: the start that fits, and what the row lists. Conditions: none. -/
import Derived.Test.YtbplmbignalbgaaDoorIsaWa
import Derived.Test.YtbplmbignalbgaaDoorRows
import Derived.Stop.LaidErr
import Derived.OpenShut
import Derived.ChangeArms
import Derived.ChangeSame
import Derived.ProofKit
import Derived.LaidMore
import Derived.Stop.Joined
namespace Go.Proofs.YtbplmbignalbgaaDoor
open Go.ChangeShapes Go.WideShapes Go.ChangeAt Go.RowKit

abbrev laidAll : List (String × DataW Unit) := [("pennant/isa.shapes", Rows.laid_pennant_isa_shapes)]
theorem gShp : Tryd.prog.globalNamed "pennant/isa.shapes" = some 0 := by kernel_rfl
theorem gShpT : (Tryd.prog.globals[0]?).map (·.type) = some 115 := by kernel_rfl
theorem csize89 : Tryd.prog.cellsOf 114 = 4 := by kernel_rfl
theorem csize87 : Tryd.prog.cellsOf 112 = 3 := by kernel_rfl
theorem csize4 : Tryd.prog.cellsOf 4 = 1 := by kernel_rfl
theorem cell_bool {W : World} {fuel t n i : Nat} {cs : List Value} {ds : List (DataW Unit)} {p : List MemPlace} {b : Bool} {enc : TypeId × Value → Unit} {base : Nat} {sp : Nat → Bool} {held : Bool} (ht : Tryd.prog.underlying t = some (.array n 4)) (h : DataW.trod enc Tryd.prog W base sp held fuel t cs = some (.agg ds, p))
    (hi : i < n) (hd : ds[i]? = some (.lit (.bool b))) : cs[i]? = some (.bool b) := by
  obtain ⟨xs, m, rfl, hx, hlen, hn, hel⟩ := DataW.trod_array ht h
  simp only [Prod.mk.injEq, DataW.agg.injEq] at hx
  have hi' := hel i hi
  rw [csize4, Nat.mul_one] at hi'
  obtain ⟨x, hxi⟩ : ∃ x, xs[i]? = some x := ⟨xs[i]'(by omega), List.getElem?_eq_getElem (by omega)⟩
  rw [hxi] at hi'
  obtain ⟨c, hb, hxe⟩ := DataW.trod_bool Tryd.underlying4 hi'
  have e1 : (xs.map (·.1))[i]? = some x.1 := by rw [List.getElem?_map, hxi]; rfl
  rw [← hx.1, hd, hxe] at e1
  simp only [Option.some.injEq, DataW.lit.injEq, Lit.bool.injEq] at e1
  have e2 : (List.take 1 (List.drop i cs))[0]? = cs[i]? := by simp [List.getElem?_drop]
  rw [hb] at e2
  rw [← e2, e1]
  rfl
theorem shape_data : ∀ f : Fin 8, (match (Rows.laid_pennant_isa_shapes : DataW Unit) with | .agg ds => ds[f.val]? | _ => none) = some (.agg [.agg [.lit (.bool (Isa.shape f.val 0)), .lit (.bool (Isa.shape f.val 1)), .lit (.bool (Isa.shape f.val 2))], .lit (.bool (Isa.shape f.val 3))]) := by
  intro f
  match f with
  | ⟨f, hf⟩ => rcases (show f = 0 ∨ f = 1 ∨ f = 2 ∨ f = 3 ∨ f = 4 ∨ f = 5 ∨ f = 6 ∨ f = 7 by omega) with rfl | rfl | rfl | rfl | rfl | rfl | rfl | rfl <;> rfl
/-- The cells of the forms' table. -/
theorem shapes_of_laid {W : World} {r : List (String × DataW Unit)} (h : laidMet Tryd.prog (("pennant/isa.shapes", Rows.laid_pennant_isa_shapes) :: r) W) : ∀ f j, f < 8 → j < 4 → W.cell? ⟨0, f * 4 + j, none⟩ = some (.bool (Isa.shape f j)) := by
  obtain ⟨ps, ⟨g0, t0, cs0, f0, p0, q0, hg0, ht0, hv0, hd0, _, _⟩, _, _⟩ := h
  obtain rfl := Option.some.inj (gShp.symm.trans hg0)
  obtain rfl := Option.some.inj (gShpT.symm.trans ht0)
  intro f j hf hj
  have hc := World.var?_cell gShp hv0 (f * 4 + j)
  rw [hc]
  obtain ⟨xs, m, rfl, hx, hlen, hn, hel⟩ := DataW.trod_array Tryd.underlying115 hd0
  have hf' := hel f hf
  rw [csize89] at hf'
  obtain ⟨x, hxi⟩ : ∃ x, xs[f]? = some x := ⟨xs[f]'(by omega), List.getElem?_eq_getElem (by omega)⟩
  rw [hxi] at hf'
  have hsd := shape_data ⟨f, hf⟩
  have hxd : x.1 = .agg [.agg [.lit (.bool (Isa.shape f 0)), .lit (.bool (Isa.shape f 1)), .lit (.bool (Isa.shape f 2))], .lit (.bool (Isa.shape f 3))] := by
    have hh : (Rows.laid_pennant_isa_shapes : DataW Unit) = .agg (xs.map (·.1)) := congrArg Prod.fst hx
    rw [hh] at hsd
    have e1 : (xs.map (·.1))[f]? = some x.1 := by rw [List.getElem?_map, hxi]; rfl
    simp only at hsd
    rw [e1] at hsd
    exact Option.some.inj hsd
  obtain ⟨y0, y1, k, hxe, hl4, h0, h1⟩ := trod_struct2 Tryd.underlying114 hf'
  rw [hxe] at hxd
  simp only [DataW.agg.injEq, List.cons.injEq, and_true] at hxd
  obtain ⟨hy0, hy1⟩ := hxd
  have hslice : ∀ j, j < 4 → (List.take 4 (List.drop (f * 4) cs0.toList))[j]? = cs0[f * 4 + j]? := by
    intro j hj
    simp [List.getElem?_drop, hj]
  rw [← hslice j hj]
  obtain ⟨L, hL⟩ : ∃ L, L = List.take 4 (List.drop (f * 4) cs0.toList) := ⟨_, rfl⟩
  rw [← hL] at h0 h1 ⊢
  obtain ⟨a0, b0⟩ := y0
  obtain ⟨a1, b1⟩ := y1
  simp only at hy0 hy1
  subst hy0 hy1
  by_cases h3 : j < 3
  · have hb : ([.lit (.bool (Isa.shape f 0)), .lit (.bool (Isa.shape f 1)), .lit (.bool (Isa.shape f 2))] : List (DataW Unit))[j]? = some (.lit (.bool (Isa.shape f j))) := by
      rcases (show j = 0 ∨ j = 1 ∨ j = 2 by omega) with rfl | rfl | rfl <;> rfl
    have := cell_bool Tryd.underlying112 h0 h3 hb
    simp only [csize87, List.drop_zero, List.getElem?_take, h3, if_true] at this
    exact this
  · have h3' : j = 3 := by omega
    subst h3'
    obtain ⟨c, hc1, hc2⟩ := DataW.trod_bool Tryd.underlying4 h1
    simp only [csize4] at hc1
    simp only [Prod.mk.injEq, DataW.lit.injEq, Lit.bool.injEq] at hc2
    have e2 : (List.take 1 (List.drop 3 L))[0]? = L[3]? := by simp
    rw [hc1] at e2
    rw [← e2, hc2.1]
    rfl

theorem size_of {W : World} (hL : laidMet Tryd.prog laidAll W) : 0 < W.heap.size := by
  obtain ⟨ps, ⟨g0, t0, cs0, f0, p0, q0, hg0, ht0, hv0, hd0, _, _⟩, _, _⟩ := hL
  obtain rfl := Option.some.inj (gShp.symm.trans hg0)
  unfold World.var? at hv0
  rw [gShp] at hv0
  simp only [Option.bind_some] at hv0
  rcases Nat.lt_or_ge 0 W.heap.size with h | h
  · exact h
  · rw [Array.getElem?_eq_none h] at hv0
    cases hv0
theorem own : ownKnob Tryd.prog.godebug = none := by kernel_rfl
theorem door_met (os : Os) (args : Array Value) : laidMetH Tryd.prog laidAll ((World.doorLaid Tryd.prog 99 os).forCall (fun _ _ => 0) ⟨#[], args, []⟩).memory :=
  laidMetH_of_parts3 (fuel := 8) (laidMet_of_run' 8 (by kernel_rfl) (by kernel_rfl)) (by kernel_rfl) (by kernel_rfl)
theorem env_of_laid {W : World} (hL : laidMetH Tryd.prog laidAll W) : Env W := by
  rw [MakeChecks.laidMetH_plain _ _ _ (by kernel_rfl)] at hL
  exact ⟨shapes_of_laid hL, size_of hL⟩
theorem laidOut : laidOutB Tryd.prog = true := by kernel_rfl
end Go.Proofs.YtbplmbignalbgaaDoor
