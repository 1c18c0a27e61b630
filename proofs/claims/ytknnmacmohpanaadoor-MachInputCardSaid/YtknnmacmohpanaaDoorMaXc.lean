/- An argument that is a slice of numbers. Conditions: none. -/
import Derived.Test.YtknnmacmohpanaaDoorMaXb
namespace Go.Proofs.YtknnmacmohpanaaDoor
open Go.ChangeShapes Go.WideShapes Go.RowKit
set_option linter.unusedVariables false
set_option linter.unusedSimpArgs false

set_option maxRecDepth 100000 in
theorem slice_open {H : Type} {enc : TypeId × Value → H} {w : World} {base : Nat} {sp : Nat → Bool} {held : Bool} {r : Reach} {b0 : Nat} {t e : TypeId} {k : IntKind} {v : Value} {d : DataW H} {p : List MemPlace} (ht : Tryd.prog.underlying t = some (.slice e)) (he : Tryd.prog.underlying e = some (.int k)) (hc : Tryd.prog.cellsOf e = 1)
    (hv : Value.okWide Tryd.prog w r b0 t v) (h : DataW.Trod enc Tryd.prog w base sp held t v d p) :
    ∃ (p : Option Addr) (c : Nat) (xs : List Int), v = .slice p xs.length c ∧ Arg k w p c xs ∧ ∀ n ∈ xs, (Lit.int k n).wf = true := by
  obtain ⟨a, len, cap, rfl⟩ := okWide_slice ht hv
  obtain ⟨fuel, hf⟩ := h
  obtain ⟨p, c, xs, e0, ha, hw⟩ := arg_open ht he hc hf
  have k0 : [Value.slice a len cap] = [Value.slice p xs.length c] := e0
  exact ⟨p, c, xs, (List.cons.inj k0).1, ha, hw⟩
end Go.Proofs.YtknnmacmohpanaaDoor
