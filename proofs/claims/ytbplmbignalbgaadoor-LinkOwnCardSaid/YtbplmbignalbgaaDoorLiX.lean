/- An argument that is a pair of bytes.  Conditions: none. -/
import Derived.Test.YtbplmbignalbgaaDoorAsCb
namespace Go.Proofs.YtbplmbignalbgaaDoor
open Go.ChangeShapes Go.WideShapes Go.RowKit Asm
set_option linter.unusedVariables false
set_option linter.unusedSimpArgs false
set_option maxRecDepth 100000

theorem bsize57 : Tryd.prog.cellsOf 57 = 2 := by kernel_rfl
theorem bsize5 : Tryd.prog.cellsOf 5 = 1 := by kernel_rfl
theorem pair_open {H : Type} {enc : TypeId × Value → H} {w : World} {base : Nat} {sp : Nat → Bool} {held : Bool} {r : Reach} {b0 : Nat} {v : Value} {d : DataW H} {p : List MemPlace}
    (hv : Value.okWide Tryd.prog w r b0 57 v) (h : DataW.Trod enc Tryd.prog w base sp held 57 v d p) :
    ∃ a0 a1 : Int, v = .agg #[.int .u8 a0, .int .u8 a1] ∧ (0 ≤ a0 ∧ a0 ≤ 255) ∧ (0 ≤ a1 ∧ a1 ≤ 255) := by
  simp only [Value.okWide, Tryd.underlying57] at hv
  obtain ⟨cs, rfl, hsz, -⟩ := hv
  obtain ⟨l⟩ := cs
  match l, hsz.trans bsize57 with
  | [c0, c1], _ =>
    obtain ⟨fuel, hf⟩ := h
    obtain ⟨xs, m, _, hx, _, hlen, hg⟩ := DataW.trod_array Tryd.underlying57 hf
    match xs, hlen with
    | [y0, y1], _ =>
      have g0 : DataW.trod enc Tryd.prog w base sp held m 5 ((List.drop (0 * Tryd.prog.cellsOf 5) [c0, c1]).take (Tryd.prog.cellsOf 5)) = some y0 := hg 0 (by decide)
      have g1 : DataW.trod enc Tryd.prog w base sp held m 5 ((List.drop (1 * Tryd.prog.cellsOf 5) [c0, c1]).take (Tryd.prog.cellsOf 5)) = some y1 := hg 1 (by decide)
      rw [bsize5] at g0 g1
      obtain ⟨n0, e0, -, w0⟩ := DataW.trod_int Tryd.underlying5 g0
      obtain ⟨n1, e1, -, w1⟩ := DataW.trod_int Tryd.underlying5 g1
      have k0 : [c0] = [Value.int .u8 n0] := e0
      have k1 : [c1] = [Value.int .u8 n1] := e1
      exact ⟨n0, n1, by rw [List.cons.inj k0 |>.1, List.cons.inj k1 |>.1], bounds_u8 w0, bounds_u8 w1⟩
theorem readable57 : Tryd.prog.readableRec 57 = true := by kernel_rfl
theorem row57 : 57 < Tryd.prog.types.size := of_decide_eq_true (by kernel_rfl)
end Go.Proofs.YtbplmbignalbgaaDoor
