/- An argument that is an instruction: its five numbers; no place in memory. Conditions: none. -/
import Derived.Test.YtmgheeldoadnhaaDoorLiftA
import Derived.Carry
namespace Go.Proofs.YtmgheeldoadnhaaDoor
open Go.ChangeShapes Go.WideShapes Go.RowKit

set_option maxRecDepth 100000
theorem isize27 : Tryd.prog.cellsOf 27 = 5 := by kernel_rfl
theorem isize3 : Tryd.prog.cellsOf 3 = 1 := by kernel_rfl
theorem inst_open {H : Type} {enc : TypeId × Value → H} {w : World} {base : Nat} {sp : Nat → Bool} {held : Bool} {r : Reach} {b0 : Nat} {v : Value} {d : DataW H} {p : List MemPlace}
    (hv : Value.okWide Tryd.prog w r b0 27 v) (h : DataW.Trod enc Tryd.prog w base sp held 27 v d p) :
    ∃ op dd a b imm : Int, v = .agg #[.int .i64 op, .int .i64 dd, .int .i64 a, .int .i64 b, .int .i64 imm] ∧ p = [] := by
  obtain ⟨cs, rfl, hsz⟩ := okWide_struct Tryd.underlying27 hv
  obtain ⟨l⟩ := cs
  match l, hsz.trans isize27 with
  | [c0, c1, c2, c3, c4], _ =>
    obtain ⟨fuel, hf⟩ := h
    obtain ⟨xs, n, _, hx, _, hlen, hg⟩ := DataW.trod_struct Tryd.underlying27 hf
    simp only [Prod.mk.injEq] at hx
    match xs, hlen with
    | [y0, y1, y2, y3, y4], _ =>
      have g0 : DataW.trod enc Tryd.prog w base sp held n 3 ((List.drop 0 [c0, c1, c2, c3, c4]).take (Tryd.prog.cellsOf 3)) = some y0 := hg 0 _ rfl
      have g1 : DataW.trod enc Tryd.prog w base sp held n 3 ((List.drop 1 [c0, c1, c2, c3, c4]).take (Tryd.prog.cellsOf 3)) = some y1 := hg 1 _ rfl
      have g2 : DataW.trod enc Tryd.prog w base sp held n 3 ((List.drop 2 [c0, c1, c2, c3, c4]).take (Tryd.prog.cellsOf 3)) = some y2 := hg 2 _ rfl
      have g3 : DataW.trod enc Tryd.prog w base sp held n 3 ((List.drop 3 [c0, c1, c2, c3, c4]).take (Tryd.prog.cellsOf 3)) = some y3 := hg 3 _ rfl
      have g4 : DataW.trod enc Tryd.prog w base sp held n 3 ((List.drop 4 [c0, c1, c2, c3, c4]).take (Tryd.prog.cellsOf 3)) = some y4 := hg 4 _ rfl
      rw [isize3] at g0 g1 g2 g3 g4
      obtain ⟨n0, e0, f0, _⟩ := DataW.trod_int Tryd.underlying3 g0
      obtain ⟨n1, e1, f1, _⟩ := DataW.trod_int Tryd.underlying3 g1
      obtain ⟨n2, e2, f2, _⟩ := DataW.trod_int Tryd.underlying3 g2
      obtain ⟨n3, e3, f3, _⟩ := DataW.trod_int Tryd.underlying3 g3
      obtain ⟨n4, e4, f4, _⟩ := DataW.trod_int Tryd.underlying3 g4
      refine ⟨n0, n1, n2, n3, n4, ?_, ?_⟩
      · have k0 : [c0] = [Value.int .i64 n0] := e0
        have k1 : [c1] = [Value.int .i64 n1] := e1
        have k2 : [c2] = [Value.int .i64 n2] := e2
        have k3 : [c3] = [Value.int .i64 n3] := e3
        have k4 : [c4] = [Value.int .i64 n4] := e4
        rw [List.cons.inj k0 |>.1, List.cons.inj k1 |>.1, List.cons.inj k2 |>.1, List.cons.inj k3 |>.1, List.cons.inj k4 |>.1]
      · rw [hx.2, f0, f1, f2, f3, f4]
        rfl
theorem laidOut : laidOutB Tryd.prog = true := by kernel_rfl
theorem readable27 : Tryd.prog.readableRec 27 = true := by kernel_rfl
theorem row27 : 27 < Tryd.prog.types.size := of_decide_eq_true (by kernel_rfl)
end Go.Proofs.YtmgheeldoadnhaaDoor
