/- An argument that is a setting, or bytes. Conditions: none. -/
import Derived.Test.YtknnmacmohpanaaDoorMaX
import Derived.Test.YtknnmacmohpanaaDoorMaY
import Derived.Carry
import Derived.ChangeSlices
namespace Go.Proofs.YtknnmacmohpanaaDoor
open Go.ChangeShapes Go.WideShapes Go.RowKit
set_option linter.unusedVariables false
set_option linter.unusedSimpArgs false

set_option maxRecDepth 100000
theorem isize25 : Tryd.prog.cellsOf 25 = 4 := by kernel_rfl
theorem isize22 : Tryd.prog.cellsOf 22 = 1 := by kernel_rfl
theorem isize23 : Tryd.prog.cellsOf 23 = 1 := by kernel_rfl
theorem isize3 : Tryd.prog.cellsOf 3 = 1 := by kernel_rfl
theorem isize38 : Tryd.prog.cellsOf 38 = 1 := by kernel_rfl
theorem isize5 : Tryd.prog.cellsOf 5 = 1 := by kernel_rfl
theorem arg_open {H : Type} {enc : TypeId × Value → H} {w : World} {base : Nat} {sp : Nat → Bool} {held : Bool} {t e : TypeId} {k : IntKind} {fuel : Nat} {cs : List Value} {x : DataW H × List MemPlace} (ht : Tryd.prog.underlying t = some (.slice e)) (he : Tryd.prog.underlying e = some (.int k)) (hc : Tryd.prog.cellsOf e = 1)
    (h : DataW.trod enc Tryd.prog w base sp held fuel t cs = some x) :
    ∃ (p : Option Addr) (c : Nat) (xs : List Int), cs = [.slice p xs.length c] ∧ Arg k w p c xs ∧ ∀ n ∈ xs, (Lit.int k n).wf = true := by
  rcases open_ints ht he hc h with ⟨hcs, -⟩ | ⟨a, len, cap, zs, hcs, -, hle, hmx, hzl, -, hcell, hwf⟩
  · exact ⟨none, 0, [], hcs, ⟨fun _ => ⟨rfl, rfl⟩, Nat.le_refl _, by decide, fun j u hj => by simp at hj⟩, fun n hn => by cases hn⟩
  · have hz : len ≤ zs.length := by rw [hzl]; split <;> omega
    have hl : (zs.take len).length = len := by rw [List.length_take]; omega
    refine ⟨some a, cap, zs.take len, by rw [hl]; exact hcs, ⟨(fun h => by cases h), by omega, by unfold maxLen at hmx; omega, fun j u hj => ⟨a, rfl, ?_⟩⟩, fun n hn => hwf n (List.mem_of_mem_take hn)⟩
    have hj2 : j < len := by
      have := (List.getElem?_eq_some_iff.1 hj).1
      rw [List.length_map] at this
      omega
    rw [hcell j (by omega), ← hj, List.getElem?_map, List.getElem?_take, if_pos hj2, List.getD_eq_getElem?_getD, List.getElem?_eq_getElem (by omega)]
    rfl
theorem setting_open {H : Type} {enc : TypeId × Value → H} {w : World} {base : Nat} {sp : Nat → Bool} {held : Bool} {r : Reach} {b0 : Nat} {v : Value} {d : DataW H} {p : List MemPlace}
    (hv : Value.okWide Tryd.prog w r b0 25 v) (h : DataW.Trod enc Tryd.prog w base sp held 25 v d p) :
    ∃ (pw pi pr : Option Addr) (cw ci cr : Nat) (size : Int) (ws is rs : List Int), v = .agg #[.slice pw ws.length cw, .int .i64 size, .slice pi is.length ci, .slice pr rs.length cr] ∧
      Arg .u32 w pw cw ws ∧ Arg .u8 w pi ci is ∧ Arg .u32 w pr cr rs ∧ (∀ x ∈ ws, 0 ≤ x ∧ x < 4294967296) ∧ (∀ x ∈ is, 0 ≤ x ∧ x < 256) ∧ ∀ x ∈ rs, 0 ≤ x ∧ x < 4294967296 := by
  obtain ⟨cs, rfl, hsz⟩ := okWide_struct Tryd.underlying25 hv
  obtain ⟨l⟩ := cs
  match l, hsz.trans isize25 with
  | [c0, c1, c2, c3], _ =>
    obtain ⟨fuel, hf⟩ := h
    obtain ⟨xs, n, _, hx, _, hlen, hg⟩ := DataW.trod_struct Tryd.underlying25 hf
    match xs, hlen with
    | [y0, y1, y2, y3], _ =>
      have g0 : DataW.trod enc Tryd.prog w base sp held n 22 ((List.drop 0 [c0, c1, c2, c3]).take (Tryd.prog.cellsOf 22)) = some y0 := hg 0 _ rfl
      have g1 : DataW.trod enc Tryd.prog w base sp held n 3 ((List.drop 1 [c0, c1, c2, c3]).take (Tryd.prog.cellsOf 3)) = some y1 := hg 1 _ rfl
      have g2 : DataW.trod enc Tryd.prog w base sp held n 23 ((List.drop 2 [c0, c1, c2, c3]).take (Tryd.prog.cellsOf 23)) = some y2 := hg 2 _ rfl
      have g3 : DataW.trod enc Tryd.prog w base sp held n 22 ((List.drop 3 [c0, c1, c2, c3]).take (Tryd.prog.cellsOf 22)) = some y3 := hg 3 _ rfl
      rw [isize22] at g0 g3
      rw [isize3] at g1
      rw [isize23] at g2
      obtain ⟨n1, e1, -, -⟩ := DataW.trod_int Tryd.underlying3 g1
      obtain ⟨pw, cw, ws, e0, a0, r0⟩ := arg_open Tryd.underlying22 Tryd.underlying38 isize38 g0
      obtain ⟨pi, ci, is, e2, a2, r2⟩ := arg_open Tryd.underlying23 Tryd.underlying5 isize5 g2
      obtain ⟨pr, cr, rs, e3, a3, r3⟩ := arg_open Tryd.underlying22 Tryd.underlying38 isize38 g3
      refine ⟨pw, pi, pr, cw, ci, cr, n1, ws, is, rs, ?_, a0, a2, a3, ?_, ?_, ?_⟩
      · have k0 : [c0] = [Value.slice pw ws.length cw] := e0
        have k1 : [c1] = [Value.int .i64 n1] := e1
        have k2 : [c2] = [Value.slice pi is.length ci] := e2
        have k3 : [c3] = [Value.slice pr rs.length cr] := e3
        rw [List.cons.inj k0 |>.1, List.cons.inj k1 |>.1, List.cons.inj k2 |>.1, List.cons.inj k3 |>.1]
      · intro x hx; have := bounds_u32 (r0 x hx); omega
      · intro x hx; have := bounds_u8 (r2 x hx); omega
      · intro x hx; have := bounds_u32 (r3 x hx); omega
theorem readable25 : Tryd.prog.readableRec 25 = true := by kernel_rfl
theorem row25 : 25 < Tryd.prog.types.size := of_decide_eq_true (by kernel_rfl)
theorem readable23 : Tryd.prog.readableRec 23 = true := by kernel_rfl
theorem row23 : 23 < Tryd.prog.types.size := of_decide_eq_true (by kernel_rfl)
end Go.Proofs.YtknnmacmohpanaaDoor
