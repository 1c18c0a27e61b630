/- An argument that is a number. Conditions: none. -/
import Derived.Test.YtihgefllmkicaaaDoorBaL
import Derived.Test.YtihgefllmkicaaaDoorBbA
import Derived.Carry
import Derived.ChangeSlices
namespace Go.Proofs.YtihgefllmkicaaaDoor
open Go.ChangeShapes Go.WideShapes Go.RowKit Bg
set_option linter.unusedVariables false
set_option linter.unusedSimpArgs false

set_option maxRecDepth 100000
theorem csize24 : Tryd.prog.cellsOf 24 = 2 := by kernel_rfl
theorem csize22 : Tryd.prog.cellsOf 22 = 1 := by kernel_rfl
theorem csize52 : Tryd.prog.cellsOf 52 = 1 := by kernel_rfl
theorem csize4 : Tryd.prog.cellsOf 4 = 1 := by kernel_rfl
theorem arg_open {H : Type} {enc : TypeId × Value → H} {w : World} {base : Nat} {sp : Nat → Bool} {held : Bool} {t e : TypeId} {k : IntKind} {fuel : Nat} {cs : List Value} {x : DataW H × List MemPlace} (ht : Tryd.prog.underlying t = some (.slice e)) (he : Tryd.prog.underlying e = some (.int k)) (hc : Tryd.prog.cellsOf e = 1)
    (h : DataW.trod enc Tryd.prog w base sp held fuel t cs = some x) :
    ∃ (p : Option Addr) (c : Nat) (xs : List Int), cs = [.slice p xs.length c] ∧ Arg k w p c xs ∧ ∀ n ∈ xs, (Lit.int k n).wf = true := by
  rcases open_ints ht he hc h with ⟨hcs, -⟩ | ⟨a, len, cap, zs, hcs, -, hle, hmx, hzl, -, hcell, hwf⟩
  · exact ⟨none, 0, [], hcs, Arg.nothing _ _, fun n hn => by cases hn⟩
  · have hz : len ≤ zs.length := by rw [hzl]; split <;> omega
    have hl : (zs.take len).length = len := by rw [List.length_take]; omega
    refine ⟨some a, cap, zs.take len, by rw [hl]; exact hcs, ⟨(fun h => by cases h), by omega, by unfold maxLen at hmx; omega, fun j hj => ?_⟩, fun n hn => hwf n (List.mem_of_mem_take hn)⟩
    have hj2 : j < len := by omega
    obtain ⟨b, off, spot⟩ := a
    have h0 := hcell j (by omega)
    have hs : spot = none := by
      have h00 := hcell 0 (by omega)
      simpa [Addr.add] using World.cell?_spot h00
    subst hs
    refine ⟨b, off, rfl, ?_⟩
    rw [add_at] at h0
    rw [h0]
    simp [List.getD, List.getElem?_take, hj2]
theorem num_arg {H : Type} {enc : TypeId × Value → H} {w : World} {base : Nat} {sp : Nat → Bool} {held : Bool} {r : Reach} {b0 : Nat} {v : Value} {d : DataW H} {p : List MemPlace}
    (hv : Value.okWide Tryd.prog w r b0 24 v) (h : DataW.Trod enc Tryd.prog w base sp held 24 v d p) :
    ∃ (s : Bool) (q : Option Addr) (c : Nat) (l : List Int), v = .agg #[.bool s, .slice q l.length c] ∧ Nm w s q c l (nv 65536 s l) := by
  obtain ⟨cs, rfl, hsz⟩ := okWide_struct Tryd.underlying24 hv
  obtain ⟨l⟩ := cs
  match l, hsz.trans csize24 with
  | [c0, c1], _ =>
    obtain ⟨fuel, hf⟩ := h
    obtain ⟨xs, n, _, hx, _, hlen, hg⟩ := DataW.trod_struct Tryd.underlying24 hf
    match xs, hlen with
    | [y0, y1], _ =>
      have g0 : DataW.trod enc Tryd.prog w base sp held n 4 ((List.drop 0 [c0, c1]).take (Tryd.prog.cellsOf 4)) = some y0 := hg 0 _ rfl
      have g1 : DataW.trod enc Tryd.prog w base sp held n 22 ((List.drop 1 [c0, c1]).take (Tryd.prog.cellsOf 22)) = some y1 := hg 1 _ rfl
      rw [csize4] at g0
      rw [csize22] at g1
      obtain ⟨b, e0, -⟩ := DataW.trod_bool Tryd.underlying4 g0
      obtain ⟨q, c, ws, e1, a1, r1⟩ := arg_open Tryd.underlying22 Tryd.underlying52 csize52 g1
      refine ⟨b, q, c, ws, ?_, a1, ?_, rfl⟩
      · have k0 : [c0] = [Value.bool b] := e0
        have k1 : [c1] = [Value.slice q ws.length c] := e1
        rw [List.cons.inj k0 |>.1, List.cons.inj k1 |>.1]
      · intro x hx; have := bounds_u16 (r1 x hx); omega
theorem readable24 : Tryd.prog.readableRec 24 = true := by kernel_rfl
theorem row24 : 24 < Tryd.prog.types.size := of_decide_eq_true (by kernel_rfl)
end Go.Proofs.YtihgefllmkicaaaDoor
