/- What every row's proof wants: the start that fits, what the row lists, and arguments that are slices of numbers. Conditions: none. -/
import Derived.Test.YtgnnkfdpfmlajaaDoorUtJ
import Derived.Test.YtgnnkfdpfmlajaaDoorRows
import Derived.Lib.LaidU8T
import Derived.Lay
import Derived.Stop.LaidErr
import Derived.OpenShut
import Derived.ChangeArms
import Derived.ChangeSame
import Derived.ProofKit
import Derived.LaidMore
import Derived.Stop.Joined
import Derived.Carry
import Derived.ChangeSlices
import Derived.LaidOnce
namespace Go.Proofs.YtgnnkfdpfmlajaaDoor
open Go.ChangeShapes Go.WideShapes Go.ChangeAt Go.RowKit Bg
set_option linter.unusedVariables false
set_option linter.unusedSimpArgs false

set_option maxRecDepth 100000
abbrev laidAll : List (String × DataW Unit) := [("unicode/utf8.acceptRanges", Rows.laid_unicode_utf8_acceptRanges), ("unicode/utf8.first", Rows.laid_unicode_utf8_first)]
theorem own : ownKnob Tryd.prog.godebug = none := by kernel_rfl
theorem met_laid (os : Os) (args : Array Value) : laidMetH Tryd.prog laidAll ((World.laidAll Tryd.prog os laidAll).forCall (fun _ _ => 0) ⟨#[], args, []⟩).memory := by
  rw [MakeChecks.laidMetH_plain _ _ _ (by kernel_rfl)]
  exact laidMet_laidAll _ (by kernel_rfl) (by kernel_rfl)
def tren : Go.Shelf.Ren := ⟨fun n => n, fun | 119 => 98 | 138 => 101 | 139 => 102 | n => n, fun | 3 => 1 | 4 => 2 | n => n⟩
theorem ttypes : Go.Proofs.U8Types Tryd.prog tren := ⟨Tryd.underlying5, Tryd.underlying98, Tryd.underlying101, Tryd.underlying102⟩
theorem textra : Go.Proofs.U8Extra Tryd.prog tren := ⟨by kernel_rfl, by kernel_rfl, by kernel_rfl, by kernel_rfl, by kernel_rfl, by kernel_rfl, by kernel_rfl⟩
theorem first_eq : Rows.laid_unicode_utf8_first = Lib.firstData := by kernel_rfl
theorem accept_eq : (Rows.laid_unicode_utf8_acceptRanges : DataW Unit) = Lib.acceptData := by kernel_rfl
theorem tab_of_laid {W : World} (hL : laidMetH Tryd.prog laidAll W) : Tab W := by
  rw [MakeChecks.laidMetH_plain _ _ _ (by kernel_rfl)] at hL
  have h1 := Lib.laidMet.reads hL (.head _)
  have h2 := Lib.laidMet.reads hL (.tail _ (.head _))
  rw [accept_eq] at h1
  rw [first_eq] at h2
  have h : Lib.Utf8Tabs 1 2 W := utf8Tabs_of_readsT (ρ := tren) ttypes textra h2 h1
  exact ⟨⟨World.block_lt_of_cell? W _ (h.1 0 (by decide)), World.block_lt_of_cell? W _ (h.2 0 (by decide)).1⟩, h⟩
theorem laidOut : laidOutB Tryd.prog = true := by kernel_rfl
theorem csize5 : Tryd.prog.cellsOf 5 = 1 := by kernel_rfl
theorem csize3 : Tryd.prog.cellsOf 3 = 1 := by kernel_rfl
theorem readable22 : Tryd.prog.readableRec 22 = true := by kernel_rfl
theorem row22 : 22 < Tryd.prog.types.size := of_decide_eq_true (by kernel_rfl)
theorem arg_open {H : Type} {enc : TypeId × Value → H} {w : World} {base : Nat} {sp : Nat → Bool} {held : Bool} {t e : TypeId} {k : IntKind} {fuel : Nat} {cs : List Value} {x : DataW H × List MemPlace} (ht : Tryd.prog.underlying t = some (.slice e)) (he : Tryd.prog.underlying e = some (.int k)) (hc : Tryd.prog.cellsOf e = 1)
    (h : DataW.trod enc Tryd.prog w base sp held fuel t cs = some x) :
    ∃ (p : Option Addr) (c : Nat) (xs : List Int), cs = [.slice p xs.length c] ∧ Arg k w p c xs ∧ ∀ n ∈ xs, (Lit.int k n).wf = true := by
  rcases open_ints ht he hc h with ⟨hcs, -⟩ | ⟨a, len, cap, zs, hcs, -, hle, hmx, hzl, -, hcell, hwf⟩
  · exact ⟨none, 0, [], hcs, Arg.nothing _ _, fun n hn => by cases hn⟩
  · have hz : len ≤ zs.length := by rw [hzl]; split <;> omega
    have hl : (zs.take len).length = len := by rw [List.length_take]; omega
    refine ⟨some a, cap, zs.take len, by rw [hl]; exact hcs, ⟨(fun h => by cases h), by omega, by unfold maxLen at hmx; omega, fun j hj => ?_⟩, fun n hn => hwf n (List.mem_of_mem_take hn)⟩
    have hj2 : j < len := by omega
    obtain ⟨b, off, spot⟩ := a
    have h0 := hcell j (by omega)
    have hs : spot = none := by
      have h00 := hcell 0 (by omega)
      simpa [Addr.add] using World.cell?_spot h00
    subst hs
    refine ⟨b, off, rfl, ?_⟩
    rw [add_at] at h0
    rw [h0]
    simp [List.getD, List.getElem?_take, hj2]
theorem slice_open {H : Type} {enc : TypeId × Value → H} {w : World} {base : Nat} {sp : Nat → Bool} {held : Bool} {r : Reach} {b0 : Nat} {t e : TypeId} {k : IntKind} {v : Value} {d : DataW H} {p : List MemPlace} (ht : Tryd.prog.underlying t = some (.slice e)) (he : Tryd.prog.underlying e = some (.int k)) (hc : Tryd.prog.cellsOf e = 1)
    (hv : Value.okWide Tryd.prog w r b0 t v) (h : DataW.Trod enc Tryd.prog w base sp held t v d p) :
    ∃ (p : Option Addr) (c : Nat) (xs : List Int), v = .slice p xs.length c ∧ Arg k w p c xs ∧ ∀ n ∈ xs, (Lit.int k n).wf = true := by
  obtain ⟨a, len, cap, rfl⟩ := okWide_slice ht hv
  obtain ⟨fuel, hf⟩ := h
  obtain ⟨p, c, xs, e0, ha, hw⟩ := arg_open ht he hc hf
  have k0 : [Value.slice a len cap] = [Value.slice p xs.length c] := e0
  exact ⟨p, c, xs, (List.cons.inj k0).1, ha, hw⟩
theorem bytes_open {H : Type} {enc : TypeId × Value → H} {w : World} {base : Nat} {sp : Nat → Bool} {held : Bool} {r : Reach} {b0 : Nat} {v : Value} {d : DataW H} {p : List MemPlace}
    (hv : Value.okWide Tryd.prog w r b0 22 v) (h : DataW.Trod enc Tryd.prog w base sp held 22 v d p) :
    ∃ (p : Option Addr) (c : Nat) (xs : List Int), v = .slice p xs.length c ∧ Arg .u8 w p c xs ∧ Byts xs := by
  obtain ⟨p, c, xs, e, ha, hw⟩ := slice_open Tryd.underlying22 Tryd.underlying5 csize5 hv h
  exact ⟨p, c, xs, e, ha, fun x hx => by have := hw x hx; simp [Lit.wf, IntKind.min, IntKind.max, IntKind.signed, IntKind.bits] at this; omega⟩
end Go.Proofs.YtgnnkfdpfmlajaaDoor
