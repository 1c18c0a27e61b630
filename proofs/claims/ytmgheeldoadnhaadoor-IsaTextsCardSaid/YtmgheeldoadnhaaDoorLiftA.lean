/- What every row's proof wants: the start that fits, and what the row lists. Conditions: none. -/
import Derived.Test.YtmgheeldoadnhaaDoorWalkN
import Derived.ProofKit
import Derived.LaidMore
import Derived.OpenShut
import Derived.Stop.Joined
import Derived.Lib.Join
namespace Go.Proofs.YtmgheeldoadnhaaDoor
open Go.ChangeShapes Go.WideShapes Go.ChangeAt Go.RowKit
open Go.ChangeMaps (open_string shut_string)

theorem own : ownKnob Tryd.prog.godebug = none := by kernel_rfl
theorem door_met (os : Os) (args : Array Value) : laidMetH Tryd.prog laidAll ((World.doorLaid Tryd.prog 86 os).forCall (fun _ _ => 0) ⟨#[], args, []⟩).memory :=
  laidMetH_of_parts3 (fuel := 8) (laidMet_of_run' 8 (by kernel_rfl) (by kernel_rfl)) (by kernel_rfl) (by kernel_rfl)
theorem g64 : Tryd.prog.globalNamed "math/bits.deBruijn64tab" = some 7 := by kernel_rfl
theorem g64T : (Tryd.prog.globals[7]?).map (·.type) = some 120 := by kernel_rfl
theorem size_of {W : World} (hL : laidMet Tryd.prog laidAll W) : 8 ≤ W.heap.size := by
  obtain ⟨ps, ⟨g0, t0, cs0, f0, p0, q0, hg0, ht0, hv0, hd0, _, _⟩, _, _⟩ := hL.tail
  obtain rfl := Option.some.inj (g64.symm.trans hg0)
  unfold World.var? at hv0
  rw [g64] at hv0
  simp only [Option.bind_some] at hv0
  rcases Nat.lt_or_ge 7 W.heap.size with h | h
  · omega
  · rw [Array.getElem?_eq_none h] at hv0
    cases hv0
theorem env_of_laid {W : World} (hL : laidMetH Tryd.prog laidAll W) (hsh : W.ShapedOpen Tryd.prog) : Env2 W := by
  rw [MakeChecks.laidMetH_plain _ _ _ (by kernel_rfl)] at hL
  exact env_of hL hsh (size_of hL)

end Go.Proofs.YtmgheeldoadnhaaDoor
