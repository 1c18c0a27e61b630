/- Contracts: what the machine's small functions answer. Conditions: the machine lies as told. -/
import Derived.Test.YtknnmacmohpanaaDoorMaC
import Derived.Outline
import Derived.Deep.QuietTactic
import Derived.BigQuiet
import Derived.Deep.Light
import Derived.StillTailTactics
import Derived.LaidEqlPtr
namespace Go.Proofs.YtknnmacmohpanaaDoor
open Go.RowKit

theorem MRep.c0 {base : Nat} {w : World} {l : Lay} {m : MS} (h : MRep base w l m) : w.cell? ⟨l.M, 0, none⟩ = some (.pointer (some ⟨l.M, 0, none⟩)) := cellV h.mac 0 (by decide) rfl
theorem MRep.cr {base : Nat} {w : World} {l : Lay} {m : MS} (h : MRep base w l m) (i : Nat) (hi : i < 32) : w.cell? ⟨l.M, 1 + i, none⟩ = some (.int .u32 (m.regs i)) := cellV h.mac (1 + i) (by omega) (by unfold mcell; rw [if_neg (by omega), if_pos (by omega)]; congr 2; omega)
theorem MRep.c33 {base : Nat} {w : World} {l : Lay} {m : MS} (h : MRep base w l m) : w.cell? ⟨l.M, 33, none⟩ = some (.int .u32 m.size) := cellV h.mac 33 (by decide) rfl
theorem MRep.c34 {base : Nat} {w : World} {l : Lay} {m : MS} (h : MRep base w l m) : w.cell? ⟨l.M, 34, none⟩ = some (.slice (some ⟨l.G, 0, none⟩) 1 1) := cellV h.mac 34 (by decide) rfl
theorem MRep.c35 {base : Nat} {w : World} {l : Lay} {m : MS} (h : MRep base w l m) : w.cell? ⟨l.M, 35, none⟩ = some (.int .u32 m.place) := cellV h.mac 35 (by decide) rfl
theorem MRep.c36 {base : Nat} {w : World} {l : Lay} {m : MS} (h : MRep base w l m) : w.cell? ⟨l.M, 36, none⟩ = some (.int .i64 m.state) := cellV h.mac 36 (by decide) rfl
theorem MRep.c37 {base : Nat} {w : World} {l : Lay} {m : MS} (h : MRep base w l m) : w.cell? ⟨l.M, 37, none⟩ = some (.int .u32 m.code) := cellV h.mac 37 (by decide) rfl
theorem MRep.c38 {base : Nat} {w : World} {l : Lay} {m : MS} (h : MRep base w l m) : w.cell? ⟨l.M, 38, none⟩ = some (.int .i64 m.trap) := cellV h.mac 38 (by decide) rfl
theorem MRep.c39 {base : Nat} {w : World} {l : Lay} {m : MS} (h : MRep base w l m) : w.cell? ⟨l.M, 39, none⟩ = some (.int .i64 m.steps) := cellV h.mac 39 (by decide) rfl
theorem MRep.c40 {base : Nat} {w : World} {l : Lay} {m : MS} (h : MRep base w l m) : w.cell? ⟨l.M, 40, none⟩ = some l.vi := cellV h.mac 40 (by decide) rfl
theorem MRep.c41 {base : Nat} {w : World} {l : Lay} {m : MS} (h : MRep base w l m) : w.cell? ⟨l.M, 41, none⟩ = some l.vo := cellV h.mac 41 (by decide) rfl

theorem info66 : (Tryd.prog.info? 66).isSome = true := by kernel_rfl
theorem eqM (M : Nat) (w : World) : (binOp .eql 26 (.pointer (some ⟨M, 0, none⟩)) (.pointer (some ⟨M, 0, none⟩))).run Tryd.prog w = .ok (.bool true) w := by
  obtain ⟨j, hj⟩ := Option.isSome_iff_exists.1 info66
  exact run_eql_ptr_same (te := 66) _ _ Tryd.underlying26 hj

set_option maxRecDepth 100000 in
set_option maxHeartbeats 1000000 in
theorem made_at (M : Nat) (w : World) (c0 : w.cell? ⟨M, 0, none⟩ = some (.pointer (some ⟨M, 0, none⟩))) :
    Calls Tryd.prog 35 #[.pointer (some ⟨M, 0, none⟩)] w fun e w' => e = .returned (.bool true) ∧ w = w' := by
  have he := eqM M
  go_enter Tryd.func35, Tryd.ntmps35
  go_wp2
  go_ret
  exact ⟨rfl, rfl⟩

set_option maxRecDepth 100000 in
set_option maxHeartbeats 1000000 in
theorem isReg_any (i : Int) (w : World) : Calls Tryd.prog 39 #[.int .i64 i] w fun e w' => e = .returned (.bool (decide (0 ≤ i ∧ i < 32))) ∧ w = w' := by
  by_cases h0 : 0 ≤ i
  · have H : Hid (decide (0 ≤ i ∧ i < 32) = decide (i < 32)) := by unfold Hid; simp [h0]
    rw [H.out]
    go_enter Tryd.func39, Tryd.ntmps39
    go_wp2
    go_ret
    exact ⟨rfl, rfl⟩
  · have H : Hid (decide (0 ≤ i ∧ i < 32) = false) := by unfold Hid; simp [h0]
    rw [H.out]
    have h1 : decide (0 ≤ i) = false := by simpa using h0
    go_enter Tryd.func39, Tryd.ntmps39
    go_wp2
    go_ret
    exact ⟨rfl, rfl⟩

set_option maxRecDepth 100000 in
set_option maxHeartbeats 1000000 in
theorem isAddr_any (M size : Nat) (at' : Int) (w : World) (hs : size ≤ 1024) (c33 : w.cell? ⟨M, 33, none⟩ = some (.int .u32 size)) : Calls Tryd.prog 37 #[.pointer (some ⟨M, 0, none⟩), .int .i64 at'] w fun e w' => e = .returned (.bool (decide (0 ≤ at' ∧ at' < size))) ∧ w = w' := by
  by_cases h0 : 0 ≤ at'
  · have H : Hid (decide (0 ≤ at' ∧ at' < size) = decide (at' < size)) := by unfold Hid; simp [h0]
    rw [H.out]
    go_enter Tryd.func37, Tryd.ntmps37
    go_wp2
    go_ret
    exact ⟨rfl, rfl⟩
  · have H : Hid (decide (0 ≤ at' ∧ at' < size) = false) := by unfold Hid; simp [h0]
    rw [H.out]
    have h1 : decide (0 ≤ at') = false := by simpa using h0
    go_enter Tryd.func37, Tryd.ntmps37
    go_wp2
    go_ret
    exact ⟨rfl, rfl⟩
end Go.Proofs.YtknnmacmohpanaaDoor
