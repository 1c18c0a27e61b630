/- Contracts: the closure of Decode. Conditions: its two captured variables are blocks of their own. -/
import Derived.Test.YticleblhmkikaaaDoorIsaWc
namespace Go.Proofs.YticleblhmkikaaaDoor
open Go.RowKit

theorem two_of' {L V : Nat} {x y x0 y0 : Value} {tx ty : Nat} {w : World} (hne : L ≠ V) (cL : w.heap[L]? = some (.cells #[x0] tx (0, 0))) (cV : w.heap[V]? = some (.cells #[y0] ty (0, 0))) :
    Two L V x y tx ty w ((w.setCell ⟨L, 0, none⟩ x).setCell ⟨V, 0, none⟩ y) :=
  let t := two_of (x := x) (y := y) hne cL cV
  ⟨t.os, t.tape, t.output, t.size, t.first, t.second, t.other⟩

set_option maxRecDepth 100000 in
set_option maxHeartbeats 1000000 in
theorem take_any (k : Nat) (left v : Int) (A L : Nat) (w : World) (hne : A ≠ L) (h1 : k ≤ 32) (l0 : 0 ≤ left) (l1 : left ≤ 32) (v0 : 0 ≤ v) (v1 : v < 4294967296)
    (cA : w.heap[A]? = some (.cells #[.int .u32 v] 42 (0, 0))) (cL : w.heap[L]? = some (.cells #[.int .i64 left] 3 (0, 0))) :
    Calls Tryd.prog 43 #[.int .i64 k, .pointer (some ⟨A, 0, none⟩), .pointer (some ⟨L, 0, none⟩)] w fun e w' => e = .returned (.int .i64 (v / (2 : Int) ^ (32 - k))) ∧
      Two A L (.int .u32 (v * (2 : Int) ^ k % 4294967296)) (.int .i64 (left - k)) 42 3 w w' := by
  have H := Lib.hid (And.intro cA cL)
  have gA := cell_of_one cA
  have gL := cell_of_one cL
  have fA := free_of_one cA
  have fL := free_of_one cL
  clear cA cL
  go_enter Tryd.func43, Tryd.ntmps43
  go_wp2
  go_ret
  have e0 : 0 ≤ v / (2 : Int) ^ (32 - k) := Int.ediv_nonneg v0 (Int.le_of_lt (Int.pow_pos (by decide)))
  have e1 : v / (2 : Int) ^ (32 - k) ≤ v := Int.ediv_le_self _ v0
  refine ⟨ret_int (IntWalk.wrap64_in _ (by omega)), two_of' hne H.out.1 H.out.2⟩

theorem take_num (k : Nat) (ki left lo v v2 r : Int) (A L : Nat) (w : World) (hne : A ≠ L) (h1 : k ≤ 32) (hk : ki = k) (l0 : 0 ≤ left) (l1 : left ≤ 32) (hlo : lo = left - ki) (v0 : 0 ≤ v) (v1 : v < 4294967296)
    (hr : r = v / (2 : Int) ^ (32 - k)) (hv2 : v2 = v * (2 : Int) ^ k % 4294967296)
    (cA : w.heap[A]? = some (.cells #[.int .u32 v] 42 (0, 0))) (cL : w.heap[L]? = some (.cells #[.int .i64 left] 3 (0, 0))) :
    Calls Tryd.prog 43 #[.int .i64 ki, .pointer (some ⟨A, 0, none⟩), .pointer (some ⟨L, 0, none⟩)] w fun e w' => e = .returned (.int .i64 r) ∧
      Two A L (.int .u32 v2) (.int .i64 lo) 42 3 w w' := by
  subst hk hlo hr hv2
  exact take_any k left v A L w hne h1 l0 l1 v0 v1 cA cL
end Go.Proofs.YticleblhmkikaaaDoor
