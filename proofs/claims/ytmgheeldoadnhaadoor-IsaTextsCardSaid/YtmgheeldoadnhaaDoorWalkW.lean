/- The walk of IsaTexts. Conditions: the tables are as laid. -/
import Derived.Test.YtmgheeldoadnhaaDoorWalkP
import Derived.Test.YtmgheeldoadnhaaDoorRefN
namespace Go.Proofs.YtmgheeldoadnhaaDoor
open Go.RowKit

set_option maxRecDepth 100000 in
set_option maxHeartbeats 4000000 in
theorem texts_at (x0 x1 x2 x3 x4 er : Int) (v : ByteArray) (w : World) (h : Env2 w) (hv : v.size ≤ 1000)
    (ha : ∀ w, Env2 w → Calls Tryd.prog 25 #[.string v] w fun e w' => e = .returned (.tuple #[.agg #[.int .i64 x0, .int .i64 x1, .int .i64 x2, .int .i64 x3, .int .i64 x4], .int .i64 er]) ∧ Below w.heap.size w w')
    (hb : ∀ w, Calls Tryd.prog 26 #[.string v] w fun e w' => e = .returned (.tuple #[.agg #[.int .i64 x0, .int .i64 x1, .int .i64 x2, .int .i64 x3, .int .i64 x4], .int .i64 er]) ∧ Below w.heap.size w w') :
    Calls Tryd.prog 6 #[.string v] w fun e w' => e = .returned (.bool true) ∧ Below w.heap.size w w' := by
  have hv2 : (v.size : Int) ≤ 1000 := by omega
  have HA := Lib.hid ha
  have HB := Lib.hid hb
  clear ha hb
  go_enter Tryd.func6, Tryd.ntmps6
  go_wp2_with fail
  refine (HA.out _ h).mono ?_
  rintro e w1 ⟨rfl, hb⟩
  have hb2 := hb.alloc hb.size (.cells #[.int .i64 x0, .int .i64 x1, .int .i64 x2, .int .i64 x3, .int .i64 x4] 27)
  have hc2 := heap_new w1 (.cells #[.int .i64 x0, .int .i64 x1, .int .i64 x2, .int .i64 x3, .int .i64 x4] 27)
  have hz : w.heap.size ≤ w1.heap.size := hb.size
  clear hb
  go_wp2_with fail
  refine (HB.out _).mono ?_
  rintro e w2 ⟨rfl, hb⟩
  have hz2 : w1.heap.size < w2.heap.size := by have := hb.size; simp at this; omega
  have hc3 := (hb.block w1.heap.size (by simp)).trans hc2
  have hb3 := (hb2.trans (hb.mono (by simp; omega))).alloc (by omega) (.cells #[.int .i64 x0, .int .i64 x1, .int .i64 x2, .int .i64 x3, .int .i64 x4] 27)
  have hc4 := (Below.heap_alloc w2 (.cells #[.int .i64 x0, .int .i64 x1, .int .i64 x2, .int .i64 x3, .int .i64 x4] 27) w1.heap.size hz2).trans hc3
  have hc5 := heap_new w2 (.cells #[.int .i64 x0, .int .i64 x1, .int .i64 x2, .int .i64 x3, .int .i64 x4] 27)
  clear hb hb2 hc2 hc3
  obtain ⟨c0, c1, c2, c3, c4⟩ := cells5 hc4
  obtain ⟨d0, d1, d2, d3, d4⟩ := cells5 hc5
  have HC := Lib.hid hb3
  clear hc4 hc5 hb3
  go_wp2_with fail
  refine (awake_any _ (h.below HC.out)).mono ?_
  rintro e w3 ⟨rfl, hb⟩
  go_wp2_with fail
  go_ret
  exact ⟨rfl, HC.out.trans (hb.mono HC.out.size)⟩

set_option maxRecDepth 100000 in
set_option maxHeartbeats 4000000 in
theorem texts_long (v : ByteArray) (w : World) (h : Env2 w) (hm : v.size ≤ 9223372036854775807) (hv : 1000 < v.size) :
    Calls Tryd.prog 6 #[.string v] w fun e w' => e = .returned (.bool true) ∧ Below w.heap.size w w' := by
  have hv2 : (1000 : Int) < (v.size : Int) := by omega
  go_enter Tryd.func6, Tryd.ntmps6
  go_wp2_with fail
  refine (awake_any _ h).mono ?_
  rintro e w3 ⟨rfl, hb⟩
  go_wp2_with fail
  go_ret
  exact ⟨rfl, hb⟩

theorem texts_any (v : ByteArray) (w : World) (h : Env2 w) (hm : v.size ≤ 9223372036854775807) :
    Calls Tryd.prog 6 #[.string v] w fun e w' => e = .returned (.bool true) ∧ Below w.heap.size w w' := by
  by_cases hv : v.size ≤ 1000
  · cases hp : pOk v.data.toList
    · exact texts_at 0 0 0 0 0 11 v w h hv (fun w h => (parse_any v w h hv).mono fun e w' ⟨he, hb⟩ => ⟨par_out_bad hp he, hb⟩)
        (fun w => (rparse_any v w hv).mono fun e w' ⟨he, hb⟩ => ⟨par_out_bad hp he, hb⟩)
    · exact texts_at _ _ _ _ _ 0 v w h hv (fun w h => (parse_any v w h hv).mono fun e w' ⟨he, hb⟩ => ⟨par_out hp he, hb⟩)
        (fun w => (rparse_any v w hv).mono fun e w' ⟨he, hb⟩ => ⟨par_out hp he, hb⟩)
  · exact texts_long v w h hm (by omega)
end Go.Proofs.YtmgheeldoadnhaaDoor
