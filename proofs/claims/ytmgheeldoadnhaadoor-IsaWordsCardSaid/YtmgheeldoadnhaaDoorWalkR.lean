/- The walk of IsaOnce. Conditions: the tables are as laid. -/
import Derived.Test.YtmgheeldoadnhaaDoorWalkL
import Derived.Deep.RegionWith
namespace Go.Proofs.YtmgheeldoadnhaaDoor
open Go.RowKit

theorem Env2.drew {w : World} (h : Env2 w) : Env2 w.drew := h.below (Below.refl _ _).drew

set_option maxRecDepth 100000 in
set_option maxHeartbeats 8000000 in
theorem once_bad (op d a b imm : Int) (w : World) (h : Env2 w) (ho : Isa.ok op d a b imm = false) :
    Calls Tryd.prog 8 #[.agg #[.int .i64 op, .int .i64 d, .int .i64 a, .int .i64 b, .int .i64 imm]] w fun e w' => e = .returned (.bool true) ∧ Below w.heap.size w w' := by
  have H := Lib.hid ho
  clear ho
  go_enter Tryd.func8, Tryd.ntmps8
  go_wp2_with fail
  refine (encode_bad _ _ _ _ _ _ (h.alloc _).toEnv H.out).mono ?_
  rintro e w1 ⟨rfl, hb⟩
  have hb0 := (Below.alloc (Below.refl w.heap.size w) (Nat.le_refl _) (.cells #[.int .i64 op, .int .i64 d, .int .i64 a, .int .i64 b, .int .i64 imm] 27)).trans (hb.mono (by simp))
  have hI := Lib.hid ((hb.block w.heap.size (by simp)).trans (heap_new w (.cells #[.int .i64 op, .int .i64 d, .int .i64 a, .int .i64 b, .int .i64 imm] 27)))
  obtain ⟨c0, c1, c2, c3, c4⟩ := cells5 hI.out
  clear hb
  go_wp2_with fail
  refine (never_any _ _ _ _ _ _ (h.below hb0) H.out).mono ?_
  rintro e w2 ⟨rfl, hb⟩
  replace hb0 := hb0.trans (hb.mono hb0.size)
  clear hb c0 c1 c2 c3 c4
  go_wp2_with fail
  refine (awake_any _ (h.below hb0)).mono ?_
  rintro e w3 ⟨rfl, hb⟩
  go_wp2_with fail
  go_ret
  exact ⟨rfl, hb0.trans (hb.mono hb0.size)⟩

set_option maxRecDepth 100000 in
set_option maxHeartbeats 2000000 in
theorem once_ok (op d a b imm : Int) (w : World) (h : Env2 w) (ho : Isa.ok op d a b imm = true) :
    Calls Tryd.prog 8 #[.agg #[.int .i64 op, .int .i64 d, .int .i64 a, .int .i64 b, .int .i64 imm]] w fun e w' => e = .returned (.bool true) ∧ Below w.heap.size w w' := by
  have H := Lib.hid ho
  clear ho
  go_enter Tryd.func8, Tryd.ntmps8
  go_wp2_with fail
  refine (encode_any _ _ _ _ _ _ (h.alloc _).toEnv H.out).mono ?_
  rintro e w1 ⟨rfl, hb⟩
  have hb0 := (Below.alloc (Below.refl w.heap.size w) (Nat.le_refl _) (.cells #[.int .i64 op, .int .i64 d, .int .i64 a, .int .i64 b, .int .i64 imm] 27)).trans (hb.mono (by simp))
  have hI := Lib.hid ((hb.block w.heap.size (by simp)).trans (heap_new w (.cells #[.int .i64 op, .int .i64 d, .int .i64 a, .int .i64 b, .int .i64 imm] 27)))
  obtain ⟨c0, c1, c2, c3, c4⟩ := cells5 hI.out
  clear hb
  go_wp2_with fail
  go_region_with (first
    | (go_at_call 21; refine (text_ok op d a b imm _ (h.below (by first | exact hb0.drew | exact hb0)) H.out).mono ?_; rintro e w2 ⟨rfl, hb2⟩; have hbx : Below w.heap.size w w2 := hb0.drew.trans (hb2.mono hb0.drew.size); have hIx := Lib.hid ((hb2.block w.heap.size (show _ < w1.drew.heap.size from lt_of_block hI.out)).trans hI.out); obtain ⟨d0, d1, d2, d3, d4⟩ := cells5 hIx.out)
    | (go_at_call 27; refine (is_true op d a b imm _ _ _ (h.below hbx) H.out rfl rfl).mono ?_; rintro e w3 ⟨rfl, hb3⟩; have hby : Below w.heap.size w w3 := hbx.trans (hb3.mono hbx.size))
    | (go_at_call 17; refine (awake_any _ (h.below hby)).mono ?_; rintro e w4 ⟨rfl, hb4⟩; have hbz : Below w.heap.size w w4 := hby.trans (hb4.mono hby.size)))
  all_goals
    go_wp2_with fail
    go_ret
    exact ⟨rfl, hbz⟩

theorem once_any (op d a b imm : Int) (w : World) (h : Env2 w) :
    Calls Tryd.prog 8 #[.agg #[.int .i64 op, .int .i64 d, .int .i64 a, .int .i64 b, .int .i64 imm]] w fun e w' => e = .returned (.bool true) ∧ Below w.heap.size w w' := by
  cases ho : Isa.ok op d a b imm
  · exact once_bad op d a b imm w h ho
  · exact once_ok op d a b imm w h ho
end Go.Proofs.YtmgheeldoadnhaaDoor
