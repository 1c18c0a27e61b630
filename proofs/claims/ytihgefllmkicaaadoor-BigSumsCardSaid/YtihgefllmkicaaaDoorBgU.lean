/- Contracts: numbers of 64 bits, and back; tidy ones. Conditions: the digits lie as told. -/
import Derived.Test.YtihgefllmkicaaaDoorBgP
import Derived.Deep.RegionHeld3
import Derived.Deep.DeepCutAuto
import Derived.Deep.CutBlock
namespace Go.Proofs.YtihgefllmkicaaaDoor
open Go.RowKit Bg
set_option linter.unusedVariables false
set_option linter.unusedSimpArgs false


set_option maxRecDepth 100000 in
set_option maxHeartbeats 4000000 in
theorem of_at (n : Int) (hn : -9223372036854775808 ≤ n ∧ n < 9223372036854775808) (w : World) :
    Calls Tryd.prog 21 #[.int .i64 n] w fun e w' => ∃ v, e = .returned v ∧ IsNum w.heap.size w' v n ∧ Below w.heap.size w w' := by
  obtain ⟨W, hW⟩ : ∃ W, W = w.alloc (.cells #[.bool false, .slice none 0 0] 24) := ⟨_, rfl⟩
  have hB : Below w.heap.size w W := by rw [hW]; exact (Below.refl _ _).alloc (Nat.le_refl _) _
  have hbx : Box W w.heap.size (.bool false) (.slice none 0 0) := by rw [hW]; exact Box.fresh _ _ _ rfl
  have hS : W.heap.size = w.heap.size + 1 := by rw [hW]; simp
  obtain ⟨z, hz⟩ : ∃ z : Int, z = if n < 0 then -n else n := ⟨_, rfl⟩
  have hz0 : 0 ≤ z ∧ z < M64 := by rw [hz]; unfold M64; split <;> omega
  have hA : Arg .u64 (W.alloc (.cells #[.int .u64 z] 66)) (some ⟨W.heap.size, 0, none⟩) 1 [z] := ⟨fun h => (by cases h), Nat.le_refl _, by decide, fun i hi => ⟨W.heap.size, 0, rfl, by
    have hi0 : i = 0 := by have : i < 1 := hi; omega
    subst hi0
    have e := heap_new W (.cells #[.int .u64 z] 66)
    unfold World.cell?
    rw [e]
    rfl⟩⟩
  have C1 := Lib.hid (carried_at (R := 65536) hA (Dig.one hz0) (by simp) (by decide))
  have hv : val 65536 [z] = z := by show z + 65536 * 0 = z; omega
  obtain ⟨W2, hW2⟩ : ∃ W2, W2 = W.alloc (.cells #[.int .u64 z] 66) := ⟨_, rfl⟩
  rw [← hW2] at C1
  have hB2 : Below w.heap.size w W2 := by rw [hW2]; exact hB.alloc hB.size _
  have hx2 : Box W2 w.heap.size (.bool false) (.slice none 0 0) := by rw [hW2]; exact hbx.alloc _
  have hl2 : w.heap.size < W2.heap.size := by rw [hW2]; simp [hS]; omega
  rw [hS] at C1
  have C2 : Hid (Calls Tryd.prog 46 #[.slice (some ⟨w.heap.size + 1, 0, none⟩) 1 1, .int .u64 65536] W2 _) := C1
  rw [hv] at C2
  have HH := Lib.hid (And.intro hB2 (And.intro hx2 (And.intro hl2 hz)))
  rw [hW] at hW2
  clear hA hB hbx hS hv hB2 hx2 hl2 C1 hW
  go_enter Tryd.func21, Tryd.ntmps21
  by_cases h0 : n < 0
  · have d1 : decide (n < 0) = true := decide_eq_true h0
    have e1 : IntKind.u64.wrap (-IntKind.u64.wrap n) = z := by rw [wrapU, wrapU, hz, if_pos h0]; unfold M64; omega
    have HZ := Lib.hid (And.intro hz h0)
    clear hz
    go_wp2_with fail
    rw [← hW2]
    refine C2.out.mono ?_
    rintro e w3 ⟨v3, D, rfl, oD, dD, tD, vD, B3⟩
    obtain ⟨p3, c3, rfl, -, -⟩ := oD.arg
    have hx3 := HH.out.2.1.below B3
    have HX := Lib.hid (And.intro oD (And.intro dD (And.intro tD (And.intro vD (And.intro B3 hx3)))))
    clear oD dD tD vD B3 hx3 hW2 C2 hz0
    go_wp2_with fail
    obtain ⟨sg, hsg⟩ : ∃ sg, sg = (true && decide (0 < D.length)) := ⟨_, rfl⟩
    refine (signed_at _ _ _ _ _).mono ?_
    rintro e w4 ⟨rfl, B4⟩
    rw [← hsg]
    have HSG := Lib.hid hsg
    have hx4 := HX.out.2.2.2.2.2.below B4
    have k7 := Box.first hx4 (.bool sg)
    have k6 := (hx4.store (.bool sg) (.slice p3 D.length c3)).2
    have hf0 := hx4.f0
    have hf1 := hx4.f1
    have hc0 := hx4.c0
    have hc1 := hx4.c1
    have HX4 := Lib.hid (And.intro hx4 B4)
    clear hsg hx4 B4
    go_wp2_with fail
    refine bodyPost_ret (v := .agg #[.bool sg, .slice p3 D.length c3]) (by simp [results, Tryd.results21, go_sem, k6, k7]) rfl ⟨_, rfl, ?_, ?_⟩
    · rw [HSG.out]
      have hb4 : w.heap.size < W2.heap.size := HH.out.2.2.1
      have hn4 : ∀ e, Value.ownBlock (.slice p3 D.length c3) = some e → e ≠ w.heap.size := fun e he h => by have := (World.ownsRow.lt HX.out.1 _ he).1; omega
      refine (isNum_of ((((HX.out.1.below HX4.out.2).other (a := ⟨w.heap.size, 0, none⟩) _ (fun h => hn4 _ h rfl)).other (a := ⟨w.heap.size, 1, none⟩) _ (fun h => hn4 _ h rfl)).base (Nat.le_of_lt hb4)) HX.out.2.1 HX.out.2.2.1 ?_)
      have hzz := HZ.out.1
      have hh := HZ.out.2
      unfold nv
      rw [HX.out.2.2.2.1, hzz]
      first | (rw [if_pos rfl, if_pos hh]; omega) | (rw [if_neg (by decide), if_neg (by omega)])
    · have h2 := HH.out.1.trans ((HX.out.2.2.2.2.1.trans (HX4.out.2.mono HX.out.2.2.2.2.1.size)).mono HH.out.1.size)
      exact (h2.setCell (p := ⟨w.heap.size, 0, none⟩) (Nat.le_refl _) _).setCell (p := ⟨w.heap.size, 1, none⟩) (Nat.le_refl _) _
  · have d1 : decide (n < 0) = false := decide_eq_false h0
    have e1 : IntKind.u64.wrap n = z := by rw [wrapU, hz, if_neg h0]; unfold M64; omega
    have HZ := Lib.hid (And.intro hz h0)
    clear hz
    go_wp2_with fail
    rw [← hW2]
    refine C2.out.mono ?_
    rintro e w3 ⟨v3, D, rfl, oD, dD, tD, vD, B3⟩
    obtain ⟨p3, c3, rfl, -, -⟩ := oD.arg
    have hx3 := HH.out.2.1.below B3
    have HX := Lib.hid (And.intro oD (And.intro dD (And.intro tD (And.intro vD (And.intro B3 hx3)))))
    clear oD dD tD vD B3 hx3 hW2 C2 hz0
    go_wp2_with fail
    obtain ⟨sg, hsg⟩ : ∃ sg, sg = (false && decide (0 < D.length)) := ⟨_, rfl⟩
    refine (signed_at _ _ _ _ _).mono ?_
    rintro e w4 ⟨rfl, B4⟩
    rw [← hsg]
    have HSG := Lib.hid hsg
    have hx4 := HX.out.2.2.2.2.2.below B4
    have k7 := Box.first hx4 (.bool sg)
    have k6 := (hx4.store (.bool sg) (.slice p3 D.length c3)).2
    have hf0 := hx4.f0
    have hf1 := hx4.f1
    have hc0 := hx4.c0
    have hc1 := hx4.c1
    have HX4 := Lib.hid (And.intro hx4 B4)
    clear hsg hx4 B4
    go_wp2_with fail
    refine bodyPost_ret (v := .agg #[.bool sg, .slice p3 D.length c3]) (by simp [results, Tryd.results21, go_sem, k6, k7]) rfl ⟨_, rfl, ?_, ?_⟩
    · rw [HSG.out]
      have hb4 : w.heap.size < W2.heap.size := HH.out.2.2.1
      have hn4 : ∀ e, Value.ownBlock (.slice p3 D.length c3) = some e → e ≠ w.heap.size := fun e he h => by have := (World.ownsRow.lt HX.out.1 _ he).1; omega
      refine (isNum_of ((((HX.out.1.below HX4.out.2).other (a := ⟨w.heap.size, 0, none⟩) _ (fun h => hn4 _ h rfl)).other (a := ⟨w.heap.size, 1, none⟩) _ (fun h => hn4 _ h rfl)).base (Nat.le_of_lt hb4)) HX.out.2.1 HX.out.2.2.1 ?_)
      have hzz := HZ.out.1
      have hh := HZ.out.2
      unfold nv
      rw [HX.out.2.2.2.1, hzz]
      first | (rw [if_pos rfl, if_pos hh]; omega) | (rw [if_neg (by decide), if_neg (by omega)])
    · have h2 := HH.out.1.trans ((HX.out.2.2.2.2.1.trans (HX4.out.2.mono HX.out.2.2.2.2.1.size)).mono HH.out.1.size)
      exact (h2.setCell (p := ⟨w.heap.size, 0, none⟩) (Nat.le_refl _) _).setCell (p := ⟨w.heap.size, 1, none⟩) (Nat.le_refl _) _
end Go.Proofs.YtihgefllmkicaaaDoor
