/- Contracts: the answers that the chapter names. Conditions: the table lies. -/
import Derived.Test.YtihgefllmkicaaaDoorBbC
namespace Go.Proofs.YtihgefllmkicaaaDoor
open Go.RowKit Bg
set_option linter.unusedVariables false
set_option linter.unusedSimpArgs false


set_option maxRecDepth 100000 in
set_option maxHeartbeats 20000000 in
theorem awake_at {w : World} (ht : Tab w) : Calls Tryd.prog 11 #[] w fun e w' => e = .returned (.bool true) ∧ Below w.heap.size w w' := by
  have HT := Lib.hid ht
  clear ht
  go_enter Tryd.func11, Tryd.ntmps11
  go_wp2_with fail
  refine (parse_good (s := ⟨#[45, 48, 48, 48, 54, 53, 53, 51, 55]⟩) (x := -65537) (by decide) (by decide +kernel) (by decide +kernel) w).mono ?_
  rintro e w1 ⟨v, rfl, hn, B1⟩
  obtain ⟨sg, p, c, D, rfl, hN, hC, -⟩ := gives_of (n := 300) hn (by unfold Bnd; decide +kernel)
  obtain ⟨e1, e2⟩ := nv_inj (by decide) hC (can_lit (s := true) (l := [1, 1]) (by decide) (by decide)) (hN.val.trans (by decide))
  subst e1 e2
  rw [show ([1, 1] : List Int).length = 2 from rfl]
  obtain ⟨b, off, rfl, hc⟩ := hN.arg.at (by decide)
  have d0 := hc 0 (by decide)
  have d1 := hc 1 (by decide)
  rw [Nat.add_zero] at d0
  obtain ⟨W, hW⟩ : ∃ W, W = w1.alloc (.cells #[.bool true, .slice (some ⟨b, off, none⟩) 2 c] 24) := ⟨_, rfl⟩
  have X := Box.fresh w1 (.bool true) (.slice (some ⟨b, off, none⟩) 2 c) (n := w1.heap.size) rfl
  have BW : Below w1.heap.size w1 W := by rw [hW]; exact (Below.refl _ _).alloc (Nat.le_refl _) _
  rw [← hW] at X
  have k0 := X.c0
  have k1 := X.c1
  have k2 := (BW.cell (p := ⟨b, off, none⟩) (World.block_lt_of_cell? w1 _ d0)).trans d0
  have k3 := (BW.cell (p := ⟨b, off + 1, none⟩) (World.block_lt_of_cell? w1 _ d1)).trans d1
  rw [show ([1, 1] : List Int).getD 0 0 = 1 from rfl] at k2
  rw [show ([1, 1] : List Int).getD 1 0 = 1 from rfl] at k3
  have hNW := hN.below BW
  have HW := Lib.hid (And.intro hNW (And.intro ((HT.out.below B1).below BW) (B1.trans (BW.mono B1.size))))
  rw [hW] at k0 k1 k2 k3
  clear hC hN hc d0 d1 X BW B1 hNW hn
  go_wp2_with fail
  rw [← hW]
  clear hW
  refine (is_true HW.out.1 (by decide) HW.out.2.1 _ txt_1).mono ?_
  rintro e w2 ⟨rfl, B2⟩
  have H2 := Lib.hid (And.intro (HW.out.2.1.below B2) (HW.out.2.2.trans (B2.mono HW.out.2.2.size)))
  clear k0 k1 k2 k3 B2
  go_wp2_with fail
  refine (num_nu (x := 65535) (by decide) (by decide +kernel) (by decide +kernel) 2 (by unfold Bnd; decide +kernel) w2).mono ?_
  rintro e w3 ⟨⟨s3, p3, c3, D3, rfl, n3, -, -⟩, B3⟩
  have H3 := Lib.hid (And.intro n3 (And.intro (H2.out.1.below B3) (H2.out.2.trans (B3.mono H2.out.2.size))))
  clear n3 B3
  go_wp2_with fail
  refine (num_nu (x := 65537) (by decide) (by decide +kernel) (by decide +kernel) 2 (by unfold Bnd; decide +kernel) w3).mono ?_
  rintro e w4 ⟨⟨s4, p4, c4, D4, rfl, n4, -, -⟩, B4⟩
  have H4 := Lib.hid (And.intro (H3.out.1.below B4) (And.intro n4 (And.intro (H3.out.2.1.below B4) (H3.out.2.2.trans (B4.mono H3.out.2.2.size)))))
  clear n4 B4
  go_wp2_with fail
  refine (mul_nu H4.out.1 H4.out.2.1 (by decide) (by decide)).mono ?_
  rintro e w5 ⟨⟨s5, p5, c5, D5, rfl, n5, -, -⟩, B5⟩
  have H5 := Lib.hid (And.intro n5 (And.intro (H4.out.2.2.1.below B5) (H4.out.2.2.2.trans (B5.mono H4.out.2.2.2.size))))
  clear n5 B5
  go_wp2_with fail
  refine (is_true H5.out.1 (by decide) H5.out.2.1 _ (by rw [show (65535 * 65537 : Int) = 4294967295 by decide]; exact txt_2)).mono ?_
  rintro e w6 ⟨rfl, B6⟩
  have H6 := Lib.hid (H5.out.2.2.trans (B6.mono H5.out.2.2.size))
  clear B6
  go_wp2_with fail
  go_ret
  exact ⟨rfl, H6.out⟩
end Go.Proofs.YtihgefllmkicaaaDoor
