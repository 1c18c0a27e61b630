/- Plain: the walk of BigKnown. Conditions: the table lies. -/
import Derived.Test.YtihgefllmkicaaaDoorBbD
namespace Go.Proofs.YtihgefllmkicaaaDoor
open Go.RowKit Bg
set_option linter.unusedVariables false
set_option linter.unusedSimpArgs false


theorem fix_lit {w : World} {p : Option Addr} {c : Nat} {l : List Int} {s : Bool} {x a : Int} {b : Bool} {n : Nat} (h : Nu n w s p c l x) (hn : n ≤ 100000) (ha : clipFix x = a) (hb : isFix x = b) :
    Calls Tryd.prog 19 #[.agg #[.bool s, .slice p l.length c]] w fun e w' => e = .returned (.tuple #[.int .i64 a, .bool b]) ∧ Below w.heap.size w w' := by
  rw [← ha, ← hb]
  exact fix_nu h hn
theorem field0 (a b : Value) (w : World) : (Instr.field 24 (.agg #[a, b]) 0).run Tryd.prog w = .ok a w := by
  simp [Instr.field, run_underlying Tryd.underlying24, go_sem, asAgg]
set_option maxRecDepth 100000 in
set_option maxHeartbeats 40000000 in
theorem known_any {w : World} (ht : Tab w) : Calls Tryd.prog 7 #[] w fun e w' => e = .returned (.bool true) ∧ Below w.heap.size w w' := by
  have H0 := Lib.hid (And.intro ht (Below.refl w.heap.size w))
  clear ht
  go_enter Tryd.func7, Tryd.ntmps7
  go_wp2_with fail
  refine (parse_bad (by decide) (by decide +kernel) w).mono ?_
  rintro e w1 ⟨rfl, B1⟩
  have H1 := Lib.hid (And.intro (H0.out.1.below B1) (H0.out.2.trans (B1.mono H0.out.2.size)))
  clear B1
  obtain ⟨w2, hw2⟩ : ∃ w2, w2 = w1.alloc (.cells #[.bool false, .slice none 0 0] 24) := ⟨_, rfl⟩
  have B2 : Below w1.heap.size w1 w2 := by rw [hw2]; exact (Below.refl _ _).alloc (Nat.le_refl _) _
  have H2 := Lib.hid (And.intro (H1.out.1.below B2) (H1.out.2.trans (B2.mono H1.out.2.size)))
  clear B2
  go_upto_region 2 with fail
  rw [← hw2]
  clear hw2
  go_wp2_with fail
  refine (parse_bad (by decide) (by decide +kernel) w2).mono ?_
  rintro e w3 ⟨rfl, B3⟩
  have H3 := Lib.hid (And.intro (H2.out.1.below B3) (H2.out.2.trans (B3.mono H2.out.2.size)))
  clear B3
  obtain ⟨w4, hw4⟩ : ∃ w4, w4 = w3.alloc (.cells #[.bool false, .slice none 0 0] 24) := ⟨_, rfl⟩
  have B4 : Below w3.heap.size w3 w4 := by rw [hw4]; exact (Below.refl _ _).alloc (Nat.le_refl _) _
  have H4 := Lib.hid (And.intro (H3.out.1.below B4) (H3.out.2.trans (B4.mono H3.out.2.size)))
  clear B4
  go_upto_region 3 with fail
  rw [← hw4]
  clear hw4
  go_wp2_with fail
  refine (parse_bad (by decide) (by decide +kernel) w4).mono ?_
  rintro e w5 ⟨rfl, B5⟩
  have H5 := Lib.hid (And.intro (H4.out.1.below B5) (H4.out.2.trans (B5.mono H4.out.2.size)))
  clear B5
  obtain ⟨w6, hw6⟩ : ∃ w6, w6 = w5.alloc (.cells #[.bool false, .slice none 0 0] 24) := ⟨_, rfl⟩
  have B6 : Below w5.heap.size w5 w6 := by rw [hw6]; exact (Below.refl _ _).alloc (Nat.le_refl _) _
  have H6 := Lib.hid (And.intro (H5.out.1.below B6) (H5.out.2.trans (B6.mono H5.out.2.size)))
  clear B6
  go_upto_region 4 with fail
  rw [← hw6]
  clear hw6
  go_wp2_with fail
  refine (num_nu (x := -5) (by decide) (by decide +kernel) (by decide +kernel) 2 (by unfold Bnd; decide +kernel) w6).mono ?_
  rintro e w7 ⟨⟨s7, p7, c7, D7, rfl, n7, k7, -⟩, B7⟩
  have H7 := Lib.hid (And.intro (H6.out.1.below B7) (And.intro (H6.out.2.trans (B7.mono H6.out.2.size)) n7))
  clear n7 k7 B7
  go_wp2_with fail
  refine (num_nu (x := 5) (by decide) (by decide +kernel) (by decide +kernel) 2 (by unfold Bnd; decide +kernel) w7).mono ?_
  rintro e w8 ⟨⟨s8, p8, c8, D8, rfl, n8, k8, -⟩, B8⟩
  have H8 := Lib.hid (And.intro (H7.out.1.below B8) (And.intro (H7.out.2.1.trans (B8.mono H7.out.2.1.size)) (And.intro (H7.out.2.2.below B8) n8)))
  clear n8 k8 B8
  go_wp2_with fail
  refine (add_nu H8.out.2.2.1 H8.out.2.2.2 (by decide)).mono ?_
  rintro e w9 ⟨⟨s9, p9, c9, D9, rfl, n9, k9, -⟩, B9⟩
  obtain ⟨e1, e2⟩ := nv_inj (by decide) k9 (can_nil 65536) (n9.val.trans (by decide))
  subst e1 e2
  rw [show ([] : List Int).length = 0 from rfl]
  have H9 := Lib.hid (And.intro (H8.out.1.below B9) (And.intro (H8.out.2.1.trans (B9.mono H8.out.2.1.size)) (And.intro (H8.out.2.2.1.below B9) (H8.out.2.2.2.below B9))))
  clear n9 k9 B9
  obtain ⟨w10, hw10⟩ : ∃ w10, w10 = w9.alloc (.cells #[.bool false, .slice p9 0 c9] 24) := ⟨_, rfl⟩
  have B10 : Below w9.heap.size w9 w10 := by rw [hw10]; exact (Below.refl _ _).alloc (Nat.le_refl _) _
  have X10 : Box w10 w9.heap.size (.bool false) (.slice p9 0 c9) := by rw [hw10]; exact Box.fresh _ _ _ rfl
  have H10 := Lib.hid (And.intro (H9.out.1.below B10) (And.intro (H9.out.2.1.trans (B10.mono H9.out.2.1.size)) (And.intro (H9.out.2.2.1.below B10) (And.intro (H9.out.2.2.2.below B10) X10))))
  clear X10 B10
  go_upto_region 5 with fail
  rw [← hw10]
  clear hw10
  have H11 := Lib.hid (And.intro H10.out.1 (And.intro H10.out.2.1 H10.out.2.2.2.2))
  go_wp2_with fail
  refine (num_nu (x := -7) (by decide) (by decide +kernel) (by decide +kernel) 2 (by unfold Bnd; decide +kernel) w10).mono ?_
  rintro e w11 ⟨⟨s11, p11, c11, D11, rfl, n11, k11, -⟩, B11⟩
  have H12 := Lib.hid (And.intro (H11.out.1.below B11) (And.intro (H11.out.2.1.trans (B11.mono H11.out.2.1.size)) (And.intro (H11.out.2.2.below B11) n11)))
  clear n11 k11 B11
  go_wp2_with fail
  refine (num_nu (x := 2) (by decide) (by decide +kernel) (by decide +kernel) 2 (by unfold Bnd; decide +kernel) w11).mono ?_
  rintro e w12 ⟨⟨s12, p12, c12, D12, rfl, n12, k12, -⟩, B12⟩
  have H13 := Lib.hid (And.intro (H12.out.1.below B12) (And.intro (H12.out.2.1.trans (B12.mono H12.out.2.1.size)) (And.intro (H12.out.2.2.1.below B12) (And.intro (H12.out.2.2.2.below B12) n12))))
  clear n12 k12 B12
  go_wp2_with fail
  refine (quo_nu H13.out.2.2.2.1 H13.out.2.2.2.2 (by decide) (by decide) (by decide)).mono ?_
  rintro e w13 ⟨⟨s13, p13, c13, D13, t13, q13, d13, E13, rfl, ⟨n13, -, -⟩, ⟨m13, -, -⟩⟩, B13⟩
  have H14 := Lib.hid (And.intro (H13.out.1.below B13) (And.intro (H13.out.2.1.trans (B13.mono H13.out.2.1.size)) (And.intro (H13.out.2.2.1.below B13) (And.intro (H13.out.2.2.2.1.below B13) (And.intro (H13.out.2.2.2.2.below B13) (And.intro n13 m13))))))
  clear n13 m13 B13
  obtain ⟨w14, hw14, B14, -, x14, y14⟩ := two_boxes w13 (.bool s13) (.slice p13 D13.length c13) (.bool t13) (.slice q13 E13.length d13)
  have H15 := Lib.hid (And.intro (H14.out.1.below B14) (And.intro (H14.out.2.1.trans (B14.mono H14.out.2.1.size)) (And.intro (H14.out.2.2.1.below B14) (And.intro (H14.out.2.2.2.1.below B14) (And.intro (H14.out.2.2.2.2.1.below B14) (And.intro (H14.out.2.2.2.2.2.1.below B14) (And.intro (H14.out.2.2.2.2.2.2.below B14) (And.intro (Box.of x14) (Box.of y14)))))))))
  clear x14 y14 B14
  go_upto_region 6 with fail
  rw [← hw14]
  clear hw14
  have H16 := Lib.hid (And.intro H15.out.1 (And.intro H15.out.2.1 (And.intro H15.out.2.2.1 (And.intro H15.out.2.2.2.2.2.1 (And.intro H15.out.2.2.2.2.2.2.1 (And.intro H15.out.2.2.2.2.2.2.2.1 H15.out.2.2.2.2.2.2.2.2))))))
  go_wp2_with fail
  refine (num_nu (x := 7) (by decide) (by decide +kernel) (by decide +kernel) 2 (by unfold Bnd; decide +kernel) w14).mono ?_
  rintro e w15 ⟨⟨s15, p15, c15, D15, rfl, n15, k15, -⟩, B15⟩
  have H17 := Lib.hid (And.intro (H16.out.1.below B15) (And.intro (H16.out.2.1.trans (B15.mono H16.out.2.1.size)) (And.intro (H16.out.2.2.1.below B15) (And.intro (H16.out.2.2.2.1.below B15) (And.intro (H16.out.2.2.2.2.1.below B15) (And.intro (H16.out.2.2.2.2.2.1.below B15) (And.intro (H16.out.2.2.2.2.2.2.below B15) n15)))))))
  clear n15 k15 B15
  go_wp2_with fail
  refine (num_nu (x := -2) (by decide) (by decide +kernel) (by decide +kernel) 2 (by unfold Bnd; decide +kernel) w15).mono ?_
  rintro e w16 ⟨⟨s16, p16, c16, D16, rfl, n16, k16, -⟩, B16⟩
  have H18 := Lib.hid (And.intro (H17.out.1.below B16) (And.intro (H17.out.2.1.trans (B16.mono H17.out.2.1.size)) (And.intro (H17.out.2.2.1.below B16) (And.intro (H17.out.2.2.2.1.below B16) (And.intro (H17.out.2.2.2.2.1.below B16) (And.intro (H17.out.2.2.2.2.2.1.below B16) (And.intro (H17.out.2.2.2.2.2.2.1.below B16) (And.intro (H17.out.2.2.2.2.2.2.2.below B16) n16))))))))
  clear n16 k16 B16
  go_wp2_with fail
  refine (quo_nu H18.out.2.2.2.2.2.2.2.1 H18.out.2.2.2.2.2.2.2.2 (by decide) (by decide) (by decide)).mono ?_
  rintro e w17 ⟨⟨s17, p17, c17, D17, t17, q17, d17, E17, rfl, ⟨n17, -, -⟩, ⟨m17, -, -⟩⟩, B17⟩
  have H19 := Lib.hid (And.intro (H18.out.1.below B17) (And.intro (H18.out.2.1.trans (B17.mono H18.out.2.1.size)) (And.intro (H18.out.2.2.1.below B17) (And.intro (H18.out.2.2.2.1.below B17) (And.intro (H18.out.2.2.2.2.1.below B17) (And.intro (H18.out.2.2.2.2.2.1.below B17) (And.intro (H18.out.2.2.2.2.2.2.1.below B17) (And.intro (H18.out.2.2.2.2.2.2.2.1.below B17) (And.intro (H18.out.2.2.2.2.2.2.2.2.below B17) (And.intro n17 m17))))))))))
  clear n17 m17 B17
  obtain ⟨w18, hw18, B18, -, x18, y18⟩ := two_boxes w17 (.bool s17) (.slice p17 D17.length c17) (.bool t17) (.slice q17 E17.length d17)
  have H20 := Lib.hid (And.intro (H19.out.1.below B18) (And.intro (H19.out.2.1.trans (B18.mono H19.out.2.1.size)) (And.intro (H19.out.2.2.1.below B18) (And.intro (H19.out.2.2.2.1.below B18) (And.intro (H19.out.2.2.2.2.1.below B18) (And.intro (H19.out.2.2.2.2.2.1.below B18) (And.intro (H19.out.2.2.2.2.2.2.1.below B18) (And.intro (H19.out.2.2.2.2.2.2.2.1.below B18) (And.intro (H19.out.2.2.2.2.2.2.2.2.1.below B18) (And.intro (H19.out.2.2.2.2.2.2.2.2.2.1.below B18) (And.intro (H19.out.2.2.2.2.2.2.2.2.2.2.below B18) (And.intro (Box.of x18) (Box.of y18)))))))))))))
  clear x18 y18 B18
  go_upto_region 7 with fail
  rw [← hw18]
  clear hw18
  have H21 := Lib.hid (And.intro H20.out.1 (And.intro H20.out.2.1 (And.intro H20.out.2.2.1 (And.intro H20.out.2.2.2.1 (And.intro H20.out.2.2.2.2.1 (And.intro H20.out.2.2.2.2.2.1 (And.intro H20.out.2.2.2.2.2.2.1 (And.intro H20.out.2.2.2.2.2.2.2.2.2.1 (And.intro H20.out.2.2.2.2.2.2.2.2.2.2.1 (And.intro H20.out.2.2.2.2.2.2.2.2.2.2.2.1 H20.out.2.2.2.2.2.2.2.2.2.2.2.2))))))))))
  go_wp2_with fail
  refine (num_nu (x := 1) (by decide) (by decide +kernel) (by decide +kernel) 2 (by unfold Bnd; decide +kernel) w18).mono ?_
  rintro e w19 ⟨⟨s19, p19, c19, D19, rfl, n19, k19, -⟩, B19⟩
  have H22 := Lib.hid (And.intro (H21.out.1.below B19) (And.intro (H21.out.2.1.trans (B19.mono H21.out.2.1.size)) (And.intro (H21.out.2.2.1.below B19) (And.intro (H21.out.2.2.2.1.below B19) (And.intro (H21.out.2.2.2.2.1.below B19) (And.intro (H21.out.2.2.2.2.2.1.below B19) (And.intro (H21.out.2.2.2.2.2.2.1.below B19) (And.intro (H21.out.2.2.2.2.2.2.2.1.below B19) (And.intro (H21.out.2.2.2.2.2.2.2.2.1.below B19) (And.intro (H21.out.2.2.2.2.2.2.2.2.2.1.below B19) (And.intro (H21.out.2.2.2.2.2.2.2.2.2.2.below B19) n19)))))))))))
  clear n19 k19 B19
  go_wp2_with fail
  refine (num_nu (x := 0) (by decide) (by decide +kernel) (by decide +kernel) 2 (by unfold Bnd; decide +kernel) w19).mono ?_
  rintro e w20 ⟨⟨s20, p20, c20, D20, rfl, n20, k20, -⟩, B20⟩
  have H23 := Lib.hid (And.intro (H22.out.1.below B20) (And.intro (H22.out.2.1.trans (B20.mono H22.out.2.1.size)) (And.intro (H22.out.2.2.1.below B20) (And.intro (H22.out.2.2.2.1.below B20) (And.intro (H22.out.2.2.2.2.1.below B20) (And.intro (H22.out.2.2.2.2.2.1.below B20) (And.intro (H22.out.2.2.2.2.2.2.1.below B20) (And.intro (H22.out.2.2.2.2.2.2.2.1.below B20) (And.intro (H22.out.2.2.2.2.2.2.2.2.1.below B20) (And.intro (H22.out.2.2.2.2.2.2.2.2.2.1.below B20) (And.intro (H22.out.2.2.2.2.2.2.2.2.2.2.1.below B20) (And.intro (H22.out.2.2.2.2.2.2.2.2.2.2.2.below B20) n20))))))))))))
  clear n20 k20 B20
  go_wp2_with fail
  refine (quo_zero H23.out.2.2.2.2.2.2.2.2.2.2.2.1 H23.out.2.2.2.2.2.2.2.2.2.2.2.2 (by decide) (by decide)).mono ?_
  rintro e w21 ⟨rfl, B21⟩
  have H24 := Lib.hid (And.intro (H23.out.1.below B21) (And.intro (H23.out.2.1.trans (B21.mono H23.out.2.1.size)) (And.intro (H23.out.2.2.1.below B21) (And.intro (H23.out.2.2.2.1.below B21) (And.intro (H23.out.2.2.2.2.1.below B21) (And.intro (H23.out.2.2.2.2.2.1.below B21) (And.intro (H23.out.2.2.2.2.2.2.1.below B21) (And.intro (H23.out.2.2.2.2.2.2.2.1.below B21) (And.intro (H23.out.2.2.2.2.2.2.2.2.1.below B21) (And.intro (H23.out.2.2.2.2.2.2.2.2.2.1.below B21) (And.intro (H23.out.2.2.2.2.2.2.2.2.2.2.1.below B21) (And.intro (H23.out.2.2.2.2.2.2.2.2.2.2.2.1.below B21) (H23.out.2.2.2.2.2.2.2.2.2.2.2.2.below B21)))))))))))))
  clear B21
  obtain ⟨w22, hw22, B22, -, x22, y22⟩ := two_boxes w21 (.bool false) (.slice none 0 0) (.bool false) (.slice none 0 0)
  have H25 := Lib.hid (And.intro (H24.out.1.below B22) (And.intro (H24.out.2.1.trans (B22.mono H24.out.2.1.size)) (And.intro (H24.out.2.2.1.below B22) (And.intro (H24.out.2.2.2.1.below B22) (And.intro (H24.out.2.2.2.2.1.below B22) (And.intro (H24.out.2.2.2.2.2.1.below B22) (And.intro (H24.out.2.2.2.2.2.2.1.below B22) (And.intro (H24.out.2.2.2.2.2.2.2.1.below B22) (And.intro (H24.out.2.2.2.2.2.2.2.2.1.below B22) (And.intro (H24.out.2.2.2.2.2.2.2.2.2.1.below B22) (And.intro (H24.out.2.2.2.2.2.2.2.2.2.2.1.below B22) (And.intro (H24.out.2.2.2.2.2.2.2.2.2.2.2.1.below B22) (And.intro (H24.out.2.2.2.2.2.2.2.2.2.2.2.2.below B22) (And.intro (Box.of x22) (Box.of y22)))))))))))))))
  clear x22 y22 B22
  go_upto_region 8 with fail
  rw [← hw22]
  clear hw22
  have H26 := Lib.hid (And.intro H25.out.1 (And.intro H25.out.2.1 (And.intro H25.out.2.2.1 (And.intro H25.out.2.2.2.1 (And.intro H25.out.2.2.2.2.1 (And.intro H25.out.2.2.2.2.2.1 (And.intro H25.out.2.2.2.2.2.2.1 (And.intro H25.out.2.2.2.2.2.2.2.1 (And.intro H25.out.2.2.2.2.2.2.2.2.1 (And.intro H25.out.2.2.2.2.2.2.2.2.2.1 H25.out.2.2.2.2.2.2.2.2.2.2.1))))))))))
  go_wp2_with fail
  refine (awake_at H26.out.1).mono ?_
  rintro e w23 ⟨rfl, B23⟩
  have H27 := Lib.hid (And.intro (H26.out.1.below B23) (And.intro (H26.out.2.1.trans (B23.mono H26.out.2.1.size)) (And.intro (H26.out.2.2.1.below B23) (And.intro (H26.out.2.2.2.1.below B23) (And.intro (H26.out.2.2.2.2.1.below B23) (And.intro (H26.out.2.2.2.2.2.1.below B23) (And.intro (H26.out.2.2.2.2.2.2.1.below B23) (And.intro (H26.out.2.2.2.2.2.2.2.1.below B23) (And.intro (H26.out.2.2.2.2.2.2.2.2.1.below B23) (And.intro (H26.out.2.2.2.2.2.2.2.2.2.1.below B23) (H26.out.2.2.2.2.2.2.2.2.2.2.below B23)))))))))))
  clear B23
  go_wp2_with fail
  refine (num_nu (x := 0) (by decide) (by decide +kernel) (by decide +kernel) 2 (by unfold Bnd; decide +kernel) w23).mono ?_
  rintro e w24 ⟨⟨s24, p24, c24, D24, rfl, n24, k24, -⟩, B24⟩
  have H28 := Lib.hid (And.intro (H27.out.1.below B24) (And.intro (H27.out.2.1.trans (B24.mono H27.out.2.1.size)) (And.intro (H27.out.2.2.1.below B24) (And.intro (H27.out.2.2.2.1.below B24) (And.intro (H27.out.2.2.2.2.1.below B24) (And.intro (H27.out.2.2.2.2.2.1.below B24) (And.intro (H27.out.2.2.2.2.2.2.1.below B24) (And.intro (H27.out.2.2.2.2.2.2.2.1.below B24) (And.intro (H27.out.2.2.2.2.2.2.2.2.1.below B24) (And.intro (H27.out.2.2.2.2.2.2.2.2.2.1.below B24) (And.intro (H27.out.2.2.2.2.2.2.2.2.2.2.below B24) n24)))))))))))
  clear n24 k24 B24
  go_wp2_with fail
  refine (is_true H28.out.2.2.2.2.2.2.2.2.2.2.2 (by decide) H28.out.1 _ (by exact (show txt (0) = [48] from txt_pos (n := 0) rfl (by decide) (Or.inl rfl) (by decide +kernel)))).mono ?_
  rintro e w25 ⟨rfl, B25⟩
  have H29 := Lib.hid (And.intro (H28.out.1.below B25) (And.intro (H28.out.2.1.trans (B25.mono H28.out.2.1.size)) (And.intro (H28.out.2.2.1.below B25) (And.intro (H28.out.2.2.2.1.below B25) (And.intro (H28.out.2.2.2.2.1.below B25) (And.intro (H28.out.2.2.2.2.2.1.below B25) (And.intro (H28.out.2.2.2.2.2.2.1.below B25) (And.intro (H28.out.2.2.2.2.2.2.2.1.below B25) (And.intro (H28.out.2.2.2.2.2.2.2.2.1.below B25) (And.intro (H28.out.2.2.2.2.2.2.2.2.2.1.below B25) (And.intro (H28.out.2.2.2.2.2.2.2.2.2.2.1.below B25) (H28.out.2.2.2.2.2.2.2.2.2.2.2.below B25))))))))))))
  clear B25
  have H30 := Lib.hid (And.intro H29.out.1 (And.intro H29.out.2.1 (And.intro H29.out.2.2.1 (And.intro H29.out.2.2.2.1 (And.intro H29.out.2.2.2.2.1 (And.intro H29.out.2.2.2.2.2.1 (And.intro H29.out.2.2.2.2.2.2.1 (And.intro H29.out.2.2.2.2.2.2.2.1 (And.intro H29.out.2.2.2.2.2.2.2.2.1 (And.intro H29.out.2.2.2.2.2.2.2.2.2.1 H29.out.2.2.2.2.2.2.2.2.2.2.1))))))))))
  go_wp2_with fail
  refine (num_nu (x := 0) (by decide) (by decide +kernel) (by decide +kernel) 2 (by unfold Bnd; decide +kernel) w25).mono ?_
  rintro e w26 ⟨⟨s26, p26, c26, D26, rfl, n26, k26, -⟩, B26⟩
  obtain ⟨e1, e2⟩ := nv_inj (by decide) k26 (can_nil 65536) (n26.val.trans (by decide))
  subst e1 e2
  rw [show ([] : List Int).length = 0 from rfl]
  have H31 := Lib.hid (And.intro (H30.out.1.below B26) (And.intro (H30.out.2.1.trans (B26.mono H30.out.2.1.size)) (And.intro (H30.out.2.2.1.below B26) (And.intro (H30.out.2.2.2.1.below B26) (And.intro (H30.out.2.2.2.2.1.below B26) (And.intro (H30.out.2.2.2.2.2.1.below B26) (And.intro (H30.out.2.2.2.2.2.2.1.below B26) (And.intro (H30.out.2.2.2.2.2.2.2.1.below B26) (And.intro (H30.out.2.2.2.2.2.2.2.2.1.below B26) (And.intro (H30.out.2.2.2.2.2.2.2.2.2.1.below B26) (H30.out.2.2.2.2.2.2.2.2.2.2.below B26)))))))))))
  clear n26 k26 B26
  have hfd := field0 (.bool false) (.slice p26 0 c26) w26
  go_wp2_with fail
  refine (num_nu (x := 1) (by decide) (by decide +kernel) (by decide +kernel) 2 (by unfold Bnd; decide +kernel) w26).mono ?_
  rintro e w27 ⟨⟨s27, p27, c27, D27, rfl, n27, k27, -⟩, B27⟩
  have H32 := Lib.hid (And.intro (H31.out.1.below B27) (And.intro (H31.out.2.1.trans (B27.mono H31.out.2.1.size)) (And.intro (H31.out.2.2.1.below B27) (And.intro (H31.out.2.2.2.1.below B27) (And.intro (H31.out.2.2.2.2.1.below B27) (And.intro (H31.out.2.2.2.2.2.1.below B27) (And.intro (H31.out.2.2.2.2.2.2.1.below B27) (And.intro (H31.out.2.2.2.2.2.2.2.1.below B27) (And.intro (H31.out.2.2.2.2.2.2.2.2.1.below B27) (And.intro (H31.out.2.2.2.2.2.2.2.2.2.1.below B27) (And.intro (H31.out.2.2.2.2.2.2.2.2.2.2.below B27) n27)))))))))))
  clear n27 k27 B27
  clear hfd
  go_wp2_with fail
  refine (num_nu (x := 2) (by decide) (by decide +kernel) (by decide +kernel) 2 (by unfold Bnd; decide +kernel) w27).mono ?_
  rintro e w28 ⟨⟨s28, p28, c28, D28, rfl, n28, k28, -⟩, B28⟩
  have H33 := Lib.hid (And.intro (H32.out.1.below B28) (And.intro (H32.out.2.1.trans (B28.mono H32.out.2.1.size)) (And.intro (H32.out.2.2.1.below B28) (And.intro (H32.out.2.2.2.1.below B28) (And.intro (H32.out.2.2.2.2.1.below B28) (And.intro (H32.out.2.2.2.2.2.1.below B28) (And.intro (H32.out.2.2.2.2.2.2.1.below B28) (And.intro (H32.out.2.2.2.2.2.2.2.1.below B28) (And.intro (H32.out.2.2.2.2.2.2.2.2.1.below B28) (And.intro (H32.out.2.2.2.2.2.2.2.2.2.1.below B28) (And.intro (H32.out.2.2.2.2.2.2.2.2.2.2.1.below B28) (And.intro (H32.out.2.2.2.2.2.2.2.2.2.2.2.below B28) n28))))))))))))
  clear n28 k28 B28
  go_wp2_with fail
  refine (sub_nu H33.out.2.2.2.2.2.2.2.2.2.2.2.1 H33.out.2.2.2.2.2.2.2.2.2.2.2.2 (by decide)).mono ?_
  rintro e w29 ⟨⟨s29, p29, c29, D29, rfl, n29, k29, -⟩, B29⟩
  have H34 := Lib.hid (And.intro (H33.out.1.below B29) (And.intro (H33.out.2.1.trans (B29.mono H33.out.2.1.size)) (And.intro (H33.out.2.2.1.below B29) (And.intro (H33.out.2.2.2.1.below B29) (And.intro (H33.out.2.2.2.2.1.below B29) (And.intro (H33.out.2.2.2.2.2.1.below B29) (And.intro (H33.out.2.2.2.2.2.2.1.below B29) (And.intro (H33.out.2.2.2.2.2.2.2.1.below B29) (And.intro (H33.out.2.2.2.2.2.2.2.2.1.below B29) (And.intro (H33.out.2.2.2.2.2.2.2.2.2.1.below B29) (And.intro (H33.out.2.2.2.2.2.2.2.2.2.2.1.below B29) (And.intro (H33.out.2.2.2.2.2.2.2.2.2.2.2.1.below B29) (And.intro (H33.out.2.2.2.2.2.2.2.2.2.2.2.2.below B29) n29)))))))))))))
  clear n29 k29 B29
  go_wp2_with fail
  refine (is_true H34.out.2.2.2.2.2.2.2.2.2.2.2.2.2 (by decide) H34.out.1 _ (by rw [show (1 - 2 : Int) = -1 by decide]; exact (show txt (-1) = [45, 49] from txt_neg (n := 0) rfl (by decide) ⟨49, _, rfl, by decide⟩ (by decide +kernel)))).mono ?_
  rintro e w30 ⟨rfl, B30⟩
  have H35 := Lib.hid (And.intro (H34.out.1.below B30) (And.intro (H34.out.2.1.trans (B30.mono H34.out.2.1.size)) (And.intro (H34.out.2.2.1.below B30) (And.intro (H34.out.2.2.2.1.below B30) (And.intro (H34.out.2.2.2.2.1.below B30) (And.intro (H34.out.2.2.2.2.2.1.below B30) (And.intro (H34.out.2.2.2.2.2.2.1.below B30) (And.intro (H34.out.2.2.2.2.2.2.2.1.below B30) (And.intro (H34.out.2.2.2.2.2.2.2.2.1.below B30) (And.intro (H34.out.2.2.2.2.2.2.2.2.2.1.below B30) (And.intro (H34.out.2.2.2.2.2.2.2.2.2.2.1.below B30) (And.intro (H34.out.2.2.2.2.2.2.2.2.2.2.2.1.below B30) (And.intro (H34.out.2.2.2.2.2.2.2.2.2.2.2.2.1.below B30) (H34.out.2.2.2.2.2.2.2.2.2.2.2.2.2.below B30))))))))))))))
  clear B30
  have H36 := Lib.hid (And.intro H35.out.1 (And.intro H35.out.2.1 (And.intro H35.out.2.2.1 (And.intro H35.out.2.2.2.1 (And.intro H35.out.2.2.2.2.1 (And.intro H35.out.2.2.2.2.2.1 (And.intro H35.out.2.2.2.2.2.2.1 (And.intro H35.out.2.2.2.2.2.2.2.1 (And.intro H35.out.2.2.2.2.2.2.2.2.1 (And.intro H35.out.2.2.2.2.2.2.2.2.2.1 H35.out.2.2.2.2.2.2.2.2.2.2.1))))))))))
  have yX7 := H36.out.2.2.1
  have yX70 := yX7.c0
  have yX71 := yX7.c1
  clear yX7
  have yXq := H36.out.2.2.2.2.2.1
  have yXq0 := yXq.c0
  have yXq1 := yXq.c1
  clear yXq
  go_wp2_with fail
  refine (is_true H36.out.2.2.2.1 (by decide) H36.out.1 _ (by rw [show ((-7 : Int).tdiv 2 : Int) = -3 by decide]; exact (show txt (-3) = [45, 51] from txt_neg (n := 0) rfl (by decide) ⟨51, _, rfl, by decide⟩ (by decide +kernel)))).mono ?_
  rintro e w31 ⟨rfl, B31⟩
  have H37 := Lib.hid (And.intro (H36.out.1.below B31) (And.intro (H36.out.2.1.trans (B31.mono H36.out.2.1.size)) (And.intro (H36.out.2.2.1.below B31) (And.intro (H36.out.2.2.2.1.below B31) (And.intro (H36.out.2.2.2.2.1.below B31) (And.intro (H36.out.2.2.2.2.2.1.below B31) (And.intro (H36.out.2.2.2.2.2.2.1.below B31) (And.intro (H36.out.2.2.2.2.2.2.2.1.below B31) (And.intro (H36.out.2.2.2.2.2.2.2.2.1.below B31) (And.intro (H36.out.2.2.2.2.2.2.2.2.2.1.below B31) (H36.out.2.2.2.2.2.2.2.2.2.2.below B31)))))))))))
  clear B31
  clear yX70 yX71
  clear yXq0 yXq1
  have yXr := H37.out.2.2.2.2.2.2.1
  have yXr0 := yXr.c0
  have yXr1 := yXr.c1
  clear yXr
  go_wp2_with fail
  refine (is_true H37.out.2.2.2.2.1 (by decide) H37.out.1 _ (by rw [show ((-7 : Int).tmod 2 : Int) = -1 by decide]; exact (show txt (-1) = [45, 49] from txt_neg (n := 0) rfl (by decide) ⟨49, _, rfl, by decide⟩ (by decide +kernel)))).mono ?_
  rintro e w32 ⟨rfl, B32⟩
  have H38 := Lib.hid (And.intro (H37.out.1.below B32) (And.intro (H37.out.2.1.trans (B32.mono H37.out.2.1.size)) (And.intro (H37.out.2.2.1.below B32) (And.intro (H37.out.2.2.2.1.below B32) (And.intro (H37.out.2.2.2.2.1.below B32) (And.intro (H37.out.2.2.2.2.2.1.below B32) (And.intro (H37.out.2.2.2.2.2.2.1.below B32) (And.intro (H37.out.2.2.2.2.2.2.2.1.below B32) (And.intro (H37.out.2.2.2.2.2.2.2.2.1.below B32) (And.intro (H37.out.2.2.2.2.2.2.2.2.2.1.below B32) (H37.out.2.2.2.2.2.2.2.2.2.2.below B32)))))))))))
  clear B32
  clear yXr0 yXr1
  have yXp := H38.out.2.2.2.2.2.2.2.2.2.1
  have yXp0 := yXp.c0
  have yXp1 := yXp.c1
  clear yXp
  go_wp2_with fail
  refine (is_true H38.out.2.2.2.2.2.2.2.1 (by decide) H38.out.1 _ (by rw [show ((7 : Int).tdiv (-2) : Int) = -3 by decide]; exact (show txt (-3) = [45, 51] from txt_neg (n := 0) rfl (by decide) ⟨51, _, rfl, by decide⟩ (by decide +kernel)))).mono ?_
  rintro e w33 ⟨rfl, B33⟩
  have H39 := Lib.hid (And.intro (H38.out.1.below B33) (And.intro (H38.out.2.1.trans (B33.mono H38.out.2.1.size)) (And.intro (H38.out.2.2.1.below B33) (And.intro (H38.out.2.2.2.1.below B33) (And.intro (H38.out.2.2.2.2.1.below B33) (And.intro (H38.out.2.2.2.2.2.1.below B33) (And.intro (H38.out.2.2.2.2.2.2.1.below B33) (And.intro (H38.out.2.2.2.2.2.2.2.1.below B33) (And.intro (H38.out.2.2.2.2.2.2.2.2.1.below B33) (And.intro (H38.out.2.2.2.2.2.2.2.2.2.1.below B33) (H38.out.2.2.2.2.2.2.2.2.2.2.below B33)))))))))))
  clear B33
  clear yXp0 yXp1
  have yXs := H39.out.2.2.2.2.2.2.2.2.2.2
  have yXs0 := yXs.c0
  have yXs1 := yXs.c1
  clear yXs
  go_wp2_with fail
  refine (is_true H39.out.2.2.2.2.2.2.2.2.1 (by decide) H39.out.1 _ (by rw [show ((7 : Int).tmod (-2) : Int) = 1 by decide]; exact (show txt (1) = [49] from txt_pos (n := 0) rfl (by decide) (Or.inl rfl) (by decide +kernel)))).mono ?_
  rintro e w34 ⟨rfl, B34⟩
  have H40 := Lib.hid (And.intro (H39.out.1.below B34) (And.intro (H39.out.2.1.trans (B34.mono H39.out.2.1.size)) (And.intro (H39.out.2.2.1.below B34) (And.intro (H39.out.2.2.2.1.below B34) (And.intro (H39.out.2.2.2.2.1.below B34) (And.intro (H39.out.2.2.2.2.2.1.below B34) (And.intro (H39.out.2.2.2.2.2.2.1.below B34) (And.intro (H39.out.2.2.2.2.2.2.2.1.below B34) (And.intro (H39.out.2.2.2.2.2.2.2.2.1.below B34) (And.intro (H39.out.2.2.2.2.2.2.2.2.2.1.below B34) (H39.out.2.2.2.2.2.2.2.2.2.2.below B34)))))))))))
  clear B34
  clear yXs0 yXs1
  have H41 := Lib.hid (And.intro H40.out.1 H40.out.2.1)
  go_wp2_with fail
  refine (num_nu (x := 536870911) (by decide) (by decide +kernel) (by decide +kernel) 2 (by unfold Bnd; decide +kernel) w34).mono ?_
  rintro e w35 ⟨⟨s35, p35, c35, D35, rfl, n35, k35, -⟩, B35⟩
  have H42 := Lib.hid (And.intro (H41.out.1.below B35) (And.intro (H41.out.2.trans (B35.mono H41.out.2.size)) n35))
  clear n35 k35 B35
  go_wp2_with fail
  refine (fix_lit H42.out.2.2 (by decide) (a := 536870911) (b := true) (by decide) (by decide)).mono ?_
  rintro e w36 ⟨rfl, B36⟩
  have H43 := Lib.hid (And.intro (H42.out.1.below B36) (And.intro (H42.out.2.1.trans (B36.mono H42.out.2.1.size)) (H42.out.2.2.below B36)))
  clear B36
  have H44 := Lib.hid (And.intro H43.out.1 H43.out.2.1)
  go_wp2_with fail
  refine (num_nu (x := 536870912) (by decide) (by decide +kernel) (by decide +kernel) 2 (by unfold Bnd; decide +kernel) w36).mono ?_
  rintro e w37 ⟨⟨s37, p37, c37, D37, rfl, n37, k37, -⟩, B37⟩
  have H45 := Lib.hid (And.intro (H44.out.1.below B37) (And.intro (H44.out.2.trans (B37.mono H44.out.2.size)) n37))
  clear n37 k37 B37
  go_wp2_with fail
  refine (fix_lit H45.out.2.2 (by decide) (a := 0) (b := false) (by decide) (by decide)).mono ?_
  rintro e w38 ⟨rfl, B38⟩
  have H46 := Lib.hid (And.intro (H45.out.1.below B38) (And.intro (H45.out.2.1.trans (B38.mono H45.out.2.1.size)) (H45.out.2.2.below B38)))
  clear B38
  have H47 := Lib.hid (And.intro H46.out.1 H46.out.2.1)
  go_wp2_with fail
  refine (num_nu (x := (-536870912)) (by decide) (by decide +kernel) (by decide +kernel) 2 (by unfold Bnd; decide +kernel) w38).mono ?_
  rintro e w39 ⟨⟨s39, p39, c39, D39, rfl, n39, k39, -⟩, B39⟩
  have H48 := Lib.hid (And.intro (H47.out.1.below B39) (And.intro (H47.out.2.trans (B39.mono H47.out.2.size)) n39))
  clear n39 k39 B39
  go_wp2_with fail
  refine (fix_lit H48.out.2.2 (by decide) (a := (-536870912)) (b := true) (by decide) (by decide)).mono ?_
  rintro e w40 ⟨rfl, B40⟩
  have H49 := Lib.hid (And.intro (H48.out.1.below B40) (And.intro (H48.out.2.1.trans (B40.mono H48.out.2.1.size)) (H48.out.2.2.below B40)))
  clear B40
  have H50 := Lib.hid (And.intro H49.out.1 H49.out.2.1)
  go_wp2_with fail
  refine (of_at (-9223372036854775808) (by decide) w40).mono ?_
  rintro e w41 ⟨v41, rfl, m41, B41⟩
  obtain ⟨s41, p41, c41, D41, rfl, n41, -, -⟩ := gives_of (n := 4) m41 (by unfold Bnd; decide +kernel)
  have H51 := Lib.hid (And.intro (H50.out.1.below B41) (And.intro (H50.out.2.trans (B41.mono H50.out.2.size)) n41))
  clear n41 m41 B41
  go_wp2_with fail
  refine (is_true H51.out.2.2 (by decide) H51.out.1 _ (by exact (show txt (-9223372036854775808) = [45, 57, 50, 50, 51, 51, 55, 50, 48, 51, 54, 56, 53, 52, 55, 55, 53, 56, 48, 56] from txt_neg (n := 18) rfl (by decide) ⟨57, _, rfl, by decide⟩ (by decide +kernel)))).mono ?_
  rintro e w42 ⟨rfl, B42⟩
  have H52 := Lib.hid (And.intro (H51.out.1.below B42) (And.intro (H51.out.2.1.trans (B42.mono H51.out.2.1.size)) (H51.out.2.2.below B42)))
  clear B42
  have H53 := Lib.hid (And.intro H52.out.1 H52.out.2.1)
  go_wp2_with fail
  refine (num_nu (x := 123456789012345678901234567890) (by decide) (by decide +kernel) (by decide +kernel) 10 (by unfold Bnd; decide +kernel) w42).mono ?_
  rintro e w43 ⟨⟨s43, p43, c43, D43, rfl, n43, k43, -⟩, B43⟩
  have H54 := Lib.hid (And.intro (H53.out.1.below B43) (And.intro (H53.out.2.trans (B43.mono H53.out.2.size)) n43))
  clear n43 k43 B43
  go_wp2_with fail
  refine (num_nu (x := 10) (by decide) (by decide +kernel) (by decide +kernel) 2 (by unfold Bnd; decide +kernel) w43).mono ?_
  rintro e w44 ⟨⟨s44, p44, c44, D44, rfl, n44, k44, -⟩, B44⟩
  have H55 := Lib.hid (And.intro (H54.out.1.below B44) (And.intro (H54.out.2.1.trans (B44.mono H54.out.2.1.size)) (And.intro (H54.out.2.2.below B44) n44)))
  clear n44 k44 B44
  go_wp2_with fail
  refine (mul_nu H55.out.2.2.1 H55.out.2.2.2 (by decide) (by decide)).mono ?_
  rintro e w45 ⟨⟨s45, p45, c45, D45, rfl, n45, k45, -⟩, B45⟩
  have H56 := Lib.hid (And.intro (H55.out.1.below B45) (And.intro (H55.out.2.1.trans (B45.mono H55.out.2.1.size)) (And.intro (H55.out.2.2.1.below B45) (And.intro (H55.out.2.2.2.below B45) n45))))
  clear n45 k45 B45
  go_wp2_with fail
  refine (is_true H56.out.2.2.2.2 (by decide) H56.out.1 _ (by rw [show (123456789012345678901234567890 * 10 : Int) = 1234567890123456789012345678900 by decide]; exact (show txt (1234567890123456789012345678900) = [49, 50, 51, 52, 53, 54, 55, 56, 57, 48, 49, 50, 51, 52, 53, 54, 55, 56, 57, 48, 49, 50, 51, 52, 53, 54, 55, 56, 57, 48, 48] from txt_pos (n := 30) rfl (by decide) (Or.inr ⟨49, _, rfl, by decide⟩) (by decide +kernel)))).mono ?_
  rintro e w46 ⟨rfl, B46⟩
  have H57 := Lib.hid (And.intro (H56.out.1.below B46) (And.intro (H56.out.2.1.trans (B46.mono H56.out.2.1.size)) (And.intro (H56.out.2.2.1.below B46) (And.intro (H56.out.2.2.2.1.below B46) (H56.out.2.2.2.2.below B46)))))
  clear B46
  go_wp2_with fail
  go_ret
  exact ⟨rfl, H57.out.2.1⟩
end Go.Proofs.YtihgefllmkicaaaDoor
