/- Contracts: LexKnown. Conditions: none. -/
import Derived.Test.YtgnnkfdpfmlajaaDoorLxBr
namespace Go.Proofs.YtgnnkfdpfmlajaaDoor
open Go.RowKit Bg Lx
set_option linter.unusedVariables false
set_option linter.unusedSimpArgs false

theorem src0_byts : Byts [39, 35, 117, 56, 40, 48, 48, 55, 41, 32, 59, 32, 120] := lit_byts (by decide)
theorem src0_lex : lex 0 [39, 35, 117, 56, 40, 48, 48, 55, 41, 32, 59, 32, 120] = ([plainTk 3 0, plainTk 5 1, datum 2 0 [55] 5, plainTk 2 8], 0, 0) := lex_by (by decide +kernel)
theorem src1_byts : Byts [35, 92, 120, 52, 49, 32, 35, 92, 120, 32, 35, 92, 40, 32, 34, 97, 92, 120, 52, 50, 59, 34] := lit_byts (by decide)
theorem src1_lex : lex 0 [35, 92, 120, 52, 49, 32, 35, 92, 120, 32, 35, 92, 40, 32, 34, 97, 92, 120, 52, 50, 59, 34] = ([datum 3 65 [] 0, datum 3 120 [] 6, datum 3 40 [] 10, datum 4 0 [97, 66] 14], 0, 0) := lex_by (by decide +kernel)
theorem src2_byts : Byts [43, 53, 32, 45, 48, 48, 32, 49, 43, 32, 46, 46, 46, 32, 35, 124, 97, 35, 124, 98, 124, 35, 99, 124, 35, 32, 122] := lit_byts (by decide)
theorem src2_lex : lex 0 [43, 53, 32, 45, 48, 48, 32, 49, 43, 32, 46, 46, 46, 32, 35, 124, 97, 35, 124, 98, 124, 35, 99, 124, 35, 32, 122] = ([datum 2 0 [53] 0, datum 2 0 [48] 3, datum 5 0 [49, 43] 7, datum 5 0 [46, 46, 46] 10, datum 5 0 [122] 26], 0, 0) := lex_by (by decide +kernel)
theorem no0_byts : Byts [34, 97, 98] := lit_byts (by decide)
theorem no0_lex : lex 0 [34, 97, 98] = ([], 4, 0) := lex_by (by decide +kernel)
theorem no1_byts : Byts [35, 113] := lit_byts (by decide)
theorem no1_lex : lex 0 [35, 113] = ([], 4, 0) := lex_by (by decide +kernel)
theorem no2_byts : Byts [35, 116, 97] := lit_byts (by decide)
theorem no2_lex : lex 0 [35, 116, 97] = ([], 4, 0) := lex_by (by decide +kernel)
theorem no3_byts : Byts [97, 91] := lit_byts (by decide)
theorem no3_lex : lex 0 [97, 91] = ([], 4, 1) := lex_by (by decide +kernel)
theorem no4_byts : Byts [35, 124, 97] := lit_byts (by decide)
theorem no4_lex : lex 0 [35, 124, 97] = ([], 4, 0) := lex_by (by decide +kernel)
theorem no5_byts : Byts [34, 92, 113, 34] := lit_byts (by decide)
theorem no5_lex : lex 0 [34, 92, 113, 34] = ([], 4, 1) := lex_by (by decide +kernel)
theorem no6_byts : Byts [35, 92] := lit_byts (by decide)
theorem no6_lex : lex 0 [35, 92] = ([], 4, 0) := lex_by (by decide +kernel)
theorem no7_byts : Byts [35, 92, 120, 100, 56, 48, 48] := lit_byts (by decide)
theorem no7_lex : lex 0 [35, 92, 120, 100, 56, 48, 48] = ([], 4, 0) := lex_by (by decide +kernel)
theorem no8_byts : Byts [97, 128] := lit_byts (by decide)
theorem no8_lex : lex 0 [97, 128] = ([], 4, 1) := lex_by (by decide +kernel)
set_option maxRecDepth 100000 in
set_option maxHeartbeats 8000000 in
theorem no_true {w : World} {l : List Int} {x p : Int} (hb : Byts l) (hl : l.length ≤ 100000) (ht : Tab w) (he : lex 0 l = ([], x, p)) :
    Calls Tryd.prog 15 #[.string (strOfNums l), .int .i64 x, .int .i64 p] w fun e w' => e = .returned (.bool true) ∧ Below w.heap.size w w' := by
  obtain ⟨c, w1, hcv, a1, b1⟩ := conv_str hb (by omega) w
  have T := plex_at a1 hb hl (ht.below b1)
  unfold LexIs at T
  rw [he] at T
  obtain ⟨S, hS⟩ : ∃ S, S = strOfNums l := ⟨_, rfl⟩
  rw [← hS] at hcv ⊢
  have HB := Lib.hid b1
  replace T := Lib.hid T
  clear a1 hS b1 he
  go_enter Tryd.func15, Tryd.ntmps15
  go_wp2_with fail
  refine T.out.mono ?_
  rintro e w2 ⟨⟨v, rfl, hr⟩, hb2⟩
  obtain ⟨p2, c2, rfl, -⟩ := hr.shape
  have HR := Lib.hid (HB.out.trans (hb2.mono HB.out.size))
  clear hr hb2
  go_wp2_with fail
  go_ret
  exact ⟨retB (by simp), HR.out.alloc HR.out.size _⟩
set_option maxRecDepth 100000 in
set_option maxHeartbeats 40000000 in
theorem known_any {w : World} (ht : Tab w) : Calls Tryd.prog 4 #[] w fun e w' => e = .returned (.bool true) ∧ Below w.heap.size w w' := by
  have HC0 := Lib.hid (Below.refl w.heap.size w)
  have HTab := Lib.hid ht
  obtain ⟨x0, hx0⟩ : ∃ x, x = w := ⟨_, rfl⟩
  have HX := Lib.hid hx0
  rw [← hx0]
  replace HC0 : Hid (Below w.heap.size w x0) := Lib.hid (by rw [hx0]; exact Below.refl _ _)
  clear hx0 ht
  go_enter Tryd.func4, Tryd.ntmps4
  go_wp2_with fail
  refine (tokens_at src0_byts (by decide) (HTab.out.below HC0.out)).mono ?_
  rintro e x1 ⟨⟨v, rfl, hr⟩, hb⟩
  rw [src0_lex] at hr
  obtain ⟨g1, c1, rfl, hc1, hm1⟩ := hr.some_at (by decide)
  simp only [List.length_cons, List.length_nil, Nat.zero_add, Nat.reduceAdd] at hc1 hr ⊢
  have HC1 := Lib.hid (HC0.out.trans (hb.mono HC0.out.size))
  have HT1 := Lib.hid hr
  clear hr hb
  go_wp2_with fail
  refine (awake_at (HTab.out.below HC1.out)).mono ?_
  rintro e x2 ⟨rfl, hb⟩
  have HC2 := Lib.hid (HC1.out.trans (hb.mono HC1.out.size))
  have HR2 := Lib.hid (show Below x1.heap.size x1 x2 from hb)
  clear hb
  have R := row_cells (HT1.out.below HR2.out) 0 0 (by decide) rfl
  have y0 : x2.cell? ⟨g1, 0, none⟩ = some (.int .i64 3) := R.1
  have y1 : x2.cell? ⟨g1, 1, none⟩ = some (.int .i64 0) := R.2.1
  have y2 : x2.cell? ⟨g1, 2, none⟩ = some (.int .i64 0) := R.2.2.1
  have y3 : x2.cell? ⟨g1, 3, none⟩ = some (.int .i64 0) := R.2.2.2.1
  have y4 : x2.cell? ⟨g1, 4, none⟩ = some (.string { data := #[] }) := R.2.2.2.2.1
  have y5 : x2.cell? ⟨g1, 5, none⟩ = some (.slice none 0 0) := R.2.2.2.2.2.1
  have y6 : x2.cell? ⟨g1, 6, none⟩ = some (.int .i64 0) := R.2.2.2.2.2.2
  clear R
  go_wp2_with fail
  refine (is_true 3 0 0 0 0 { data := #[] } _).mono ?_
  rintro e x3 ⟨rfl, hb⟩
  have HC3 := Lib.hid (HC2.out.trans (hb.mono HC2.out.size))
  have HR3 := Lib.hid (HR2.out.trans (hb.mono HR2.out.size))
  clear hb
  clear y0 y1 y2 y3 y4 y5 y6
  have R := row_cells (HT1.out.below HR3.out) 1 7 (by decide) rfl
  have y0 : x3.cell? ⟨g1, 7, none⟩ = some (.int .i64 5) := R.1
  have y1 : x3.cell? ⟨g1, 8, none⟩ = some (.int .i64 1) := R.2.1
  have y2 : x3.cell? ⟨g1, 9, none⟩ = some (.int .i64 0) := R.2.2.1
  have y3 : x3.cell? ⟨g1, 10, none⟩ = some (.int .i64 0) := R.2.2.2.1
  have y4 : x3.cell? ⟨g1, 11, none⟩ = some (.string { data := #[] }) := R.2.2.2.2.1
  have y5 : x3.cell? ⟨g1, 12, none⟩ = some (.slice none 0 0) := R.2.2.2.2.2.1
  have y6 : x3.cell? ⟨g1, 13, none⟩ = some (.int .i64 0) := R.2.2.2.2.2.2
  clear R
  go_wp2_with fail
  refine (is_true 5 1 0 0 0 { data := #[] } _).mono ?_
  rintro e x4 ⟨rfl, hb⟩
  have HC4 := Lib.hid (HC3.out.trans (hb.mono HC3.out.size))
  have HR4 := Lib.hid (HR3.out.trans (hb.mono HR3.out.size))
  clear hb
  clear y0 y1 y2 y3 y4 y5 y6
  have R := row_cells (HT1.out.below HR4.out) 2 14 (by decide) rfl
  have y0 : x4.cell? ⟨g1, 14, none⟩ = some (.int .i64 7) := R.1
  have y1 : x4.cell? ⟨g1, 15, none⟩ = some (.int .i64 5) := R.2.1
  have y2 : x4.cell? ⟨g1, 16, none⟩ = some (.int .i64 2) := R.2.2.1
  have y3 : x4.cell? ⟨g1, 17, none⟩ = some (.int .i64 0) := R.2.2.2.1
  have y4 : x4.cell? ⟨g1, 18, none⟩ = some (.string { data := #[55] }) := R.2.2.2.2.1
  have y5 : x4.cell? ⟨g1, 19, none⟩ = some (.slice none 0 0) := R.2.2.2.2.2.1
  have y6 : x4.cell? ⟨g1, 20, none⟩ = some (.int .i64 5) := R.2.2.2.2.2.2
  clear R
  go_wp2_with fail
  refine (dat_true 5 2 0 { data := #[55] } _).mono ?_
  rintro e x5 ⟨rfl, hb⟩
  have HC5 := Lib.hid (HC4.out.trans (hb.mono HC4.out.size))
  have HR5 := Lib.hid (HR4.out.trans (hb.mono HR4.out.size))
  clear hb
  clear y0 y1 y2 y3 y4 y5 y6
  have R := row_cells (HT1.out.below HR5.out) 3 21 (by decide) rfl
  have y0 : x5.cell? ⟨g1, 21, none⟩ = some (.int .i64 2) := R.1
  have y1 : x5.cell? ⟨g1, 22, none⟩ = some (.int .i64 8) := R.2.1
  have y2 : x5.cell? ⟨g1, 23, none⟩ = some (.int .i64 0) := R.2.2.1
  have y3 : x5.cell? ⟨g1, 24, none⟩ = some (.int .i64 0) := R.2.2.2.1
  have y4 : x5.cell? ⟨g1, 25, none⟩ = some (.string { data := #[] }) := R.2.2.2.2.1
  have y5 : x5.cell? ⟨g1, 26, none⟩ = some (.slice none 0 0) := R.2.2.2.2.2.1
  have y6 : x5.cell? ⟨g1, 27, none⟩ = some (.int .i64 0) := R.2.2.2.2.2.2
  clear R
  go_wp2_with fail
  refine (is_true 2 8 0 0 0 { data := #[] } _).mono ?_
  rintro e x6 ⟨rfl, hb⟩
  have HC6 := Lib.hid (HC5.out.trans (hb.mono HC5.out.size))
  have HR6 := Lib.hid (HR5.out.trans (hb.mono HR5.out.size))
  clear hb
  clear y0 y1 y2 y3 y4 y5 y6
  go_wp2_with fail
  refine (tokens_at src1_byts (by decide) (HTab.out.below HC6.out)).mono ?_
  rintro e x7 ⟨⟨v, rfl, hr⟩, hb⟩
  rw [src1_lex] at hr
  obtain ⟨g7, c7, rfl, hc7, hm7⟩ := hr.some_at (by decide)
  simp only [List.length_cons, List.length_nil, Nat.zero_add, Nat.reduceAdd] at hc7 hr ⊢
  have HC7 := Lib.hid (HC6.out.trans (hb.mono HC6.out.size))
  have HT7 := Lib.hid hr
  clear hr hb
  have R := row_cells HT7.out 0 0 (by decide) rfl
  have y0 : x7.cell? ⟨g7, 0, none⟩ = some (.int .i64 7) := R.1
  have y1 : x7.cell? ⟨g7, 1, none⟩ = some (.int .i64 0) := R.2.1
  have y2 : x7.cell? ⟨g7, 2, none⟩ = some (.int .i64 3) := R.2.2.1
  have y3 : x7.cell? ⟨g7, 3, none⟩ = some (.int .i64 65) := R.2.2.2.1
  have y4 : x7.cell? ⟨g7, 4, none⟩ = some (.string { data := #[] }) := R.2.2.2.2.1
  have y5 : x7.cell? ⟨g7, 5, none⟩ = some (.slice none 0 0) := R.2.2.2.2.2.1
  have y6 : x7.cell? ⟨g7, 6, none⟩ = some (.int .i64 0) := R.2.2.2.2.2.2
  clear R
  go_wp2_with fail
  refine (dat_true 0 3 65 { data := #[] } _).mono ?_
  rintro e x8 ⟨rfl, hb⟩
  have HC8 := Lib.hid (HC7.out.trans (hb.mono HC7.out.size))
  have HR8 := Lib.hid (show Below x7.heap.size x7 x8 from hb)
  clear hb
  clear y0 y1 y2 y3 y4 y5 y6
  have R := row_cells (HT7.out.below HR8.out) 1 7 (by decide) rfl
  have y0 : x8.cell? ⟨g7, 7, none⟩ = some (.int .i64 7) := R.1
  have y1 : x8.cell? ⟨g7, 8, none⟩ = some (.int .i64 6) := R.2.1
  have y2 : x8.cell? ⟨g7, 9, none⟩ = some (.int .i64 3) := R.2.2.1
  have y3 : x8.cell? ⟨g7, 10, none⟩ = some (.int .i64 120) := R.2.2.2.1
  have y4 : x8.cell? ⟨g7, 11, none⟩ = some (.string { data := #[] }) := R.2.2.2.2.1
  have y5 : x8.cell? ⟨g7, 12, none⟩ = some (.slice none 0 0) := R.2.2.2.2.2.1
  have y6 : x8.cell? ⟨g7, 13, none⟩ = some (.int .i64 6) := R.2.2.2.2.2.2
  clear R
  go_wp2_with fail
  refine (dat_true 6 3 120 { data := #[] } _).mono ?_
  rintro e x9 ⟨rfl, hb⟩
  have HC9 := Lib.hid (HC8.out.trans (hb.mono HC8.out.size))
  have HR9 := Lib.hid (HR8.out.trans (hb.mono HR8.out.size))
  clear hb
  clear y0 y1 y2 y3 y4 y5 y6
  have R := row_cells (HT7.out.below HR9.out) 2 14 (by decide) rfl
  have y0 : x9.cell? ⟨g7, 14, none⟩ = some (.int .i64 7) := R.1
  have y1 : x9.cell? ⟨g7, 15, none⟩ = some (.int .i64 10) := R.2.1
  have y2 : x9.cell? ⟨g7, 16, none⟩ = some (.int .i64 3) := R.2.2.1
  have y3 : x9.cell? ⟨g7, 17, none⟩ = some (.int .i64 40) := R.2.2.2.1
  have y4 : x9.cell? ⟨g7, 18, none⟩ = some (.string { data := #[] }) := R.2.2.2.2.1
  have y5 : x9.cell? ⟨g7, 19, none⟩ = some (.slice none 0 0) := R.2.2.2.2.2.1
  have y6 : x9.cell? ⟨g7, 20, none⟩ = some (.int .i64 10) := R.2.2.2.2.2.2
  clear R
  go_wp2_with fail
  refine (dat_true 10 3 40 { data := #[] } _).mono ?_
  rintro e x10 ⟨rfl, hb⟩
  have HC10 := Lib.hid (HC9.out.trans (hb.mono HC9.out.size))
  have HR10 := Lib.hid (HR9.out.trans (hb.mono HR9.out.size))
  clear hb
  clear y0 y1 y2 y3 y4 y5 y6
  have R := row_cells (HT7.out.below HR10.out) 3 21 (by decide) rfl
  have y0 : x10.cell? ⟨g7, 21, none⟩ = some (.int .i64 7) := R.1
  have y1 : x10.cell? ⟨g7, 22, none⟩ = some (.int .i64 14) := R.2.1
  have y2 : x10.cell? ⟨g7, 23, none⟩ = some (.int .i64 4) := R.2.2.1
  have y3 : x10.cell? ⟨g7, 24, none⟩ = some (.int .i64 0) := R.2.2.2.1
  have y4 : x10.cell? ⟨g7, 25, none⟩ = some (.string { data := #[97, 66] }) := R.2.2.2.2.1
  have y5 : x10.cell? ⟨g7, 26, none⟩ = some (.slice none 0 0) := R.2.2.2.2.2.1
  have y6 : x10.cell? ⟨g7, 27, none⟩ = some (.int .i64 14) := R.2.2.2.2.2.2
  clear R
  go_wp2_with fail
  refine (dat_true 14 4 0 { data := #[97, 66] } _).mono ?_
  rintro e x11 ⟨rfl, hb⟩
  have HC11 := Lib.hid (HC10.out.trans (hb.mono HC10.out.size))
  have HR11 := Lib.hid (HR10.out.trans (hb.mono HR10.out.size))
  clear hb
  clear y0 y1 y2 y3 y4 y5 y6
  go_wp2_with fail
  refine (tokens_at src2_byts (by decide) (HTab.out.below HC11.out)).mono ?_
  rintro e x12 ⟨⟨v, rfl, hr⟩, hb⟩
  rw [src2_lex] at hr
  obtain ⟨g12, c12, rfl, hc12, hm12⟩ := hr.some_at (by decide)
  simp only [List.length_cons, List.length_nil, Nat.zero_add, Nat.reduceAdd] at hc12 hr ⊢
  have HC12 := Lib.hid (HC11.out.trans (hb.mono HC11.out.size))
  have HT12 := Lib.hid hr
  clear hr hb
  have R := row_cells HT12.out 0 0 (by decide) rfl
  have y0 : x12.cell? ⟨g12, 0, none⟩ = some (.int .i64 7) := R.1
  have y1 : x12.cell? ⟨g12, 1, none⟩ = some (.int .i64 0) := R.2.1
  have y2 : x12.cell? ⟨g12, 2, none⟩ = some (.int .i64 2) := R.2.2.1
  have y3 : x12.cell? ⟨g12, 3, none⟩ = some (.int .i64 0) := R.2.2.2.1
  have y4 : x12.cell? ⟨g12, 4, none⟩ = some (.string { data := #[53] }) := R.2.2.2.2.1
  have y5 : x12.cell? ⟨g12, 5, none⟩ = some (.slice none 0 0) := R.2.2.2.2.2.1
  have y6 : x12.cell? ⟨g12, 6, none⟩ = some (.int .i64 0) := R.2.2.2.2.2.2
  clear R
  go_wp2_with fail
  refine (dat_true 0 2 0 { data := #[53] } _).mono ?_
  rintro e x13 ⟨rfl, hb⟩
  have HC13 := Lib.hid (HC12.out.trans (hb.mono HC12.out.size))
  have HR13 := Lib.hid (show Below x12.heap.size x12 x13 from hb)
  clear hb
  clear y0 y1 y2 y3 y4 y5 y6
  have R := row_cells (HT12.out.below HR13.out) 1 7 (by decide) rfl
  have y0 : x13.cell? ⟨g12, 7, none⟩ = some (.int .i64 7) := R.1
  have y1 : x13.cell? ⟨g12, 8, none⟩ = some (.int .i64 3) := R.2.1
  have y2 : x13.cell? ⟨g12, 9, none⟩ = some (.int .i64 2) := R.2.2.1
  have y3 : x13.cell? ⟨g12, 10, none⟩ = some (.int .i64 0) := R.2.2.2.1
  have y4 : x13.cell? ⟨g12, 11, none⟩ = some (.string { data := #[48] }) := R.2.2.2.2.1
  have y5 : x13.cell? ⟨g12, 12, none⟩ = some (.slice none 0 0) := R.2.2.2.2.2.1
  have y6 : x13.cell? ⟨g12, 13, none⟩ = some (.int .i64 3) := R.2.2.2.2.2.2
  clear R
  go_wp2_with fail
  refine (dat_true 3 2 0 { data := #[48] } _).mono ?_
  rintro e x14 ⟨rfl, hb⟩
  have HC14 := Lib.hid (HC13.out.trans (hb.mono HC13.out.size))
  have HR14 := Lib.hid (HR13.out.trans (hb.mono HR13.out.size))
  clear hb
  clear y0 y1 y2 y3 y4 y5 y6
  have R := row_cells (HT12.out.below HR14.out) 2 14 (by decide) rfl
  have y0 : x14.cell? ⟨g12, 14, none⟩ = some (.int .i64 7) := R.1
  have y1 : x14.cell? ⟨g12, 15, none⟩ = some (.int .i64 7) := R.2.1
  have y2 : x14.cell? ⟨g12, 16, none⟩ = some (.int .i64 5) := R.2.2.1
  have y3 : x14.cell? ⟨g12, 17, none⟩ = some (.int .i64 0) := R.2.2.2.1
  have y4 : x14.cell? ⟨g12, 18, none⟩ = some (.string { data := #[49, 43] }) := R.2.2.2.2.1
  have y5 : x14.cell? ⟨g12, 19, none⟩ = some (.slice none 0 0) := R.2.2.2.2.2.1
  have y6 : x14.cell? ⟨g12, 20, none⟩ = some (.int .i64 7) := R.2.2.2.2.2.2
  clear R
  go_wp2_with fail
  refine (dat_true 7 5 0 { data := #[49, 43] } _).mono ?_
  rintro e x15 ⟨rfl, hb⟩
  have HC15 := Lib.hid (HC14.out.trans (hb.mono HC14.out.size))
  have HR15 := Lib.hid (HR14.out.trans (hb.mono HR14.out.size))
  clear hb
  clear y0 y1 y2 y3 y4 y5 y6
  have R := row_cells (HT12.out.below HR15.out) 3 21 (by decide) rfl
  have y0 : x15.cell? ⟨g12, 21, none⟩ = some (.int .i64 7) := R.1
  have y1 : x15.cell? ⟨g12, 22, none⟩ = some (.int .i64 10) := R.2.1
  have y2 : x15.cell? ⟨g12, 23, none⟩ = some (.int .i64 5) := R.2.2.1
  have y3 : x15.cell? ⟨g12, 24, none⟩ = some (.int .i64 0) := R.2.2.2.1
  have y4 : x15.cell? ⟨g12, 25, none⟩ = some (.string { data := #[46, 46, 46] }) := R.2.2.2.2.1
  have y5 : x15.cell? ⟨g12, 26, none⟩ = some (.slice none 0 0) := R.2.2.2.2.2.1
  have y6 : x15.cell? ⟨g12, 27, none⟩ = some (.int .i64 10) := R.2.2.2.2.2.2
  clear R
  go_wp2_with fail
  refine (dat_true 10 5 0 { data := #[46, 46, 46] } _).mono ?_
  rintro e x16 ⟨rfl, hb⟩
  have HC16 := Lib.hid (HC15.out.trans (hb.mono HC15.out.size))
  have HR16 := Lib.hid (HR15.out.trans (hb.mono HR15.out.size))
  clear hb
  clear y0 y1 y2 y3 y4 y5 y6
  have R := row_cells (HT12.out.below HR16.out) 4 28 (by decide) rfl
  have y0 : x16.cell? ⟨g12, 28, none⟩ = some (.int .i64 7) := R.1
  have y1 : x16.cell? ⟨g12, 29, none⟩ = some (.int .i64 26) := R.2.1
  have y2 : x16.cell? ⟨g12, 30, none⟩ = some (.int .i64 5) := R.2.2.1
  have y3 : x16.cell? ⟨g12, 31, none⟩ = some (.int .i64 0) := R.2.2.2.1
  have y4 : x16.cell? ⟨g12, 32, none⟩ = some (.string { data := #[122] }) := R.2.2.2.2.1
  have y5 : x16.cell? ⟨g12, 33, none⟩ = some (.slice none 0 0) := R.2.2.2.2.2.1
  have y6 : x16.cell? ⟨g12, 34, none⟩ = some (.int .i64 26) := R.2.2.2.2.2.2
  clear R
  go_wp2_with fail
  refine (dat_true 26 5 0 { data := #[122] } _).mono ?_
  rintro e x17 ⟨rfl, hb⟩
  have HC17 := Lib.hid (HC16.out.trans (hb.mono HC16.out.size))
  have HR17 := Lib.hid (HR16.out.trans (hb.mono HR16.out.size))
  clear hb
  clear y0 y1 y2 y3 y4 y5 y6
  go_wp2_with fail
  refine (no_true no0_byts (by decide) (HTab.out.below HC17.out) no0_lex).mono ?_
  rintro e x18 ⟨rfl, hb⟩
  have HC18 := Lib.hid (HC17.out.trans (hb.mono HC17.out.size))
  clear hb
  go_wp2_with fail
  refine (no_true no1_byts (by decide) (HTab.out.below HC18.out) no1_lex).mono ?_
  rintro e x19 ⟨rfl, hb⟩
  have HC19 := Lib.hid (HC18.out.trans (hb.mono HC18.out.size))
  clear hb
  go_wp2_with fail
  refine (no_true no2_byts (by decide) (HTab.out.below HC19.out) no2_lex).mono ?_
  rintro e x20 ⟨rfl, hb⟩
  have HC20 := Lib.hid (HC19.out.trans (hb.mono HC19.out.size))
  clear hb
  go_wp2_with fail
  refine (no_true no3_byts (by decide) (HTab.out.below HC20.out) no3_lex).mono ?_
  rintro e x21 ⟨rfl, hb⟩
  have HC21 := Lib.hid (HC20.out.trans (hb.mono HC20.out.size))
  clear hb
  go_wp2_with fail
  refine (no_true no4_byts (by decide) (HTab.out.below HC21.out) no4_lex).mono ?_
  rintro e x22 ⟨rfl, hb⟩
  have HC22 := Lib.hid (HC21.out.trans (hb.mono HC21.out.size))
  clear hb
  go_wp2_with fail
  refine (no_true no5_byts (by decide) (HTab.out.below HC22.out) no5_lex).mono ?_
  rintro e x23 ⟨rfl, hb⟩
  have HC23 := Lib.hid (HC22.out.trans (hb.mono HC22.out.size))
  clear hb
  go_wp2_with fail
  refine (no_true no6_byts (by decide) (HTab.out.below HC23.out) no6_lex).mono ?_
  rintro e x24 ⟨rfl, hb⟩
  have HC24 := Lib.hid (HC23.out.trans (hb.mono HC23.out.size))
  clear hb
  go_wp2_with fail
  refine (no_true no7_byts (by decide) (HTab.out.below HC24.out) no7_lex).mono ?_
  rintro e x25 ⟨rfl, hb⟩
  have HC25 := Lib.hid (HC24.out.trans (hb.mono HC24.out.size))
  clear hb
  go_wp2_with fail
  refine (no_true no8_byts (by decide) (HTab.out.below HC25.out) no8_lex).mono ?_
  rintro e x26 ⟨rfl, hb⟩
  have HC26 := Lib.hid (HC25.out.trans (hb.mono HC25.out.size))
  clear hb
  go_wp2_with fail
  refine (tokens_at Byts.nil (by decide) (HTab.out.below HC26.out)).mono ?_
  rintro e x27 ⟨⟨v, rfl, hr⟩, hb⟩
  rw [lex_nil] at hr
  obtain ⟨p, c, rfl, -⟩ := hr.shape
  simp only [List.length_nil]
  have HC27 := Lib.hid (HC26.out.trans (hb.mono HC26.out.size))
  clear hr hb
  go_wp2_with fail
  go_ret
  exact ⟨retB (by simp), by have h := HC27.out; rw [← HX.out] at h; exact h⟩
end Go.Proofs.YtgnnkfdpfmlajaaDoor
