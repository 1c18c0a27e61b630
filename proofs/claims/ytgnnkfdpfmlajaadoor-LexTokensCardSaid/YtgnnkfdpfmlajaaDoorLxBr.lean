/- Contracts: some of the chapter's answers. Conditions: none. -/
import Derived.Test.YtgnnkfdpfmlajaaDoorLxBq
import Derived.Test.YtgnnkfdpfmlajaaDoorLxBj
namespace Go.Proofs.YtgnnkfdpfmlajaaDoor
open Go.RowKit Bg Lx
set_option linter.unusedVariables false
set_option linter.unusedSimpArgs false

theorem awake_byts : Byts [40, 97, 32, 46, 32, 35, 116, 41] := lit_byts (by decide)
set_option maxRecDepth 100000 in
set_option maxHeartbeats 8000000 in
theorem awake_at {w : World} (ht : Tab w) : Calls Tryd.prog 8 #[] w fun e w' => e = .returned (.bool true) ∧ Below w.heap.size w w' := by
  have T := Lib.hid (tokens_at awake_byts (by decide) ht)
  clear ht
  go_enter Tryd.func8, Tryd.ntmps8
  go_wp2_with fail
  refine T.out.mono ?_
  rintro e w2 ⟨⟨v, rfl, hr⟩, hb⟩
  rw [awake_lex] at hr
  obtain ⟨g, c, rfl, hc, hm⟩ := hr.some_at (by decide)
  simp only [List.length_cons, List.length_nil, Nat.zero_add, Nat.reduceAdd] at hc hr ⊢
  have HT := Lib.hid (And.intro hr hb)
  clear hr hb T
  have R0 := row_cells HT.out.1 0 0 (by decide) rfl
  have y0 : w2.cell? ⟨g, 0, none⟩ = some (.int .i64 1) := R0.1
  have y1 : w2.cell? ⟨g, 1, none⟩ = some (.int .i64 0) := R0.2.1
  have y2 : w2.cell? ⟨g, 2, none⟩ = some (.int .i64 0) := R0.2.2.1
  have y3 : w2.cell? ⟨g, 3, none⟩ = some (.int .i64 0) := R0.2.2.2.1
  have y4 : w2.cell? ⟨g, 4, none⟩ = some (.string { data := #[] }) := R0.2.2.2.2.1
  have y5 : w2.cell? ⟨g, 5, none⟩ = some (.slice none 0 0) := R0.2.2.2.2.2.1
  have y6 : w2.cell? ⟨g, 6, none⟩ = some (.int .i64 0) := R0.2.2.2.2.2.2
  clear R0
  go_wp2_with fail
  refine (is_true 1 0 0 0 0 { data := #[] } _).mono ?_
  rintro e wa0 ⟨rfl, hb⟩
  have HBa0 := Lib.hid (show Below w2.heap.size w2 wa0 from hb)
  clear hb y0 y1 y2 y3 y4 y5 y6
  have R1 := row_cells (HT.out.1.below HBa0.out) 1 7 (by decide) rfl
  have y0 : wa0.cell? ⟨g, 7, none⟩ = some (.int .i64 7) := R1.1
  have y1 : wa0.cell? ⟨g, 8, none⟩ = some (.int .i64 1) := R1.2.1
  have y2 : wa0.cell? ⟨g, 9, none⟩ = some (.int .i64 5) := R1.2.2.1
  have y3 : wa0.cell? ⟨g, 10, none⟩ = some (.int .i64 0) := R1.2.2.2.1
  have y4 : wa0.cell? ⟨g, 11, none⟩ = some (.string { data := #[97] }) := R1.2.2.2.2.1
  have y5 : wa0.cell? ⟨g, 12, none⟩ = some (.slice none 0 0) := R1.2.2.2.2.2.1
  have y6 : wa0.cell? ⟨g, 13, none⟩ = some (.int .i64 1) := R1.2.2.2.2.2.2
  clear R1
  go_wp2_with fail
  refine (dat_true 1 5 0 { data := #[97] } _).mono ?_
  rintro e wa1 ⟨rfl, hb⟩
  have HBa1 := Lib.hid (HBa0.out.trans (hb.mono HBa0.out.size))
  clear hb y0 y1 y2 y3 y4 y5 y6
  have R2 := row_cells (HT.out.1.below HBa1.out) 2 14 (by decide) rfl
  have y0 : wa1.cell? ⟨g, 14, none⟩ = some (.int .i64 6) := R2.1
  have y1 : wa1.cell? ⟨g, 15, none⟩ = some (.int .i64 3) := R2.2.1
  have y2 : wa1.cell? ⟨g, 16, none⟩ = some (.int .i64 0) := R2.2.2.1
  have y3 : wa1.cell? ⟨g, 17, none⟩ = some (.int .i64 0) := R2.2.2.2.1
  have y4 : wa1.cell? ⟨g, 18, none⟩ = some (.string { data := #[] }) := R2.2.2.2.2.1
  have y5 : wa1.cell? ⟨g, 19, none⟩ = some (.slice none 0 0) := R2.2.2.2.2.2.1
  have y6 : wa1.cell? ⟨g, 20, none⟩ = some (.int .i64 0) := R2.2.2.2.2.2.2
  clear R2
  go_wp2_with fail
  refine (is_true 6 3 0 0 0 { data := #[] } _).mono ?_
  rintro e wa2 ⟨rfl, hb⟩
  have HBa2 := Lib.hid (HBa1.out.trans (hb.mono HBa1.out.size))
  clear hb y0 y1 y2 y3 y4 y5 y6
  have R3 := row_cells (HT.out.1.below HBa2.out) 3 21 (by decide) rfl
  have y0 : wa2.cell? ⟨g, 21, none⟩ = some (.int .i64 7) := R3.1
  have y1 : wa2.cell? ⟨g, 22, none⟩ = some (.int .i64 5) := R3.2.1
  have y2 : wa2.cell? ⟨g, 23, none⟩ = some (.int .i64 1) := R3.2.2.1
  have y3 : wa2.cell? ⟨g, 24, none⟩ = some (.int .i64 1) := R3.2.2.2.1
  have y4 : wa2.cell? ⟨g, 25, none⟩ = some (.string { data := #[] }) := R3.2.2.2.2.1
  have y5 : wa2.cell? ⟨g, 26, none⟩ = some (.slice none 0 0) := R3.2.2.2.2.2.1
  have y6 : wa2.cell? ⟨g, 27, none⟩ = some (.int .i64 5) := R3.2.2.2.2.2.2
  clear R3
  go_wp2_with fail
  refine (dat_true 5 1 1 { data := #[] } _).mono ?_
  rintro e wa3 ⟨rfl, hb⟩
  have HBa3 := Lib.hid (HBa2.out.trans (hb.mono HBa2.out.size))
  clear hb y0 y1 y2 y3 y4 y5 y6
  have R4 := row_cells (HT.out.1.below HBa3.out) 4 28 (by decide) rfl
  have y0 : wa3.cell? ⟨g, 28, none⟩ = some (.int .i64 2) := R4.1
  have y1 : wa3.cell? ⟨g, 29, none⟩ = some (.int .i64 7) := R4.2.1
  have y2 : wa3.cell? ⟨g, 30, none⟩ = some (.int .i64 0) := R4.2.2.1
  have y3 : wa3.cell? ⟨g, 31, none⟩ = some (.int .i64 0) := R4.2.2.2.1
  have y4 : wa3.cell? ⟨g, 32, none⟩ = some (.string { data := #[] }) := R4.2.2.2.2.1
  have y5 : wa3.cell? ⟨g, 33, none⟩ = some (.slice none 0 0) := R4.2.2.2.2.2.1
  have y6 : wa3.cell? ⟨g, 34, none⟩ = some (.int .i64 0) := R4.2.2.2.2.2.2
  clear R4
  go_wp2_with fail
  refine (is_true 2 7 0 0 0 { data := #[] } _).mono ?_
  rintro e wa4 ⟨rfl, hb⟩
  have HBa4 := Lib.hid (HBa3.out.trans (hb.mono HBa3.out.size))
  clear hb y0 y1 y2 y3 y4 y5 y6
  go_wp2_with fail
  go_ret
  exact ⟨retB (by simp), HT.out.2.trans (HBa4.out.mono HT.out.2.size)⟩
end Go.Proofs.YtgnnkfdpfmlajaaDoor
