/- The chapter's examples, walked. Conditions: the tables of Go's library lie. -/
import Derived.Test.YtbfikbojhmfdpaaDoorUtN
namespace Go.Proofs.YtbfikbojhmfdpaaDoor
open Go.RowKit Bg
set_option linter.unusedVariables false
set_option linter.unusedSimpArgs false


theorem lit_arg (w : World) (l : List Int) (h : l.length ≤ 100) : Arg .u8 (w.alloc (.cells (l.map (Value.int .u8)).toArray 5)) (some ⟨w.heap.size, 0, none⟩) l.length l := by
  obtain ⟨p, c, e, a, -⟩ := (own_lit w l h).arg
  cases e
  exact a
theorem lit_int (w : World) (l : List Int) (h : l.length ≤ 100) : Arg .i64 (w.alloc (.cells (l.map (Value.int .i64)).toArray 3)) (some ⟨w.heap.size, 0, none⟩) l.length l := by
  have ho : Own 3 .i64 w.heap.size (w.alloc (.cells (l.map (Value.int .i64)).toArray 3)) (.slice (some ⟨w.heap.size, 0, none⟩) l.length l.length) l := by
    refine ⟨by rw [List.length_map, Nat.mul_one], Or.inr ⟨w.heap.size, l.length, (l.map (Value.int .i64)).toArray, rfl, Nat.le_refl _, heap_new w _, Nat.le_refl _, by unfold maxLen; omega, by simp, ?_⟩⟩
    exact List.take_of_length_le (by simp)
  obtain ⟨p, c, e, a, -⟩ := ho.arg
  cases e
  exact a
theorem below_new (w : World) (o : Obj) : Below w.heap.size w (w.alloc o) := (Below.refl _ _).alloc (Nat.le_refl _) _
theorem pst0 : pst 65 = { data := #[65] } := by rfl
theorem pe0 : pe 65 = 0 := by decide
theorem pst1 : pst 233 = { data := #[195, 169] } := by rfl
theorem pe1 : pe 233 = 0 := by decide
theorem pst2 : pst 8364 = { data := #[226, 130, 172] } := by rfl
theorem pe2 : pe 8364 = 0 := by decide
theorem pst3 : pst 128512 = { data := #[240, 159, 152, 128] } := by rfl
theorem pe3 : pe 128512 = 0 := by decide
theorem pst4 : pst 55296 = { data := #[] } := by rfl
theorem pe4 : pe 55296 = 2 := by decide
theorem got0 {w : World} {b c : Nat} (a : Arg .u8 w (some ⟨b, 0, none⟩) c [195, 169, 65]) (ht : Tab w) : Calls Tryd.prog 12 #[.slice (some ⟨b, 0, none⟩) 3 c, .int .i64 0] w fun e w' => e = .returned (.tuple #[.int .i64 233, .int .i64 2, .int .i64 0]) ∧ Below w.heap.size w w' := by
  have T := get_at a (by intro x hx; simp at hx; omega) (by decide) ht 0
  rw [show gC [195, 169, 65] 0 = 233 from by decide, show gN [195, 169, 65] 0 = 2 from by decide, show gE [195, 169, 65] 0 = 0 from by decide] at T
  exact T
theorem got1 {w : World} {b c : Nat} (a : Arg .u8 w (some ⟨b, 0, none⟩) c [195, 169, 65]) (ht : Tab w) : Calls Tryd.prog 12 #[.slice (some ⟨b, 0, none⟩) 3 c, .int .i64 1] w fun e w' => e = .returned (.tuple #[.int .i64 0, .int .i64 0, .int .i64 4]) ∧ Below w.heap.size w w' := by
  have T := get_at a (by intro x hx; simp at hx; omega) (by decide) ht 1
  rw [show gC [195, 169, 65] 1 = 0 from by decide, show gN [195, 169, 65] 1 = 0 from by decide, show gE [195, 169, 65] 1 = 4 from by decide] at T
  exact T
theorem got2 {w : World} {b c : Nat} (a : Arg .u8 w (some ⟨b, 0, none⟩) c [195, 169, 65]) (ht : Tab w) : Calls Tryd.prog 12 #[.slice (some ⟨b, 0, none⟩) 3 c, .int .i64 2] w fun e w' => e = .returned (.tuple #[.int .i64 65, .int .i64 1, .int .i64 0]) ∧ Below w.heap.size w w' := by
  have T := get_at a (by intro x hx; simp at hx; omega) (by decide) ht 2
  rw [show gC [195, 169, 65] 2 = 65 from by decide, show gN [195, 169, 65] 2 = 1 from by decide, show gE [195, 169, 65] 2 = 0 from by decide] at T
  exact T
theorem got3 {w : World} {b c : Nat} (a : Arg .u8 w (some ⟨b, 0, none⟩) c [195, 169, 65]) (ht : Tab w) : Calls Tryd.prog 12 #[.slice (some ⟨b, 0, none⟩) 3 c, .int .i64 3] w fun e w' => e = .returned (.tuple #[.int .i64 0, .int .i64 0, .int .i64 2]) ∧ Below w.heap.size w w' := by
  have T := get_at a (by intro x hx; simp at hx; omega) (by decide) ht 3
  rw [show gC [195, 169, 65] 3 = 0 from by decide, show gN [195, 169, 65] 3 = 0 from by decide, show gE [195, 169, 65] 3 = 2 from by decide] at T
  exact T
theorem got4 {w : World} {b c : Nat} (a : Arg .u8 w (some ⟨b, 0, none⟩) c [192, 128]) (ht : Tab w) : Calls Tryd.prog 12 #[.slice (some ⟨b, 0, none⟩) 2 c, .int .i64 0] w fun e w' => e = .returned (.tuple #[.int .i64 0, .int .i64 0, .int .i64 4]) ∧ Below w.heap.size w w' := by
  have T := get_at a (by intro x hx; simp at hx; omega) (by decide) ht 0
  rw [show gC [192, 128] 0 = 0 from by decide, show gN [192, 128] 0 = 0 from by decide, show gE [192, 128] 0 = 4 from by decide] at T
  exact T
theorem got5 {w : World} {b c : Nat} (a : Arg .u8 w (some ⟨b, 0, none⟩) c [237, 160, 128]) (ht : Tab w) : Calls Tryd.prog 12 #[.slice (some ⟨b, 0, none⟩) 3 c, .int .i64 0] w fun e w' => e = .returned (.tuple #[.int .i64 0, .int .i64 0, .int .i64 4]) ∧ Below w.heap.size w w' := by
  have T := get_at a (by intro x hx; simp at hx; omega) (by decide) ht 0
  rw [show gC [237, 160, 128] 0 = 0 from by decide, show gN [237, 160, 128] 0 = 0 from by decide, show gE [237, 160, 128] 0 = 4 from by decide] at T
  exact T
theorem got6 {w : World} {b c : Nat} (a : Arg .u8 w (some ⟨b, 0, none⟩) c [244, 144, 128, 128]) (ht : Tab w) : Calls Tryd.prog 12 #[.slice (some ⟨b, 0, none⟩) 4 c, .int .i64 0] w fun e w' => e = .returned (.tuple #[.int .i64 0, .int .i64 0, .int .i64 4]) ∧ Below w.heap.size w w' := by
  have T := get_at a (by intro x hx; simp at hx; omega) (by decide) ht 0
  rw [show gC [244, 144, 128, 128] 0 = 0 from by decide, show gN [244, 144, 128, 128] 0 = 0 from by decide, show gE [244, 144, 128, 128] 0 = 4 from by decide] at T
  exact T
theorem got7 {w : World} {b c : Nat} (a : Arg .u8 w (some ⟨b, 0, none⟩) c [226, 130]) (ht : Tab w) : Calls Tryd.prog 12 #[.slice (some ⟨b, 0, none⟩) 2 c, .int .i64 0] w fun e w' => e = .returned (.tuple #[.int .i64 0, .int .i64 0, .int .i64 4]) ∧ Below w.heap.size w w' := by
  have T := get_at a (by intro x hx; simp at hx; omega) (by decide) ht 0
  rw [show gC [226, 130] 0 = 0 from by decide, show gN [226, 130] 0 = 0 from by decide, show gE [226, 130] 0 = 4 from by decide] at T
  exact T
theorem text1 {w : World} {b c : Nat} (a : Arg .i64 w (some ⟨b, 0, none⟩) c [65533]) : Calls Tryd.prog 21 #[.slice (some ⟨b, 0, none⟩) 1 c] w fun e w' => e = .returned (.tuple #[.string { data := #[239, 191, 189] }, .int .i64 0]) ∧ Below w.heap.size w w' := by
  have T := text_at a (by decide)
  rw [show tS [65533] = { data := #[239, 191, 189] } from by rfl, show tE [65533] = 0 from by decide] at T
  exact T
theorem codes1 (w : World) : Calls Tryd.prog 19 #[.string { data := #[239, 191, 189] }] w fun e w' => ∃ v x, e = .returned (.tuple #[v, .int .i64 x]) ∧ CodesIs w.heap.size w' [239, 191, 189] v x ∧ Below w.heap.size w w' := by
  have T := codes_at (l := [239, 191, 189]) (by intro x hx; simp at hx; omega) (by decide) w
  rw [show strOfNums [239, 191, 189] = { data := #[239, 191, 189] } from rfl] at T
  exact T

set_option maxRecDepth 100000 in
set_option maxHeartbeats 20000000 in
theorem known_any {w : World} (ht : Tab w) : Calls Tryd.prog 8 #[] w fun e w' => e = .returned (.bool true) ∧ Below w.heap.size w w' := by
  have H0 := Lib.hid ht
  clear ht
  go_enter Tryd.func8, Tryd.ntmps8
  have p0 := pst0; have p1 := pst1; have p2 := pst2; have p3 := pst3; have p4 := pst4
  have q0 := pe0; have q1 := pe1; have q2 := pe2; have q3 := pe3; have q4 := pe4
  go_wp2_with (go_at_call 10; refine (put_at _ _).mono ?_; rintro e w' ⟨rfl, rfl⟩)
  clear p0 p1 p2 p3 p4 q0 q1 q2 q3 q4
  obtain ⟨x0, hx0⟩ : ∃ x, x = w.alloc (.cells #[.int .u8 195, .int .u8 169, .int .u8 65] 5) := ⟨_, rfl⟩
  have ax0 : Arg .u8 x0 (some ⟨w.heap.size, 0, none⟩) 3 [195, 169, 65] := by rw [hx0]; exact lit_arg w [195, 169, 65] (by decide)
  have bx0 : Below w.heap.size w x0 := by rw [hx0]; exact below_new _ _
  have H1 := Lib.hid (And.intro (H0.out.below bx0) (And.intro bx0 ax0))
  rw [← hx0]
  clear hx0 ax0 bx0
  refine (got0 H1.out.2.2 H1.out.1).mono ?_
  rintro e y0 ⟨rfl, bb⟩
  have H2 := Lib.hid (And.intro (H1.out.1.below bb) (And.intro (H1.out.2.1.trans (bb.mono H1.out.2.1.size)) (H1.out.2.2.below bb)))
  clear bb
  go_wp2_with fail
  refine (got1 H2.out.2.2 H2.out.1).mono ?_
  rintro e y1 ⟨rfl, bb⟩
  have H3 := Lib.hid (And.intro (H2.out.1.below bb) (And.intro (H2.out.2.1.trans (bb.mono H2.out.2.1.size)) (H2.out.2.2.below bb)))
  clear bb
  go_wp2_with fail
  refine (got2 H3.out.2.2 H3.out.1).mono ?_
  rintro e y2 ⟨rfl, bb⟩
  have H4 := Lib.hid (And.intro (H3.out.1.below bb) (And.intro (H3.out.2.1.trans (bb.mono H3.out.2.1.size)) (H3.out.2.2.below bb)))
  clear bb
  go_wp2_with fail
  refine (got3 H4.out.2.2 H4.out.1).mono ?_
  rintro e y3 ⟨rfl, bb⟩
  have H5 := Lib.hid (And.intro (H4.out.1.below bb) (And.intro (H4.out.2.1.trans (bb.mono H4.out.2.1.size)) (H4.out.2.2.below bb)))
  clear bb
  go_wp2_with fail
  obtain ⟨x4, hx4⟩ : ∃ x, x = y3.alloc (.cells #[.int .u8 192, .int .u8 128] 5) := ⟨_, rfl⟩
  have ax4 : Arg .u8 x4 (some ⟨y3.heap.size, 0, none⟩) 2 [192, 128] := by rw [hx4]; exact lit_arg y3 [192, 128] (by decide)
  have bx4 : Below y3.heap.size y3 x4 := by rw [hx4]; exact below_new _ _
  have H6 := Lib.hid (And.intro (H5.out.1.below bx4) (And.intro (H5.out.2.1.trans (bx4.mono H5.out.2.1.size)) ax4))
  rw [← hx4]
  clear hx4 ax4 bx4
  refine (got4 H6.out.2.2 H6.out.1).mono ?_
  rintro e y4 ⟨rfl, bb⟩
  have H7 := Lib.hid (And.intro (H6.out.1.below bb) (And.intro (H6.out.2.1.trans (bb.mono H6.out.2.1.size)) trivial))
  clear bb
  go_wp2_with fail
  obtain ⟨x5, hx5⟩ : ∃ x, x = y4.alloc (.cells #[.int .u8 237, .int .u8 160, .int .u8 128] 5) := ⟨_, rfl⟩
  have ax5 : Arg .u8 x5 (some ⟨y4.heap.size, 0, none⟩) 3 [237, 160, 128] := by rw [hx5]; exact lit_arg y4 [237, 160, 128] (by decide)
  have bx5 : Below y4.heap.size y4 x5 := by rw [hx5]; exact below_new _ _
  have H8 := Lib.hid (And.intro (H7.out.1.below bx5) (And.intro (H7.out.2.1.trans (bx5.mono H7.out.2.1.size)) ax5))
  rw [← hx5]
  clear hx5 ax5 bx5
  refine (got5 H8.out.2.2 H8.out.1).mono ?_
  rintro e y5 ⟨rfl, bb⟩
  have H9 := Lib.hid (And.intro (H8.out.1.below bb) (And.intro (H8.out.2.1.trans (bb.mono H8.out.2.1.size)) trivial))
  clear bb
  go_wp2_with fail
  obtain ⟨x6, hx6⟩ : ∃ x, x = y5.alloc (.cells #[.int .u8 244, .int .u8 144, .int .u8 128, .int .u8 128] 5) := ⟨_, rfl⟩
  have ax6 : Arg .u8 x6 (some ⟨y5.heap.size, 0, none⟩) 4 [244, 144, 128, 128] := by rw [hx6]; exact lit_arg y5 [244, 144, 128, 128] (by decide)
  have bx6 : Below y5.heap.size y5 x6 := by rw [hx6]; exact below_new _ _
  have H10 := Lib.hid (And.intro (H9.out.1.below bx6) (And.intro (H9.out.2.1.trans (bx6.mono H9.out.2.1.size)) ax6))
  rw [← hx6]
  clear hx6 ax6 bx6
  refine (got6 H10.out.2.2 H10.out.1).mono ?_
  rintro e y6 ⟨rfl, bb⟩
  have H11 := Lib.hid (And.intro (H10.out.1.below bb) (And.intro (H10.out.2.1.trans (bb.mono H10.out.2.1.size)) trivial))
  clear bb
  go_wp2_with fail
  obtain ⟨x7, hx7⟩ : ∃ x, x = y6.alloc (.cells #[.int .u8 226, .int .u8 130] 5) := ⟨_, rfl⟩
  have ax7 : Arg .u8 x7 (some ⟨y6.heap.size, 0, none⟩) 2 [226, 130] := by rw [hx7]; exact lit_arg y6 [226, 130] (by decide)
  have bx7 : Below y6.heap.size y6 x7 := by rw [hx7]; exact below_new _ _
  have H12 := Lib.hid (And.intro (H11.out.1.below bx7) (And.intro (H11.out.2.1.trans (bx7.mono H11.out.2.1.size)) ax7))
  rw [← hx7]
  clear hx7 ax7 bx7
  refine (got7 H12.out.2.2 H12.out.1).mono ?_
  rintro e y7 ⟨rfl, bb⟩
  have H13 := Lib.hid (And.intro (H12.out.1.below bb) (And.intro (H12.out.2.1.trans (bb.mono H12.out.2.1.size)) trivial))
  clear bb
  go_wp2_with fail
  obtain ⟨x8, hx8⟩ : ∃ x, x = y7.alloc (.cells #[.int .u8 65, .int .u8 255] 5) := ⟨_, rfl⟩
  have ax8 : Arg .u8 x8 (some ⟨y7.heap.size, 0, none⟩) 2 [65, 255] := by rw [hx8]; exact lit_arg y7 [65, 255] (by decide)
  have bx8 : Below y7.heap.size y7 x8 := by rw [hx8]; exact below_new _ _
  have H14 := Lib.hid (And.intro (H13.out.1.below bx8) (And.intro (H13.out.2.1.trans (bx8.mono H13.out.2.1.size)) ax8))
  rw [← hx8]
  clear hx8 ax8 bx8
  refine (all_at H14.out.2.2 (by intro x hx; simp at hx; omega) (by decide)).mono ?_
  rintro e y8 ⟨v8, i8, j8, rfl, hall, bb⟩
  have hi8 : i8 = 4 ∧ j8 = 1 := by
    obtain ⟨cs, rest, h1, h2, h3, -⟩ := hall
    obtain ⟨rfl, rfl⟩ := h1.unique (⟨by intro c hc; simp at hc; rw [hc]; decide, by decide, by decide⟩ : Split [65, 255] [65] [255])
    rw [h2, h3]
    exact ⟨by decide, by decide⟩
  obtain ⟨rfl, rfl⟩ := hi8
  have H15 := Lib.hid (And.intro (H14.out.1.below bb) (H14.out.2.1.trans (bb.mono H14.out.2.1.size)))
  clear bb hall
  go_wp2_with fail
  obtain ⟨z0, hz0⟩ : ∃ x, x = y8.alloc (.cells #[.int .i64 4, .int .i64 1] 39) := ⟨_, rfl⟩
  have bz0 : Below y8.heap.size y8 z0 := by rw [hz0]; exact below_new _ _
  have cz0 : z0.cell? ⟨y8.heap.size, 0, none⟩ = some (.int .i64 4) := by rw [hz0]; unfold World.cell?; rw [heap_new]; rfl
  have cz1 : z0.cell? ⟨y8.heap.size, 1, none⟩ = some (.int .i64 1) := by rw [hz0]; unfold World.cell?; rw [heap_new]; rfl
  have hs0 : z0.heap.size = y8.heap.size + 1 := by rw [hz0]; simp
  rw [← hz0]
  clear hz0
  obtain ⟨z1, hz1⟩ : ∃ x, x = z0.alloc (.cells #[.int .i64 65533] 3) := ⟨_, rfl⟩
  have bz1 : Below z0.heap.size z0 z1 := by rw [hz1]; exact below_new _ _
  have az1 : Arg .i64 z1 (some ⟨z0.heap.size, 0, none⟩) 1 [65533] := by rw [hz1]; exact lit_int z0 [65533] (by decide)
  rw [hs0] at az1
  have hlt := World.block_lt_of_cell? z0 _ cz0
  have cy0 := (bz1.cell (p := ⟨y8.heap.size, 0, none⟩) hlt).trans cz0
  have cy1 := (bz1.cell (p := ⟨y8.heap.size, 1, none⟩) hlt).trans cz1
  have HA := Lib.hid (And.intro ((H15.out.1.below bz0).below bz1) (And.intro ((H15.out.2.trans (bz0.mono H15.out.2.size)).trans (bz1.mono (H15.out.2.trans (bz0.mono H15.out.2.size)).size)) (And.intro az1 (And.intro cy0 cy1))))
  rw [← hz1]
  clear hz1 bz0 bz1 cz0 cz1 az1 cy0 cy1 hlt hs0
  refine (text1 HA.out.2.2.1).mono ?_
  rintro e z2 ⟨rfl, bb⟩
  have HB := Lib.hid (And.intro (HA.out.1.below bb) (And.intro (HA.out.2.1.trans (bb.mono HA.out.2.1.size)) (And.intro ((bb.cell (p := ⟨y8.heap.size, 0, none⟩) (World.block_lt_of_cell? z1 _ HA.out.2.2.2.1)).trans HA.out.2.2.2.1) ((bb.cell (p := ⟨y8.heap.size, 1, none⟩) (World.block_lt_of_cell? z1 _ HA.out.2.2.2.2)).trans HA.out.2.2.2.2))))
  clear bb
  go_wp2_with fail
  refine (codes1 z2).mono ?_
  rintro e z3 ⟨v, x, rfl, ⟨cs, rest, hsp, hx, hown⟩, bb⟩
  obtain ⟨rfl, rfl⟩ := hsp.unique (⟨by intro c hc; simp at hc; rw [hc]; decide, by decide, by decide⟩ : Split [239, 191, 189] [65533] [])
  have hx0 : x = 0 := by rw [hx]; decide
  subst hx0
  have hown' : Own 3 .i64 z2.heap.size z3 v [65533] := hown
  obtain ⟨g, c, rfl, hg1, hg2, hc1, hc2⟩ := hown'.at (by decide)
  have hcv := hown'.cell 0 (by decide)
  have hcv' : z3.cell? ⟨g, 0, none⟩ = some (.int .i64 65533) := hcv
  have e0 := (bb.cell (p := ⟨y8.heap.size, 0, none⟩) (World.block_lt_of_cell? z2 _ HB.out.2.2.1)).trans HB.out.2.2.1
  have e1 := (bb.cell (p := ⟨y8.heap.size, 1, none⟩) (World.block_lt_of_cell? z2 _ HB.out.2.2.2)).trans HB.out.2.2.2
  have HC := Lib.hid (And.intro (HB.out.1.below bb) (HB.out.2.1.trans (bb.mono HB.out.2.1.size)))
  have hc3 : 1 ≤ c := hc1
  have hc4 : ([65533] : List Int).length = 1 := rfl
  rw [hc4]
  clear bb hown hown' hsp hx hcv hg1 hg2 hc1 hc4
  go_wp2_with (go_at_call 16; refine (works_at HC.out.1).mono ?_; rintro e z4 ⟨rfl, bb⟩; have HD := Lib.hid (HC.out.2.trans (bb.mono HC.out.2.size)); clear bb)
  all_goals go_ret
  all_goals exact ⟨rfl, HD.out⟩
end Go.Proofs.YtbfikbojhmfdpaaDoor
