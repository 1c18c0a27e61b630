/- The walk of LinkKnown: the chapter's examples. Conditions: the table of forms is as laid. -/
import Derived.Test.YtbplmbignalbgaaDoorLiK
namespace Go.Proofs.YtbplmbignalbgaaDoor
open Go.RowKit Asm
set_option linter.unusedVariables false
set_option linter.unusedSimpArgs false

def knA : List It := [⟨7, 0, 0, 0, 0, 0, ⟨#[121]⟩, 0⟩]
def knB : List It := [⟨2, 0, 0, 0, 0, 0, ⟨#[121]⟩, 0⟩, ⟨6, 0, 0, 0, 0, 0, ⟨#[]⟩, 1⟩]
def kn1 : List Ob := [⟨⟨#[97]⟩, knA⟩, ⟨⟨#[98]⟩, knB⟩]
def kn2 : List Ob := [⟨⟨#[97]⟩, knA⟩, ⟨⟨#[97]⟩, knA⟩]
def kn3 : List Ob := [⟨⟨#[46, 98]⟩, []⟩]
def kn4 : List Ob := [⟨⟨#[]⟩, []⟩]
def kn5 : List Ob := [⟨⟨#[97]⟩, knA⟩]
theorem kn1_lc : lcheck kn1 = 0 := by decide +kernel
theorem kn1_check : check (litX (flat kn1)) (flat kn1).length 0 = 0 := by decide +kernel
theorem kn1_least : Least (litX (flat kn1)) (flat kn1).length 0 (fun i => first (litX (flat kn1) i)) := ⟨Under.start, by unfold Fits; decide +kernel⟩
theorem kn1_words : wordsL (litX (flat kn1)) (flat kn1).length 0 (fun i => first (litX (flat kn1) i)) (flat kn1).length = [4, 1] := by decide +kernel
theorem kn1_places : placesL (litX (flat kn1)) (ad (litX (flat kn1)) 0 (fun i => first (litX (flat kn1) i))) (flat kn1).length = [(⟨#[121]⟩, 1)] := by decide +kernel
theorem kn1_ad : ad (litX (flat kn1)) 0 (fun i => first (litX (flat kn1) i)) (flat kn1).length ≤ 67108864 := by decide +kernel
theorem kn6_lc : lcheck ([] : List Ob) = 0 := by decide +kernel
theorem kn6_check : check (litX (flat ([] : List Ob))) (flat ([] : List Ob)).length 0 = 0 := by decide +kernel
theorem kn6_least : Least (litX (flat ([] : List Ob))) (flat ([] : List Ob)).length 0 (fun i => first (litX (flat ([] : List Ob)) i)) := ⟨Under.start, by unfold Fits; decide +kernel⟩
theorem kn6_words : wordsL (litX (flat ([] : List Ob))) (flat ([] : List Ob)).length 0 (fun i => first (litX (flat ([] : List Ob)) i)) (flat ([] : List Ob)).length = [] := by decide +kernel
theorem kn6_places : placesL (litX (flat ([] : List Ob))) (ad (litX (flat ([] : List Ob))) 0 (fun i => first (litX (flat ([] : List Ob)) i))) (flat ([] : List Ob)).length = [] := by decide +kernel
theorem kn6_ad : ad (litX (flat ([] : List Ob))) 0 (fun i => first (litX (flat ([] : List Ob)) i)) (flat ([] : List Ob)).length ≤ 67108864 := by decide +kernel
theorem objs_no (w : World) : Objs w none 0 [] := ⟨fun _ => ⟨rfl, rfl⟩, Nat.le_refl _, by omega, fun h => absurd h (Nat.lt_irrefl _), fun i hi => absurd hi (Nat.not_lt_zero _)⟩
/-- One object, or two, in a block. -/
theorem objs_1 {w : World} {b n1 m1 : Nat} {q1 : Option Addr} {s1 : ByteArray} {M1 : List It} (h : w.heap[b]? = some (.cells #[.string s1, .slice q1 n1 m1] 49 (0, 0))) (hn : n1 = M1.length) (h1 : Items w q1 n1 m1 (litX M1)) (hs : s1.size ≤ 1000) : Objs w (some ⟨b, 0, none⟩) 1 [⟨s1, M1⟩] := by
  subst hn
  refine objs_mk (Nat.le_refl 1) (by decide) (fun i hi => ?_) fun i hi => ?_
  · obtain rfl : i = 0 := by have : i < 1 := hi; omega
    exact hs
  · obtain rfl : i = 0 := by have : i < 1 := hi; omega
    exact ⟨cell_of_row w b 0 _ 49 _ h, q1, m1, cell_of_row w b 1 _ 49 _ h, h1⟩
theorem objs_2 {w : World} {b n1 m1 n2 m2 : Nat} {q1 q2 : Option Addr} {s1 s2 : ByteArray} {M1 M2 : List It} (h : w.heap[b]? = some (.cells #[.string s1, .slice q1 n1 m1, .string s2, .slice q2 n2 m2] 49 (0, 0))) (hn : n1 = M1.length) (hn2 : n2 = M2.length) (h1 : Items w q1 n1 m1 (litX M1)) (h2 : Items w q2 n2 m2 (litX M2)) (hs : s1.size ≤ 1000) (hs2 : s2.size ≤ 1000) : Objs w (some ⟨b, 0, none⟩) 2 [⟨s1, M1⟩, ⟨s2, M2⟩] := by
  subst hn hn2
  refine objs_mk (Nat.le_refl 2) (by decide) (fun i hi => ?_) fun i hi => ?_
  · rcases (show i = 0 ∨ i = 1 by have : i < 2 := hi; omega) with rfl | rfl
    · exact hs
    · exact hs2
  · rcases (show i = 0 ∨ i = 1 by have : i < 2 := hi; omega) with rfl | rfl
    · exact ⟨cell_of_row w b 0 _ 49 _ h, q1, m1, cell_of_row w b 1 _ 49 _ h, h1⟩
    · exact ⟨cell_of_row w b 2 _ 49 _ h, q2, m2, cell_of_row w b 3 _ 49 _ h, h2⟩
/-- Link, of objects that were just laid. -/
theorem link_lit {W w5 : World} {b k : Nat} {L : List Ob} (hb : Below W.heap.size W w5) (hE : Env W) (ho : Objs w5 (some ⟨b, 0, none⟩) k L) (hf : fewB L = true) (hk : k = L.length) (base : Int) :
    Calls Tryd.prog 11 #[.slice (some ⟨b, 0, none⟩) k k, .int .i64 base] w5 fun e w' => Linked w5 w' L base e ∧ Below w5.heap.size w5 w' := by
  have h := link_at ho (few_of hf) (hE.below hb) base
  rw [← hk] at h
  exact h
theorem link_none {W w5 : World} (hb : Below W.heap.size W w5) (hE : Env W) (base : Int) : Calls Tryd.prog 11 #[.slice none 0 0, .int .i64 base] w5 fun e w' => Linked w5 w' [] base e ∧ Below w5.heap.size w5 w' :=
  link_at (objs_no w5) (few_of (by decide)) (hE.below hb) base
set_option maxRecDepth 100000 in
set_option maxHeartbeats 32000000 in
theorem known_any (w : World) (h : Env w) : Calls Tryd.prog 7 #[] w fun e w' => e = .returned (.bool true) ∧ Below w.heap.size w w' := by
  have HE := Lib.hid h
  clear h
  go_enter Tryd.func7, Tryd.ntmps7
  go_upto_region 3 with fail
  refine wp_four ?_
  intro w4 f1 f2 f3 f4 fb fs
  obtain ⟨S, hS⟩ : ∃ S, S = w.heap.size := ⟨_, rfl⟩
  rw [← hS] at f1 f2 f3 f4 fs
  rw [← hS]
  have HS := Lib.hid hS
  have HB := Lib.hid fb
  clear hS fb
  obtain ⟨a0, a1⟩ := cells2 f2
  obtain ⟨b0, b1⟩ := cells2 f4
  have hKA : Items w4 (some ⟨S, 0, none⟩) 1 1 (litX knA) := items_lit (M := knA) f1 ((okB_of (by decide +kernel)).mono (by decide)) rfl (by decide) _ rfl
  have hKB : Items w4 (some ⟨S + 1 + 1, 0, none⟩) 2 2 (litX knB) := items_lit (M := knB) f3 ((okB_of (by decide +kernel)).mono (by decide)) rfl (by decide) _ rfl
  have HI := Lib.hid (And.intro hKA hKB)
  clear f1 f2 f3 f4 hKA hKB
  obtain ⟨n4, hn4⟩ : ∃ n4, n4 = w4.heap.size := ⟨_, rfl⟩
  have HG := Lib.hid (Below.refl w4.heap.size w4)
  clear hn4 n4
  go_wp2_with fail
  refine calls_one ?_
  intro x1 g1 gb1
  rw [fs] at g1
  have hbi := HG.out.trans (gb1.mono HG.out.size)
  have hb0 := HB.out.trans (gb1.mono HB.out.size)
  have hIA := HI.out.1.below hbi
  have hIB := HI.out.2.below hbi
  refine (link_lit hb0 HE.out (objs_2 g1 rfl rfl hIA hIB (by decide) (by decide) : Objs _ _ _ kn1) (by decide +kernel) rfl 0).mono ?_
  replace a0 := (gb1.cell (World.block_lt_of_cell? w4 _ a0)).trans a0
  replace a1 := (gb1.cell (World.block_lt_of_cell? w4 _ a1)).trans a1
  replace b0 := (gb1.cell (World.block_lt_of_cell? w4 _ b0)).trans b0
  replace b1 := (gb1.cell (World.block_lt_of_cell? w4 _ b1)).trans b1
  rintro e y1 ⟨hl, hb1⟩
  replace a0 := (hb1.cell (World.block_lt_of_cell? x1 _ a0)).trans a0
  replace a1 := (hb1.cell (World.block_lt_of_cell? x1 _ a1)).trans a1
  replace b0 := (hb1.cell (World.block_lt_of_cell? x1 _ b0)).trans b0
  replace b1 := (hb1.cell (World.block_lt_of_cell? x1 _ b1)).trans b1
  have hbi2 := hbi.trans (hb1.mono hbi.size)
  have hb02 := hb0.trans (hb1.mono hb0.size)
  obtain ⟨O1, pp1, cp1, rfl, hw1, hp1⟩ := linked_good hl kn1_lc kn1_check kn1_least kn1_ad kn1_words kn1_places 2 1 rfl rfl
  have r0 : y1.cell? ⟨O1, 0, none⟩ = some (.int .u32 4) := (hw1.cellAt 0 (by decide)).trans rfl
  have r1 : y1.cell? ⟨O1, 1, none⟩ = some (.int .u32 1) := (hw1.cellAt 1 (by decide)).trans rfl
  have HP := Lib.hid hp1
  clear hw1 hp1
  clear HG HB
  have HG := Lib.hid hbi2
  have HB := Lib.hid hb02
  clear hl hb1 hbi2 hb02 hbi hb0 hIA hIB g1 gb1
  go_upto_region 4 with fail
  refine wp_one ?_
  intro z1 h1 hb1
  replace a0 := (hb1.cell (World.block_lt_of_cell? y1 _ a0)).trans a0
  replace a1 := (hb1.cell (World.block_lt_of_cell? y1 _ a1)).trans a1
  replace b0 := (hb1.cell (World.block_lt_of_cell? y1 _ b0)).trans b0
  replace b1 := (hb1.cell (World.block_lt_of_cell? y1 _ b1)).trans b1
  obtain ⟨T1, hT1⟩ : ∃ T, T = y1.heap.size := ⟨_, rfl⟩
  rw [← hT1] at h1
  rw [← hT1]
  have hbi2 := HG.out.trans (hb1.mono HG.out.size)
  have hb02 := HB.out.trans (hb1.mono HB.out.size)
  clear HG HB
  have HG := Lib.hid hbi2
  have HB := Lib.hid hb02
  clear hbi2 hb02 hT1
  replace r0 := (hb1.cell (World.block_lt_of_cell? y1 _ r0)).trans r0
  replace r1 := (hb1.cell (World.block_lt_of_cell? y1 _ r1)).trans r1
  have hp1 := own_below HP.out hb1
  clear HP
  have HP := Lib.hid hp1
  obtain ⟨d0, d1⟩ := cells2 h1
  have HZ := Lib.hid (Below.refl z1.heap.size z1)
  clear hp1 h1 hb1 fs
  clear b0 b1
  go_wp2_with fail
  refine calls_one ?_
  intro x2 g2 gb2
  have hbi := HG.out.trans (gb2.mono HG.out.size)
  have hb0 := HB.out.trans (gb2.mono HB.out.size)
  have hIA := HI.out.1.below hbi
  have hIB := HI.out.2.below hbi
  refine (link_lit hb0 HE.out (objs_2 g2 rfl rfl hIA hIA (by decide) (by decide) : Objs _ _ _ kn2) (by decide +kernel) rfl 0).mono ?_
  replace a0 := (gb2.cell (World.block_lt_of_cell? z1 _ a0)).trans a0
  replace a1 := (gb2.cell (World.block_lt_of_cell? z1 _ a1)).trans a1
  replace r0 := (gb2.cell (World.block_lt_of_cell? z1 _ r0)).trans r0
  replace r1 := (gb2.cell (World.block_lt_of_cell? z1 _ r1)).trans r1
  replace d0 := (gb2.cell (World.block_lt_of_cell? z1 _ d0)).trans d0
  replace d1 := (gb2.cell (World.block_lt_of_cell? z1 _ d1)).trans d1
  rintro e y2 ⟨hl, hb2⟩
  replace a0 := (hb2.cell (World.block_lt_of_cell? x2 _ a0)).trans a0
  replace a1 := (hb2.cell (World.block_lt_of_cell? x2 _ a1)).trans a1
  replace r0 := (hb2.cell (World.block_lt_of_cell? x2 _ r0)).trans r0
  replace r1 := (hb2.cell (World.block_lt_of_cell? x2 _ r1)).trans r1
  replace d0 := (hb2.cell (World.block_lt_of_cell? x2 _ d0)).trans d0
  replace d1 := (hb2.cell (World.block_lt_of_cell? x2 _ d1)).trans d1
  have hbz2 := (HZ.out.trans (gb2.mono HZ.out.size)).trans (hb2.mono (Nat.le_trans HZ.out.size gb2.size))
  have hbi2 := hbi.trans (hb2.mono hbi.size)
  have hb02 := hb0.trans (hb2.mono hb0.size)
  obtain rfl := linked_bad (code := 14) hl (Or.inl (by decide +kernel))
  clear HG HB
  have HG := Lib.hid hbi2
  have HB := Lib.hid hb02
  clear HZ
  have HZ := Lib.hid hbz2
  clear hbz2
  clear hl hb2 hbi2 hb02 hbi hb0 hIA hIB g2 gb2
  go_upto_region 5 with fail
  refine wp_one ?_
  intro z2 h2 hb2
  replace a0 := (hb2.cell (World.block_lt_of_cell? y2 _ a0)).trans a0
  replace a1 := (hb2.cell (World.block_lt_of_cell? y2 _ a1)).trans a1
  replace r0 := (hb2.cell (World.block_lt_of_cell? y2 _ r0)).trans r0
  replace r1 := (hb2.cell (World.block_lt_of_cell? y2 _ r1)).trans r1
  replace d0 := (hb2.cell (World.block_lt_of_cell? y2 _ d0)).trans d0
  replace d1 := (hb2.cell (World.block_lt_of_cell? y2 _ d1)).trans d1
  obtain ⟨T2, hT2⟩ : ∃ T, T = y2.heap.size := ⟨_, rfl⟩
  rw [← hT2] at h2
  rw [← hT2]
  have hbz2 := HZ.out.trans (hb2.mono HZ.out.size)
  have hbi2 := HG.out.trans (hb2.mono HG.out.size)
  have hb02 := HB.out.trans (hb2.mono HB.out.size)
  clear HG HB
  have HG := Lib.hid hbi2
  have HB := Lib.hid hb02
  clear HZ
  have HZ := Lib.hid hbz2
  clear hbz2
  clear hbi2 hb02 hT2
  clear h2 hb2
  go_wp2_with fail
  refine calls_one ?_
  intro x3 g3 gb3
  have hbi := HG.out.trans (gb3.mono HG.out.size)
  have hb0 := HB.out.trans (gb3.mono HB.out.size)
  have hIA := HI.out.1.below hbi
  have hIB := HI.out.2.below hbi
  refine (link_lit hb0 HE.out (objs_1 g3 rfl (items_no _ _) (by decide) : Objs _ _ _ kn3) (by decide +kernel) rfl 0).mono ?_
  replace a0 := (gb3.cell (World.block_lt_of_cell? z2 _ a0)).trans a0
  replace a1 := (gb3.cell (World.block_lt_of_cell? z2 _ a1)).trans a1
  replace r0 := (gb3.cell (World.block_lt_of_cell? z2 _ r0)).trans r0
  replace r1 := (gb3.cell (World.block_lt_of_cell? z2 _ r1)).trans r1
  replace d0 := (gb3.cell (World.block_lt_of_cell? z2 _ d0)).trans d0
  replace d1 := (gb3.cell (World.block_lt_of_cell? z2 _ d1)).trans d1
  rintro e y3 ⟨hl, hb3⟩
  replace a0 := (hb3.cell (World.block_lt_of_cell? x3 _ a0)).trans a0
  replace a1 := (hb3.cell (World.block_lt_of_cell? x3 _ a1)).trans a1
  replace r0 := (hb3.cell (World.block_lt_of_cell? x3 _ r0)).trans r0
  replace r1 := (hb3.cell (World.block_lt_of_cell? x3 _ r1)).trans r1
  replace d0 := (hb3.cell (World.block_lt_of_cell? x3 _ d0)).trans d0
  replace d1 := (hb3.cell (World.block_lt_of_cell? x3 _ d1)).trans d1
  have hbz2 := (HZ.out.trans (gb3.mono HZ.out.size)).trans (hb3.mono (Nat.le_trans HZ.out.size gb3.size))
  have hbi2 := hbi.trans (hb3.mono hbi.size)
  have hb02 := hb0.trans (hb3.mono hb0.size)
  obtain rfl := linked_bad (code := 2) hl (Or.inl (by decide +kernel))
  clear HG HB
  have HG := Lib.hid hbi2
  have HB := Lib.hid hb02
  clear HZ
  have HZ := Lib.hid hbz2
  clear hbz2
  clear hl hb3 hbi2 hb02 hbi hb0 hIA hIB g3 gb3
  go_upto_region 6 with fail
  refine wp_one ?_
  intro z3 h3 hb3
  replace a0 := (hb3.cell (World.block_lt_of_cell? y3 _ a0)).trans a0
  replace a1 := (hb3.cell (World.block_lt_of_cell? y3 _ a1)).trans a1
  replace r0 := (hb3.cell (World.block_lt_of_cell? y3 _ r0)).trans r0
  replace r1 := (hb3.cell (World.block_lt_of_cell? y3 _ r1)).trans r1
  replace d0 := (hb3.cell (World.block_lt_of_cell? y3 _ d0)).trans d0
  replace d1 := (hb3.cell (World.block_lt_of_cell? y3 _ d1)).trans d1
  obtain ⟨T3, hT3⟩ : ∃ T, T = y3.heap.size := ⟨_, rfl⟩
  rw [← hT3] at h3
  rw [← hT3]
  have hbz2 := HZ.out.trans (hb3.mono HZ.out.size)
  have hbi2 := HG.out.trans (hb3.mono HG.out.size)
  have hb02 := HB.out.trans (hb3.mono HB.out.size)
  clear HG HB
  have HG := Lib.hid hbi2
  have HB := Lib.hid hb02
  clear HZ
  have HZ := Lib.hid hbz2
  clear hbz2
  clear hbi2 hb02 hT3
  clear h3 hb3
  go_wp2_with fail
  refine calls_one ?_
  intro x4 g4 gb4
  have hbi := HG.out.trans (gb4.mono HG.out.size)
  have hb0 := HB.out.trans (gb4.mono HB.out.size)
  have hIA := HI.out.1.below hbi
  have hIB := HI.out.2.below hbi
  refine (link_lit hb0 HE.out (objs_1 g4 rfl (items_no _ _) (by decide) : Objs _ _ _ kn4) (by decide +kernel) rfl 0).mono ?_
  replace a0 := (gb4.cell (World.block_lt_of_cell? z3 _ a0)).trans a0
  replace a1 := (gb4.cell (World.block_lt_of_cell? z3 _ a1)).trans a1
  replace r0 := (gb4.cell (World.block_lt_of_cell? z3 _ r0)).trans r0
  replace r1 := (gb4.cell (World.block_lt_of_cell? z3 _ r1)).trans r1
  replace d0 := (gb4.cell (World.block_lt_of_cell? z3 _ d0)).trans d0
  replace d1 := (gb4.cell (World.block_lt_of_cell? z3 _ d1)).trans d1
  rintro e y4 ⟨hl, hb4⟩
  replace a0 := (hb4.cell (World.block_lt_of_cell? x4 _ a0)).trans a0
  replace a1 := (hb4.cell (World.block_lt_of_cell? x4 _ a1)).trans a1
  replace r0 := (hb4.cell (World.block_lt_of_cell? x4 _ r0)).trans r0
  replace r1 := (hb4.cell (World.block_lt_of_cell? x4 _ r1)).trans r1
  replace d0 := (hb4.cell (World.block_lt_of_cell? x4 _ d0)).trans d0
  replace d1 := (hb4.cell (World.block_lt_of_cell? x4 _ d1)).trans d1
  have hbz2 := (HZ.out.trans (gb4.mono HZ.out.size)).trans (hb4.mono (Nat.le_trans HZ.out.size gb4.size))
  have hbi2 := hbi.trans (hb4.mono hbi.size)
  have hb02 := hb0.trans (hb4.mono hb0.size)
  obtain rfl := linked_bad (code := 2) hl (Or.inl (by decide +kernel))
  clear HG HB
  have HG := Lib.hid hbi2
  have HB := Lib.hid hb02
  clear HZ
  have HZ := Lib.hid hbz2
  clear hbz2
  clear hl hb4 hbi2 hb02 hbi hb0 hIA hIB g4 gb4
  go_upto_region 7 with fail
  refine wp_one ?_
  intro z4 h4 hb4
  replace a0 := (hb4.cell (World.block_lt_of_cell? y4 _ a0)).trans a0
  replace a1 := (hb4.cell (World.block_lt_of_cell? y4 _ a1)).trans a1
  replace r0 := (hb4.cell (World.block_lt_of_cell? y4 _ r0)).trans r0
  replace r1 := (hb4.cell (World.block_lt_of_cell? y4 _ r1)).trans r1
  replace d0 := (hb4.cell (World.block_lt_of_cell? y4 _ d0)).trans d0
  replace d1 := (hb4.cell (World.block_lt_of_cell? y4 _ d1)).trans d1
  obtain ⟨T4, hT4⟩ : ∃ T, T = y4.heap.size := ⟨_, rfl⟩
  rw [← hT4] at h4
  rw [← hT4]
  have hbz2 := HZ.out.trans (hb4.mono HZ.out.size)
  have hbi2 := HG.out.trans (hb4.mono HG.out.size)
  have hb02 := HB.out.trans (hb4.mono HB.out.size)
  clear HG HB
  have HG := Lib.hid hbi2
  have HB := Lib.hid hb02
  clear HZ
  have HZ := Lib.hid hbz2
  clear hbz2
  clear hbi2 hb02 hT4
  clear h4 hb4
  go_wp2_with fail
  refine calls_one ?_
  intro x5 g5 gb5
  have hbi := HG.out.trans (gb5.mono HG.out.size)
  have hb0 := HB.out.trans (gb5.mono HB.out.size)
  have hIA := HI.out.1.below hbi
  have hIB := HI.out.2.below hbi
  refine (link_lit hb0 HE.out (objs_1 g5 rfl hIA (by decide) : Objs _ _ _ kn5) (by decide +kernel) rfl 0).mono ?_
  replace a0 := (gb5.cell (World.block_lt_of_cell? z4 _ a0)).trans a0
  replace a1 := (gb5.cell (World.block_lt_of_cell? z4 _ a1)).trans a1
  replace r0 := (gb5.cell (World.block_lt_of_cell? z4 _ r0)).trans r0
  replace r1 := (gb5.cell (World.block_lt_of_cell? z4 _ r1)).trans r1
  replace d0 := (gb5.cell (World.block_lt_of_cell? z4 _ d0)).trans d0
  replace d1 := (gb5.cell (World.block_lt_of_cell? z4 _ d1)).trans d1
  rintro e y5 ⟨hl, hb5⟩
  replace a0 := (hb5.cell (World.block_lt_of_cell? x5 _ a0)).trans a0
  replace a1 := (hb5.cell (World.block_lt_of_cell? x5 _ a1)).trans a1
  replace r0 := (hb5.cell (World.block_lt_of_cell? x5 _ r0)).trans r0
  replace r1 := (hb5.cell (World.block_lt_of_cell? x5 _ r1)).trans r1
  replace d0 := (hb5.cell (World.block_lt_of_cell? x5 _ d0)).trans d0
  replace d1 := (hb5.cell (World.block_lt_of_cell? x5 _ d1)).trans d1
  have hbz2 := (HZ.out.trans (gb5.mono HZ.out.size)).trans (hb5.mono (Nat.le_trans HZ.out.size gb5.size))
  have hbi2 := hbi.trans (hb5.mono hbi.size)
  have hb02 := hb0.trans (hb5.mono hb0.size)
  obtain rfl := linked_bad (code := 12) hl (Or.inr ⟨by decide +kernel, by decide +kernel, by decide +kernel⟩)
  clear HG HB
  have HG := Lib.hid hbi2
  have HB := Lib.hid hb02
  clear HZ
  have HZ := Lib.hid hbz2
  clear hbz2
  clear hl hb5 hbi2 hb02 hbi hb0 hIA hIB g5 gb5
  go_upto_region 8 with fail
  refine wp_one ?_
  intro z5 h5 hb5
  replace a0 := (hb5.cell (World.block_lt_of_cell? y5 _ a0)).trans a0
  replace a1 := (hb5.cell (World.block_lt_of_cell? y5 _ a1)).trans a1
  replace r0 := (hb5.cell (World.block_lt_of_cell? y5 _ r0)).trans r0
  replace r1 := (hb5.cell (World.block_lt_of_cell? y5 _ r1)).trans r1
  replace d0 := (hb5.cell (World.block_lt_of_cell? y5 _ d0)).trans d0
  replace d1 := (hb5.cell (World.block_lt_of_cell? y5 _ d1)).trans d1
  obtain ⟨T5, hT5⟩ : ∃ T, T = y5.heap.size := ⟨_, rfl⟩
  rw [← hT5] at h5
  rw [← hT5]
  have hbz2 := HZ.out.trans (hb5.mono HZ.out.size)
  have hbi2 := HG.out.trans (hb5.mono HG.out.size)
  have hb02 := HB.out.trans (hb5.mono HB.out.size)
  clear HG HB
  have HG := Lib.hid hbi2
  have HB := Lib.hid hb02
  clear HZ
  have HZ := Lib.hid hbz2
  clear hbz2
  clear hbi2 hb02 hT5
  clear h5 hb5 a0 a1
  go_wp2_with fail
  refine (link_none (HB.out) HE.out 0).mono ?_
  rintro e y6 ⟨hl, hb6⟩
  replace r0 := (hb6.cell (World.block_lt_of_cell? z5 _ r0)).trans r0
  replace r1 := (hb6.cell (World.block_lt_of_cell? z5 _ r1)).trans r1
  replace d0 := (hb6.cell (World.block_lt_of_cell? z5 _ d0)).trans d0
  replace d1 := (hb6.cell (World.block_lt_of_cell? z5 _ d1)).trans d1
  have hbz2 := HZ.out.trans (hb6.mono HZ.out.size)
  have hbi2 := HG.out.trans (hb6.mono HG.out.size)
  have hb02 := HB.out.trans (hb6.mono HB.out.size)
  obtain ⟨O6, pp6, cp6, rfl, hw6, hp6⟩ := linked_good hl kn6_lc kn6_check kn6_least kn6_ad kn6_words kn6_places 0 0 rfl rfl
  clear hw6 hp6
  clear HG HB
  have HG := Lib.hid hbi2
  have HB := Lib.hid hb02
  clear HZ
  have HZ := Lib.hid hbz2
  clear hbz2
  clear hl hb6 hbi2 hb02
  go_upto_region 9 with fail
  refine wp_one ?_
  intro z6 h6 hb6
  replace r0 := (hb6.cell (World.block_lt_of_cell? y6 _ r0)).trans r0
  replace r1 := (hb6.cell (World.block_lt_of_cell? y6 _ r1)).trans r1
  replace d0 := (hb6.cell (World.block_lt_of_cell? y6 _ d0)).trans d0
  replace d1 := (hb6.cell (World.block_lt_of_cell? y6 _ d1)).trans d1
  obtain ⟨T6, hT6⟩ : ∃ T, T = y6.heap.size := ⟨_, rfl⟩
  rw [← hT6] at h6
  rw [← hT6]
  have hbz2 := HZ.out.trans (hb6.mono HZ.out.size)
  have hbi2 := HG.out.trans (hb6.mono HG.out.size)
  have hb02 := HB.out.trans (hb6.mono HB.out.size)
  clear HG HB
  have HG := Lib.hid hbi2
  have HB := Lib.hid hb02
  clear HZ
  have HZ := Lib.hid hbz2
  clear hbz2
  clear hbi2 hb02 hT6
  obtain ⟨e0, e1⟩ := cells2 h6
  clear h6 hb6
  have hpz := own_below HP.out HZ.out
  have hfi := find_at hpz rfl (by decide) (some ⟨O1, 0, none⟩) 2 2 ⟨#[120]⟩
  have ef : foundV (pfind [(⟨#[121]⟩, 1)] ⟨#[120]⟩ 1) = .tuple #[.int .i64 0, .bool false] := by
    have : pfind [(⟨#[121]⟩, 1)] ⟨#[120]⟩ 1 = none := by decide +kernel
    unfold foundV
    rw [this]
    rfl
  rw [ef] at hfi
  clear hpz ef HP HZ
  go_wp2_with fail
  refine hfi.mono ?_
  clear hfi
  rintro e y7 ⟨rfl, hb7⟩
  replace r0 := (hb7.cell (World.block_lt_of_cell? z6 _ r0)).trans r0
  replace r1 := (hb7.cell (World.block_lt_of_cell? z6 _ r1)).trans r1
  replace d0 := (hb7.cell (World.block_lt_of_cell? z6 _ d0)).trans d0
  replace d1 := (hb7.cell (World.block_lt_of_cell? z6 _ d1)).trans d1
  replace e0 := (hb7.cell (World.block_lt_of_cell? z6 _ e0)).trans e0
  replace e1 := (hb7.cell (World.block_lt_of_cell? z6 _ e1)).trans e1
  have hb02 := HB.out.trans (hb7.mono HB.out.size)
  clear HB HG hb7
  have HB := Lib.hid hb02
  clear hb02
  have hwo := works_any y7 (HE.out.below HB.out)
  go_wp2_with fail
  refine hwo.mono ?_
  clear hwo
  rintro e y8 ⟨rfl, hb8⟩
  have HB8 := Lib.hid (HB.out.trans (hb8.mono HB.out.size))
  clear hb8
  go_wp2_with fail
  go_ret
  exact ⟨rfl, HB8.out⟩
end Go.Proofs.YtbplmbignalbgaaDoor
