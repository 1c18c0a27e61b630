/- Contracts: what a branch's words do (takes). Conditions: the words lie as told; the table of forms is as laid. -/
import Derived.Test.YticleblhmkikaaaDoorAsBi
import Derived.Deep.QuietTactic
namespace Go.Proofs.YticleblhmkikaaaDoor
open Go.RowKit Asm
set_option linter.unusedVariables false
set_option linter.unusedSimpArgs false

def takesS (x : It) (l : List Ins) (q v : Int) : Prop :=
  (∃ i, l = [⟨x.op, 0, x.a, x.b, i⟩] ∧ q + 1 + i = v ∧ -32768 ≤ i ∧ i ≤ 32767)
set_option maxRecDepth 100000 in
set_option maxHeartbeats 4000000 in
theorem takes_one {w : World} {g off c : Nat} {x : It} {i : Int} (ho : insOk ⟨x.op, 0, x.a, x.b, i⟩ = true) (c0 : w.cell? ⟨g, off, none⟩ = some (.int .u32 (insW ⟨x.op, 0, x.a, x.b, i⟩))) (hE : Env w) (q v : Int) (hq : 0 ≤ q ∧ q ≤ 1000000000) (hi : -2000000000 ≤ i ∧ i ≤ 2000000000) (hv : q + 1 + i = v) :
    Calls Tryd.prog 24 #[.slice (some ⟨g, off, none⟩) 1 c, iv x, .int .i64 q, .int .i64 v] w fun e w' => e = .returned (.bool true) ∧ Below w.heap.size w w' := by
  have HE := Lib.hid hE
  clear hE
  unfold iv
  go_enter Tryd.func24, Tryd.ntmps24
  have hal := (Below.refl w.heap.size w).alloc (Nat.le_refl _) (.cells #[.int .i64 x.kind, .int .i64 x.op, .int .i64 x.d, .int .i64 x.a, .int .i64 x.b, .int .i64 x.imm, .string x.lab, .int .u32 x.word] 44)
  have hN := cells8 (heap_new w (.cells #[.int .i64 x.kind, .int .i64 x.op, .int .i64 x.d, .int .i64 x.a, .int .i64 x.b, .int .i64 x.imm, .string x.lab, .int .u32 x.word] 44))
  obtain ⟨w1, hw1⟩ : ∃ w1, w1 = w.alloc (.cells #[.int .i64 x.kind, .int .i64 x.op, .int .i64 x.d, .int .i64 x.a, .int .i64 x.b, .int .i64 x.imm, .string x.lab, .int .u32 x.word] 44) := ⟨_, rfl⟩
  rw [← hw1] at hN
  rw [← hw1] at hal
  go_upto_region 1 with fail
  rw [← hw1]
  have HB1 := Lib.hid hal
  have c0' := (hal.cell (p := ⟨g, off, none⟩) (World.block_lt_of_cell? w _ c0)).trans c0
  clear hw1 hal
  have HN := Lib.hid hN
  clear hN
  go_wp2_with fail
  refine (decode_ins ho w1 (HE.out.below HB1.out)).mono ?_
  rintro e w2 ⟨rfl, hb⟩
  unfold insV
  clear c0'
  have hal := (Below.refl w2.heap.size w2).alloc (Nat.le_refl _) (.cells #[.int .i64 x.op, .int .i64 0, .int .i64 x.a, .int .i64 x.b, .int .i64 i] 41)
  have hN2 := cells5 (heap_new w2 (.cells #[.int .i64 x.op, .int .i64 0, .int .i64 x.a, .int .i64 x.b, .int .i64 i] 41))
  obtain ⟨w3, hw3⟩ : ∃ w3, w3 = w2.alloc (.cells #[.int .i64 x.op, .int .i64 0, .int .i64 x.a, .int .i64 x.b, .int .i64 i] 41) := ⟨_, rfl⟩
  obtain ⟨R, hR⟩ : ∃ R, R = w2.heap.size := ⟨_, rfl⟩
  rw [← hw3, ← hR] at hN2
  rw [← hw3] at hal
  have HB13 := Lib.hid (hb.trans (hal.mono hb.size))
  have HB3 := Lib.hid (HB1.out.trans (HB13.out.mono HB1.out.size))
  go_upto_region 2 with fail
  rw [← hw3, ← hR]
  clear hw3 hR hb hal
  obtain ⟨p0, p1, p2, p3, p4, p5, p6, p7⟩ := HN.out
  replace p1 := (HB13.out.cell (p := ⟨w.heap.size, 1, none⟩) (World.block_lt_of_cell? w1 _ p1)).trans p1
  replace p3 := (HB13.out.cell (p := ⟨w.heap.size, 3, none⟩) (World.block_lt_of_cell? w1 _ p3)).trans p3
  replace p4 := (HB13.out.cell (p := ⟨w.heap.size, 4, none⟩) (World.block_lt_of_cell? w1 _ p4)).trans p4
  obtain ⟨s0, s1, s2, s3, s4⟩ := hN2
  clear p0 p2 p5 p6 p7 s1
  have e1 : wrap64 (q + 1) = q + 1 := by unfold wrap64; omega
  have e2 : wrap64 (q + 1 + i) = q + 1 + i := by unfold wrap64; omega
  subst hv
  go_wp2_with fail
  go_ret
  exact ⟨rfl, HB3.out⟩
set_option maxRecDepth 100000 in
set_option maxHeartbeats 4000000 in
theorem takes_2 {w : World} {g off c : Nat} {x : It} (ho : insOk ⟨turned x.op, 0, x.a, x.b, 1⟩ = true) (c0 : w.cell? ⟨g, off, none⟩ = some (.int .u32 (insW ⟨turned x.op, 0, x.a, x.b, 1⟩))) (hE : Env w) (q v : Int) (hq : 0 ≤ q ∧ q ≤ 1000000000) (hc : 2 ≤ c) (hcm : c ≤ 1000000000) (hl : ∀ w', Below w.heap.size w w' → Calls Tryd.prog 23 #[.slice (some ⟨g, off + 1, none⟩) 1 (c - 1), .int .i64 (q + 1)] w' fun e w2 => e = .returned (.int .i64 v) ∧ Below w'.heap.size w' w2) :
    Calls Tryd.prog 24 #[.slice (some ⟨g, off, none⟩) 2 c, iv x, .int .i64 q, .int .i64 v] w fun e w' => e = .returned (.bool true) ∧ Below w.heap.size w w' := by
  have HE := Lib.hid hE
  clear hE
  unfold iv
  go_enter Tryd.func24, Tryd.ntmps24
  have hal := (Below.refl w.heap.size w).alloc (Nat.le_refl _) (.cells #[.int .i64 x.kind, .int .i64 x.op, .int .i64 x.d, .int .i64 x.a, .int .i64 x.b, .int .i64 x.imm, .string x.lab, .int .u32 x.word] 44)
  have hN := cells8 (heap_new w (.cells #[.int .i64 x.kind, .int .i64 x.op, .int .i64 x.d, .int .i64 x.a, .int .i64 x.b, .int .i64 x.imm, .string x.lab, .int .u32 x.word] 44))
  obtain ⟨w1, hw1⟩ : ∃ w1, w1 = w.alloc (.cells #[.int .i64 x.kind, .int .i64 x.op, .int .i64 x.d, .int .i64 x.a, .int .i64 x.b, .int .i64 x.imm, .string x.lab, .int .u32 x.word] 44) := ⟨_, rfl⟩
  rw [← hw1] at hN
  rw [← hw1] at hal
  go_upto_region 1 with fail
  rw [← hw1]
  have HB1 := Lib.hid hal
  have c0' := (hal.cell (p := ⟨g, off, none⟩) (World.block_lt_of_cell? w _ c0)).trans c0
  clear hw1 hal
  have HN := Lib.hid hN
  clear hN
  go_wp2_with fail
  refine (decode_ins ho w1 (HE.out.below HB1.out)).mono ?_
  rintro e w2 ⟨rfl, hb⟩
  unfold insV
  clear c0'
  have hal := (Below.refl w2.heap.size w2).alloc (Nat.le_refl _) (.cells #[.int .i64 (turned x.op), .int .i64 0, .int .i64 x.a, .int .i64 x.b, .int .i64 1] 41)
  have hN2 := cells5 (heap_new w2 (.cells #[.int .i64 (turned x.op), .int .i64 0, .int .i64 x.a, .int .i64 x.b, .int .i64 1] 41))
  obtain ⟨w3, hw3⟩ : ∃ w3, w3 = w2.alloc (.cells #[.int .i64 (turned x.op), .int .i64 0, .int .i64 x.a, .int .i64 x.b, .int .i64 1] 41) := ⟨_, rfl⟩
  obtain ⟨R, hR⟩ : ∃ R, R = w2.heap.size := ⟨_, rfl⟩
  rw [← hw3, ← hR] at hN2
  rw [← hw3] at hal
  have HB13 := Lib.hid (hb.trans (hal.mono hb.size))
  have HB3 := Lib.hid (HB1.out.trans (HB13.out.mono HB1.out.size))
  go_upto_region 2 with fail
  rw [← hw3, ← hR]
  clear hw3 hR hb hal
  obtain ⟨p0, p1, p2, p3, p4, p5, p6, p7⟩ := HN.out
  replace p1 := (HB13.out.cell (p := ⟨w.heap.size, 1, none⟩) (World.block_lt_of_cell? w1 _ p1)).trans p1
  replace p3 := (HB13.out.cell (p := ⟨w.heap.size, 3, none⟩) (World.block_lt_of_cell? w1 _ p3)).trans p3
  replace p4 := (HB13.out.cell (p := ⟨w.heap.size, 4, none⟩) (World.block_lt_of_cell? w1 _ p4)).trans p4
  obtain ⟨s0, s1, s2, s3, s4⟩ := hN2
  clear p0 p2 p5 p6 p7 s1
  have e1 : IntKind.i64.wrap (q + 1) = q + 1 := by simp [IntKind.wrap, IntKind.bits, IntKind.signed]; split <;> omega
  have HL := Lib.hid (fun w' (hb : Below w3.heap.size w3 w') => hl w' (HB3.out.trans (hb.mono HB3.out.size)))
  have e2 : wrap64 (q + 1) = q + 1 := by unfold wrap64; omega
  have hc' : (2 : Int) ≤ c := by omega
  have e3 : IntKind.i64.wrap 1 = 1 := by decide
  have hc1 : ¬ c = 1 := by omega
  have HCM := Lib.hid (And.intro hq (And.intro hc hcm))
  clear hl hq hc hcm
  go_wp2_with fail
  first
    | (go_region_held (fun w' => w'.cell? ⟨w.heap.size, 1, none⟩ = some (.int .i64 x.op) ∧ w'.cell? ⟨R, 0, none⟩ = some (.int .i64 (turned x.op)) ∧ w'.cell? ⟨R, 4, none⟩ = some (.int .i64 1)) (go_keep)
     (first
      | (go_at_call 15; refine (turned_any _ _).mono ?_; rintro e w9 ⟨rfl, rfl⟩)
      | (go_at_call 23; refine (HL.out _ (Below.refl _ _).drew).mono ?_; rintro e w8 ⟨rfl, hb8⟩; have y1 := (hb8.cell (p := ⟨w.heap.size, 1, none⟩) (World.block_lt_of_cell? w3.drew _ p1)).trans p1; have y2 := (hb8.cell (p := ⟨R, 0, none⟩) (World.block_lt_of_cell? w3.drew _ s0)).trans s0; have y3 := (hb8.cell (p := ⟨R, 4, none⟩) (World.block_lt_of_cell? w3.drew _ s4)).trans s4)))
    | fail
  all_goals
    go_wp2_with fail
    go_ret
    exact ⟨rfl, HB3.out.trans (((Below.refl _ _).drew.trans hb8).mono HB3.out.size)⟩
set_option maxRecDepth 100000 in
set_option maxHeartbeats 4000000 in
theorem takes_4 {w : World} {g off c : Nat} {x : It} (ho : insOk ⟨turned x.op, 0, x.a, x.b, 3⟩ = true) (c0 : w.cell? ⟨g, off, none⟩ = some (.int .u32 (insW ⟨turned x.op, 0, x.a, x.b, 3⟩))) (hE : Env w) (q v : Int) (hq : 0 ≤ q ∧ q ≤ 1000000000) (hc : 4 ≤ c) (hcm : c ≤ 1000000000) (hl : ∀ w', Below w.heap.size w w' → Calls Tryd.prog 23 #[.slice (some ⟨g, off + 1, none⟩) 3 (c - 1), .int .i64 (q + 1)] w' fun e w2 => e = .returned (.int .i64 v) ∧ Below w'.heap.size w' w2) :
    Calls Tryd.prog 24 #[.slice (some ⟨g, off, none⟩) 4 c, iv x, .int .i64 q, .int .i64 v] w fun e w' => e = .returned (.bool true) ∧ Below w.heap.size w w' := by
  have HE := Lib.hid hE
  clear hE
  unfold iv
  go_enter Tryd.func24, Tryd.ntmps24
  have hal := (Below.refl w.heap.size w).alloc (Nat.le_refl _) (.cells #[.int .i64 x.kind, .int .i64 x.op, .int .i64 x.d, .int .i64 x.a, .int .i64 x.b, .int .i64 x.imm, .string x.lab, .int .u32 x.word] 44)
  have hN := cells8 (heap_new w (.cells #[.int .i64 x.kind, .int .i64 x.op, .int .i64 x.d, .int .i64 x.a, .int .i64 x.b, .int .i64 x.imm, .string x.lab, .int .u32 x.word] 44))
  obtain ⟨w1, hw1⟩ : ∃ w1, w1 = w.alloc (.cells #[.int .i64 x.kind, .int .i64 x.op, .int .i64 x.d, .int .i64 x.a, .int .i64 x.b, .int .i64 x.imm, .string x.lab, .int .u32 x.word] 44) := ⟨_, rfl⟩
  rw [← hw1] at hN
  rw [← hw1] at hal
  go_upto_region 1 with fail
  rw [← hw1]
  have HB1 := Lib.hid hal
  have c0' := (hal.cell (p := ⟨g, off, none⟩) (World.block_lt_of_cell? w _ c0)).trans c0
  clear hw1 hal
  have HN := Lib.hid hN
  clear hN
  go_wp2_with fail
  refine (decode_ins ho w1 (HE.out.below HB1.out)).mono ?_
  rintro e w2 ⟨rfl, hb⟩
  unfold insV
  clear c0'
  have hal := (Below.refl w2.heap.size w2).alloc (Nat.le_refl _) (.cells #[.int .i64 (turned x.op), .int .i64 0, .int .i64 x.a, .int .i64 x.b, .int .i64 3] 41)
  have hN2 := cells5 (heap_new w2 (.cells #[.int .i64 (turned x.op), .int .i64 0, .int .i64 x.a, .int .i64 x.b, .int .i64 3] 41))
  obtain ⟨w3, hw3⟩ : ∃ w3, w3 = w2.alloc (.cells #[.int .i64 (turned x.op), .int .i64 0, .int .i64 x.a, .int .i64 x.b, .int .i64 3] 41) := ⟨_, rfl⟩
  obtain ⟨R, hR⟩ : ∃ R, R = w2.heap.size := ⟨_, rfl⟩
  rw [← hw3, ← hR] at hN2
  rw [← hw3] at hal
  have HB13 := Lib.hid (hb.trans (hal.mono hb.size))
  have HB3 := Lib.hid (HB1.out.trans (HB13.out.mono HB1.out.size))
  go_upto_region 2 with fail
  rw [← hw3, ← hR]
  clear hw3 hR hb hal
  obtain ⟨p0, p1, p2, p3, p4, p5, p6, p7⟩ := HN.out
  replace p1 := (HB13.out.cell (p := ⟨w.heap.size, 1, none⟩) (World.block_lt_of_cell? w1 _ p1)).trans p1
  replace p3 := (HB13.out.cell (p := ⟨w.heap.size, 3, none⟩) (World.block_lt_of_cell? w1 _ p3)).trans p3
  replace p4 := (HB13.out.cell (p := ⟨w.heap.size, 4, none⟩) (World.block_lt_of_cell? w1 _ p4)).trans p4
  obtain ⟨s0, s1, s2, s3, s4⟩ := hN2
  clear p0 p2 p5 p6 p7 s1
  have e1 : IntKind.i64.wrap (q + 1) = q + 1 := by simp [IntKind.wrap, IntKind.bits, IntKind.signed]; split <;> omega
  have HL := Lib.hid (fun w' (hb : Below w3.heap.size w3 w') => hl w' (HB3.out.trans (hb.mono HB3.out.size)))
  have e2 : wrap64 (q + 1) = q + 1 := by unfold wrap64; omega
  have hc' : (4 : Int) ≤ c := by omega
  have e3 : IntKind.i64.wrap 3 = 3 := by decide
  have hc1 : ¬ c = 1 := by omega
  have HCM := Lib.hid (And.intro hq (And.intro hc hcm))
  clear hl hq hc hcm
  go_wp2_with fail
  first
    | (go_region_held (fun w' => w'.cell? ⟨w.heap.size, 1, none⟩ = some (.int .i64 x.op) ∧ w'.cell? ⟨R, 0, none⟩ = some (.int .i64 (turned x.op)) ∧ w'.cell? ⟨R, 4, none⟩ = some (.int .i64 3)) (go_keep)
     (first
      | (go_at_call 15; refine (turned_any _ _).mono ?_; rintro e w9 ⟨rfl, rfl⟩)
      | (go_at_call 23; refine (HL.out _ (Below.refl _ _).drew).mono ?_; rintro e w8 ⟨rfl, hb8⟩; have y1 := (hb8.cell (p := ⟨w.heap.size, 1, none⟩) (World.block_lt_of_cell? w3.drew _ p1)).trans p1; have y2 := (hb8.cell (p := ⟨R, 0, none⟩) (World.block_lt_of_cell? w3.drew _ s0)).trans s0; have y3 := (hb8.cell (p := ⟨R, 4, none⟩) (World.block_lt_of_cell? w3.drew _ s4)).trans s4)))
    | fail
  all_goals
    go_wp2_with fail
    go_ret
    exact ⟨rfl, HB3.out.trans (((Below.refl _ _).drew.trans hb8).mono HB3.out.size)⟩
end Go.Proofs.YticleblhmkikaaaDoor
