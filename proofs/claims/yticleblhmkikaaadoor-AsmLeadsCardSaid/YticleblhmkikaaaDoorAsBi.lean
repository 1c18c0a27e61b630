/- Contracts: where three words lead (lands). Conditions: the words lie as told; the table of forms is as laid. -/
import Derived.Test.YticleblhmkikaaaDoorAsBh
namespace Go.Proofs.YticleblhmkikaaaDoor
open Go.RowKit Asm
set_option linter.unusedVariables false
set_option linter.unusedSimpArgs false

theorem or16 {v : Int} (h0 : 0 ≤ v) (h1 : v < 4294967296) : bits .or .i64 (v / 65536 * 65536) (v % 65536) = v := by
  obtain ⟨u, rfl⟩ : ∃ u : Nat, v = u := ⟨v.toNat, by omega⟩
  have e1 : ((u : Int) / 65536 * 65536) = ((u / 65536 * 65536 : Nat) : Int) := by omega
  have e2 : ((u : Int) % 65536) = ((u % 65536 : Nat) : Int) := by omega
  rw [e1, e2]
  show IntKind.i64.wrap ((BitVec.ofInt 64 ((u / 65536 * 65536 : Nat) : Int) ||| BitVec.ofInt 64 ((u % 65536 : Nat) : Int)).toNat : Int) = _
  rw [BitVec.toNat_or, ofInt_u64 _ (by omega), ofInt_u64 _ (by omega), nat_join 16 _ _ (by omega) (by omega)]
  rw [show u / 65536 * 65536 + u % 65536 = u by omega]
  simp [IntKind.wrap, IntKind.bits, IntKind.signed]
  split <;> omega
set_option maxRecDepth 100000 in
set_option maxHeartbeats 4000000 in
theorem lands_three {w : World} {g off c : Nat} {d v : Int} (hd : 0 ≤ d ∧ d ≤ 31) (h0 : 0 ≤ v) (h1 : v < 4294967296) (hE : Env w) (q : Int)
    (c0 : w.cell? ⟨g, off, none⟩ = some (.int .u32 (insW ⟨23, 25, 0, 0, v / 65536⟩))) (c1 : w.cell? ⟨g, off + 1, none⟩ = some (.int .u32 (insW ⟨17, 25, 25, 0, v % 65536⟩))) (c2 : w.cell? ⟨g, off + 2, none⟩ = some (.int .u32 (insW ⟨33, d, 25, 0, 0⟩))) :
    Calls Tryd.prog 23 #[.slice (some ⟨g, off, none⟩) 3 c, .int .i64 q] w fun e w' => e = .returned (.int .i64 v) ∧ Below w.heap.size w w' := by
  have hd0 := decode_ins (ok_lui (d := 25) (i := v / 65536) (by decide) (by omega)) w hE
  have HC := Lib.hid (And.intro c1 (And.intro c2 hE))
  have ho := or16 h0 h1
  have hsh : wrap64 (v / 65536 * 65536) = v / 65536 * 65536 := by unfold wrap64; omega
  clear c1 c2 hE
  go_enter Tryd.func23, Tryd.ntmps23
  go_wp2_with fail
  refine hd0.mono ?_
  rintro e w1 ⟨rfl, hb⟩
  unfold insV
  clear hd0 c0
  have hal := (Below.refl w1.heap.size w1).alloc (Nat.le_refl _) (.cells #[.int .i64 23, .int .i64 25, .int .i64 0, .int .i64 0, .int .i64 (v / 65536)] 41)
  have hN := cells5 (heap_new w1 (.cells #[.int .i64 23, .int .i64 25, .int .i64 0, .int .i64 0, .int .i64 (v / 65536)] 41))
  obtain ⟨w2, hw2⟩ : ∃ w2, w2 = w1.alloc (.cells #[.int .i64 23, .int .i64 25, .int .i64 0, .int .i64 0, .int .i64 (v / 65536)] 41) := ⟨_, rfl⟩
  obtain ⟨P, hP⟩ : ∃ P, P = w1.heap.size := ⟨_, rfl⟩
  rw [← hw2, ← hP] at hN
  rw [← hw2] at hal
  have HB2 := Lib.hid (hb.trans (hal.mono hb.size))
  go_upto_region 2 with fail
  rw [← hw2, ← hP]
  clear hw2 hP hb hal
  have c1 := (HB2.out.cell (p := ⟨g, off + 1, none⟩) (World.block_lt_of_cell? w _ HC.out.1)).trans HC.out.1
  have HN := Lib.hid hN
  clear hN
  go_wp2_with fail
  refine (decode_ins (ok_ori (d := 25) (a := 25) (i := v % 65536) (by decide) (by decide) (by omega)) w2 (HC.out.2.2.below HB2.out)).mono ?_
  rintro e w3 ⟨rfl, hb⟩
  unfold insV
  clear c1
  have hal := (Below.refl w3.heap.size w3).alloc (Nat.le_refl _) (.cells #[.int .i64 17, .int .i64 25, .int .i64 25, .int .i64 0, .int .i64 (v % 65536)] 41)
  have hN2 := cells5 (heap_new w3 (.cells #[.int .i64 17, .int .i64 25, .int .i64 25, .int .i64 0, .int .i64 (v % 65536)] 41))
  obtain ⟨w4, hw4⟩ : ∃ w4, w4 = w3.alloc (.cells #[.int .i64 17, .int .i64 25, .int .i64 25, .int .i64 0, .int .i64 (v % 65536)] 41) := ⟨_, rfl⟩
  obtain ⟨R, hR⟩ : ∃ R, R = w3.heap.size := ⟨_, rfl⟩
  rw [← hw4, ← hR] at hN2
  rw [← hw4] at hal
  have HB24 := Lib.hid (hb.trans (hal.mono hb.size))
  have HB4 := Lib.hid (HB2.out.trans (HB24.out.mono HB2.out.size))
  go_upto_region 7 with fail
  rw [← hw4, ← hR]
  clear hw4 hR hb hal
  have c2 := (HB4.out.cell (p := ⟨g, off + 2, none⟩) (World.block_lt_of_cell? w _ HC.out.2.1)).trans HC.out.2.1
  have HN2 := Lib.hid hN2
  clear hN2
  go_wp2_with fail
  refine (decode_ins (ok_jalr (d := d) (a := 25) hd (by decide)) w4 (HC.out.2.2.below HB4.out)).mono ?_
  rintro e w5 ⟨rfl, hb⟩
  unfold insV
  clear c2
  have hal := (Below.refl w5.heap.size w5).alloc (Nat.le_refl _) (.cells #[.int .i64 33, .int .i64 d, .int .i64 25, .int .i64 0, .int .i64 0] 41)
  have hN3 := cells5 (heap_new w5 (.cells #[.int .i64 33, .int .i64 d, .int .i64 25, .int .i64 0, .int .i64 0] 41))
  obtain ⟨w6, hw6⟩ : ∃ w6, w6 = w5.alloc (.cells #[.int .i64 33, .int .i64 d, .int .i64 25, .int .i64 0, .int .i64 0] 41) := ⟨_, rfl⟩
  obtain ⟨S, hS⟩ : ∃ S, S = w5.heap.size := ⟨_, rfl⟩
  rw [← hw6, ← hS] at hN3
  rw [← hw6] at hal
  have HB46 := Lib.hid (hb.trans (hal.mono hb.size))
  have HB26 := Lib.hid (HB24.out.trans (HB46.out.mono HB24.out.size))
  have HB6 := Lib.hid (HB2.out.trans (HB26.out.mono HB2.out.size))
  go_upto_region 8 with fail
  rw [← hw6, ← hS]
  clear hw6 hS hb hal
  obtain ⟨p0, p1, p2, p3, p4⟩ := HN.out
  replace p0 := (HB26.out.cell (p := ⟨P, 0, none⟩) (World.block_lt_of_cell? w2 _ p0)).trans p0
  replace p1 := (HB26.out.cell (p := ⟨P, 1, none⟩) (World.block_lt_of_cell? w2 _ p1)).trans p1
  replace p4 := (HB26.out.cell (p := ⟨P, 4, none⟩) (World.block_lt_of_cell? w2 _ p4)).trans p4
  obtain ⟨q0, q1, q2, q3, q4⟩ := HN2.out
  replace q0 := (HB46.out.cell (p := ⟨R, 0, none⟩) (World.block_lt_of_cell? w4 _ q0)).trans q0
  replace q1 := (HB46.out.cell (p := ⟨R, 1, none⟩) (World.block_lt_of_cell? w4 _ q1)).trans q1
  replace q2 := (HB46.out.cell (p := ⟨R, 2, none⟩) (World.block_lt_of_cell? w4 _ q2)).trans q2
  replace q4 := (HB46.out.cell (p := ⟨R, 4, none⟩) (World.block_lt_of_cell? w4 _ q4)).trans q4
  obtain ⟨s0, s1, s2, s3, s4⟩ := hN3
  clear p2 p3 q3 s1 s3
  go_wp2_with fail
  go_ret
  exact ⟨by first | rfl | (rw [ho]) | simp [ho], HB6.out⟩
end Go.Proofs.YticleblhmkikaaaDoor
