/- Contracts: the document's answer for the words of an item. Conditions: none. -/
import Derived.Test.YtbplmbignalbgaaDoorAsAc
import Derived.Test.YtbplmbignalbgaaDoorAsW
import Derived.Test.YtbplmbignalbgaaDoorIsaRg
import Derived.Deep.RegionHeld
namespace Go.Proofs.YtbplmbignalbgaaDoor
open Go.RowKit Asm
set_option linter.unusedVariables false
set_option linter.unusedSimpArgs false

theorem rword_any (op d a b imm : Int) (w : World) : Calls Tryd.prog 41 #[.agg #[.int .i64 op, .int .i64 d, .int .i64 a, .int .i64 b, .int .i64 imm]] w fun e w' => e = .returned (.int .u32 (insW ⟨op, d, a, b, imm⟩)) ∧ Below w.heap.size w w' := by
  have hN := cells5 (heap_new w (.cells #[.int .i64 op, .int .i64 d, .int .i64 a, .int .i64 b, .int .i64 imm] 37))
  go_enter Tryd.func41, Tryd.ntmps41
  go_wp2_with fail
  refine (renc_any op d a b imm _).mono ?_
  rintro e w' ⟨rfl, hb⟩
  have HB := Lib.hid hb
  clear hb hN
  go_wp2_with fail
  go_ret
  exact ⟨rfl, ((Below.refl _ _).alloc (Nat.le_refl _) _).trans (HB.out.mono (by simp))⟩
theorem mk_zeros (c : Nat) (h1 : c < 4294967296) (w : World) : ∃ cs : Array Value, cs.toList = byW (List.replicate c 0) ∧ (Instr.makeSlice 27 (.int .i64 c) (.int .i64 c)).run Tryd.prog w = .ok (.slice (some ⟨w.heap.size, 0, none⟩) c c) (w.alloc (.cells cs 38)) := by
  obtain ⟨i, hi, hz, hs, hb⟩ := infoW_of
  have h := run_make (P := Tryd.prog) w 27 38 i (.int .u32 0) Tryd.underlying27 hi hz .i64 .i64 c c (by omega) (by omega) (by rw [hb]; omega) (by omega)
  rw [hs, Nat.mul_one, Int.toNat_natCast] at h
  refine ⟨_, ?_, h⟩
  apply List.ext_getElem?
  intro j
  unfold byW madeCells
  by_cases hj : j < c
  · simp [hj, Value.cells, Nat.mod_one]
  · simp [hj, Value.cells]
theorem own_zeros {w : World} {base c : Nat} {cs : Array Value} (hcs : cs.toList = byW (List.replicate c 0)) (hb : base ≤ w.heap.size) (hc : c < 4294967296) : (w.alloc (.cells cs 38)).ownsRow base 38 1 (.slice (some ⟨w.heap.size, 0, none⟩) c c) (List.replicate c (0 : Int)).length (byW (List.replicate c 0)) := by
  have hsz : cs.size = c := by rw [← Array.length_toList, hcs, byW_len, List.length_replicate]
  refine ⟨by rw [byW_len, Nat.mul_one], Or.inr ⟨w.heap.size, c, cs, by rw [List.length_replicate], hb, ?_, by rw [List.length_replicate]; exact Nat.le_refl _, by unfold maxLen; omega, by omega, ?_⟩⟩
  · exact heap_new w (.cells cs 38)
  · rw [hcs, List.take_of_length_le (by rw [byW_len]; omega)]
set_option maxRecDepth 100000 in
set_option maxHeartbeats 8000000 in
theorem rWords_k1 {x : It} (w : World) (fv : Int) (a T : Int) (hk : x.kind = 1) (hT : 0 ≤ T ∧ T ≤ 67108864) (ha : 0 ≤ a ∧ a ≤ 67108864) :
    Calls Tryd.prog 31 #[iv x, .int .i64 fv, .int .i64 a, .int .i64 T] w fun e w' => ∃ sv, e = .returned sv ∧ w'.ownsRow w.heap.size 38 1 sv ([insW ⟨x.op, x.d, x.a, x.b, x.imm⟩]).length (byW ([insW ⟨x.op, x.d, x.a, x.b, x.imm⟩])) ∧ Below w.heap.size w w' := by
  rw [show iv x = .agg #[.int .i64 x.kind, .int .i64 x.op, .int .i64 x.d, .int .i64 x.a, .int .i64 x.b, .int .i64 x.imm, .string x.lab, .int .u32 x.word] from rfl, hk]
  go_enter Tryd.func31, Tryd.ntmps31
  have hal := (Below.refl w.heap.size w).alloc (Nat.le_refl _) (.cells #[.int .i64 1, .int .i64 x.op, .int .i64 x.d, .int .i64 x.a, .int .i64 x.b, .int .i64 x.imm, .string x.lab, .int .u32 x.word] 40)
  have hN := cells8 (heap_new w (.cells #[.int .i64 1, .int .i64 x.op, .int .i64 x.d, .int .i64 x.a, .int .i64 x.b, .int .i64 x.imm, .string x.lab, .int .u32 x.word] 40))
  obtain ⟨w1, hw1⟩ : ∃ w1, w1 = w.alloc (.cells #[.int .i64 1, .int .i64 x.op, .int .i64 x.d, .int .i64 x.a, .int .i64 x.b, .int .i64 x.imm, .string x.lab, .int .u32 x.word] 40) := ⟨_, rfl⟩
  obtain ⟨Q, hQ⟩ : ∃ Q, Q = w.heap.size := ⟨_, rfl⟩
  rw [← hw1, ← hQ] at hN
  rw [← hw1] at hal
  go_upto_region 1 with fail
  rw [← hw1, ← hQ]
  have HQ := Lib.hid hQ
  clear hw1 hQ hk
  have HB1 := Lib.hid hal
  have HN := Lib.hid hN
  clear hal hN
  go_wp2_with fail
  refine (rword_any 23 25 0 0 (T / 65536) _).mono ?_
  rintro e w2 ⟨rfl, hb⟩
  have HB2 := Lib.hid (HB1.out.trans (hb.mono HB1.out.size))
  have HB12 := Lib.hid hb
  clear hb
  go_wp2_with fail
  refine (rword_any 17 25 25 0 (T % 65536) _).mono ?_
  rintro e w3 ⟨rfl, hb⟩
  have HB3 := Lib.hid (HB2.out.trans (hb.mono HB2.out.size))
  have hb13 := HB12.out.trans (hb.mono HB12.out.size)
  obtain ⟨c0, c1, c2, c3, c4, c5, c6, c7⟩ := HN.out
  replace c0 := (hb13.cell (p := ⟨Q, 0, none⟩) (World.block_lt_of_cell? w1 _ c0)).trans c0
  replace c1 := (hb13.cell (p := ⟨Q, 1, none⟩) (World.block_lt_of_cell? w1 _ c1)).trans c1
  replace c2 := (hb13.cell (p := ⟨Q, 2, none⟩) (World.block_lt_of_cell? w1 _ c2)).trans c2
  replace c3 := (hb13.cell (p := ⟨Q, 3, none⟩) (World.block_lt_of_cell? w1 _ c3)).trans c3
  replace c4 := (hb13.cell (p := ⟨Q, 4, none⟩) (World.block_lt_of_cell? w1 _ c4)).trans c4
  replace c5 := (hb13.cell (p := ⟨Q, 5, none⟩) (World.block_lt_of_cell? w1 _ c5)).trans c5
  replace c6 := (hb13.cell (p := ⟨Q, 6, none⟩) (World.block_lt_of_cell? w1 _ c6)).trans c6
  replace c7 := (hb13.cell (p := ⟨Q, 7, none⟩) (World.block_lt_of_cell? w1 _ c7)).trans c7
  have HC := Lib.hid (fun w' (hb : Below w3.heap.size w3 w') => (⟨(hb.cell (p := ⟨Q, 0, none⟩) (World.block_lt_of_cell? w3 _ c0)).trans c0, (hb.cell (p := ⟨Q, 1, none⟩) (World.block_lt_of_cell? w3 _ c1)).trans c1, (hb.cell (p := ⟨Q, 2, none⟩) (World.block_lt_of_cell? w3 _ c2)).trans c2, (hb.cell (p := ⟨Q, 3, none⟩) (World.block_lt_of_cell? w3 _ c3)).trans c3, (hb.cell (p := ⟨Q, 4, none⟩) (World.block_lt_of_cell? w3 _ c4)).trans c4, (hb.cell (p := ⟨Q, 5, none⟩) (World.block_lt_of_cell? w3 _ c5)).trans c5⟩ : w'.cell? ⟨Q, 0, none⟩ = some (.int .i64 1) ∧ w'.cell? ⟨Q, 1, none⟩ = some (.int .i64 x.op) ∧ w'.cell? ⟨Q, 2, none⟩ = some (.int .i64 x.d) ∧ w'.cell? ⟨Q, 3, none⟩ = some (.int .i64 x.a) ∧ w'.cell? ⟨Q, 4, none⟩ = some (.int .i64 x.b) ∧ w'.cell? ⟨Q, 5, none⟩ = some (.int .i64 x.imm)))
  obtain ⟨LU, hLU⟩ : ∃ LU, LU = insW ⟨23, 25, 0, 0, T / 65536⟩ := ⟨_, rfl⟩
  obtain ⟨OR, hOR⟩ : ∃ OR, OR = insW ⟨17, 25, 25, 0, T % 65536⟩ := ⟨_, rfl⟩
  rw [← hLU, ← hOR]
  have HL := Lib.hid (And.intro hLU hOR)
  clear hb hb13 hLU hOR HB1 HB2 HB12 HN
  go_wp2_with fail
  refine (rword_any x.op x.d x.a x.b x.imm _).mono ?_
  rintro e w4 ⟨rfl, hb⟩
  have HB4 := Lib.hid (HB3.out.trans (hb.mono HB3.out.size))
  clear hb c0 c1 c2 c3 c4 c5 c6 c7
  go_wp2_with fail
  go_ret
  exact ⟨_, rfl, World.ownsRow_lit (base := w.heap.size) (e := 38) (size := 1) w4 _ 1 HB4.out.size (by decide) rfl, HB4.out.alloc HB4.out.size _⟩
set_option maxRecDepth 100000 in
set_option maxHeartbeats 8000000 in
theorem rWords_k31 {x : It} (w : World) (a T : Int) (hk : x.kind = 3) (hT : 0 ≤ T ∧ T ≤ 67108864) (ha : 0 ≤ a ∧ a ≤ 67108864) :
    Calls Tryd.prog 31 #[iv x, .int .i64 1, .int .i64 a, .int .i64 T] w fun e w' => ∃ sv, e = .returned sv ∧ w'.ownsRow w.heap.size 38 1 sv ([insW ⟨x.op, 0, x.a, x.b, T - a - 1⟩]).length (byW ([insW ⟨x.op, 0, x.a, x.b, T - a - 1⟩])) ∧ Below w.heap.size w w' := by
  rw [show iv x = .agg #[.int .i64 x.kind, .int .i64 x.op, .int .i64 x.d, .int .i64 x.a, .int .i64 x.b, .int .i64 x.imm, .string x.lab, .int .u32 x.word] from rfl, hk]
  go_enter Tryd.func31, Tryd.ntmps31
  have hal := (Below.refl w.heap.size w).alloc (Nat.le_refl _) (.cells #[.int .i64 3, .int .i64 x.op, .int .i64 x.d, .int .i64 x.a, .int .i64 x.b, .int .i64 x.imm, .string x.lab, .int .u32 x.word] 40)
  have hN := cells8 (heap_new w (.cells #[.int .i64 3, .int .i64 x.op, .int .i64 x.d, .int .i64 x.a, .int .i64 x.b, .int .i64 x.imm, .string x.lab, .int .u32 x.word] 40))
  obtain ⟨w1, hw1⟩ : ∃ w1, w1 = w.alloc (.cells #[.int .i64 3, .int .i64 x.op, .int .i64 x.d, .int .i64 x.a, .int .i64 x.b, .int .i64 x.imm, .string x.lab, .int .u32 x.word] 40) := ⟨_, rfl⟩
  obtain ⟨Q, hQ⟩ : ∃ Q, Q = w.heap.size := ⟨_, rfl⟩
  rw [← hw1, ← hQ] at hN
  rw [← hw1] at hal
  go_upto_region 1 with fail
  rw [← hw1, ← hQ]
  have HQ := Lib.hid hQ
  clear hw1 hQ hk
  have HB1 := Lib.hid hal
  have HN := Lib.hid hN
  clear hal hN
  go_wp2_with fail
  refine (rword_any 23 25 0 0 (T / 65536) _).mono ?_
  rintro e w2 ⟨rfl, hb⟩
  have HB2 := Lib.hid (HB1.out.trans (hb.mono HB1.out.size))
  have HB12 := Lib.hid hb
  clear hb
  go_wp2_with fail
  refine (rword_any 17 25 25 0 (T % 65536) _).mono ?_
  rintro e w3 ⟨rfl, hb⟩
  have HB3 := Lib.hid (HB2.out.trans (hb.mono HB2.out.size))
  have hb13 := HB12.out.trans (hb.mono HB12.out.size)
  obtain ⟨c0, c1, c2, c3, c4, c5, c6, c7⟩ := HN.out
  replace c0 := (hb13.cell (p := ⟨Q, 0, none⟩) (World.block_lt_of_cell? w1 _ c0)).trans c0
  replace c1 := (hb13.cell (p := ⟨Q, 1, none⟩) (World.block_lt_of_cell? w1 _ c1)).trans c1
  replace c2 := (hb13.cell (p := ⟨Q, 2, none⟩) (World.block_lt_of_cell? w1 _ c2)).trans c2
  replace c3 := (hb13.cell (p := ⟨Q, 3, none⟩) (World.block_lt_of_cell? w1 _ c3)).trans c3
  replace c4 := (hb13.cell (p := ⟨Q, 4, none⟩) (World.block_lt_of_cell? w1 _ c4)).trans c4
  replace c5 := (hb13.cell (p := ⟨Q, 5, none⟩) (World.block_lt_of_cell? w1 _ c5)).trans c5
  replace c6 := (hb13.cell (p := ⟨Q, 6, none⟩) (World.block_lt_of_cell? w1 _ c6)).trans c6
  replace c7 := (hb13.cell (p := ⟨Q, 7, none⟩) (World.block_lt_of_cell? w1 _ c7)).trans c7
  have HC := Lib.hid (fun w' (hb : Below w3.heap.size w3 w') => (⟨(hb.cell (p := ⟨Q, 0, none⟩) (World.block_lt_of_cell? w3 _ c0)).trans c0, (hb.cell (p := ⟨Q, 1, none⟩) (World.block_lt_of_cell? w3 _ c1)).trans c1, (hb.cell (p := ⟨Q, 2, none⟩) (World.block_lt_of_cell? w3 _ c2)).trans c2, (hb.cell (p := ⟨Q, 3, none⟩) (World.block_lt_of_cell? w3 _ c3)).trans c3, (hb.cell (p := ⟨Q, 4, none⟩) (World.block_lt_of_cell? w3 _ c4)).trans c4, (hb.cell (p := ⟨Q, 5, none⟩) (World.block_lt_of_cell? w3 _ c5)).trans c5⟩ : w'.cell? ⟨Q, 0, none⟩ = some (.int .i64 3) ∧ w'.cell? ⟨Q, 1, none⟩ = some (.int .i64 x.op) ∧ w'.cell? ⟨Q, 2, none⟩ = some (.int .i64 x.d) ∧ w'.cell? ⟨Q, 3, none⟩ = some (.int .i64 x.a) ∧ w'.cell? ⟨Q, 4, none⟩ = some (.int .i64 x.b) ∧ w'.cell? ⟨Q, 5, none⟩ = some (.int .i64 x.imm)))
  obtain ⟨LU, hLU⟩ : ∃ LU, LU = insW ⟨23, 25, 0, 0, T / 65536⟩ := ⟨_, rfl⟩
  obtain ⟨OR, hOR⟩ : ∃ OR, OR = insW ⟨17, 25, 25, 0, T % 65536⟩ := ⟨_, rfl⟩
  rw [← hLU, ← hOR]
  have HL := Lib.hid (And.intro hLU hOR)
  clear hb hb13 hLU hOR HB1 HB2 HB12 HN
  go_wp2_with fail
  refine (rword_any x.op 0 x.a x.b (T - a - 1) _).mono ?_
  rintro e w4 ⟨rfl, hb⟩
  have HB4 := Lib.hid (HB3.out.trans (hb.mono HB3.out.size))
  clear hb c0 c1 c2 c3 c4 c5 c6 c7
  go_wp2_with fail
  go_ret
  exact ⟨_, rfl, World.ownsRow_lit (base := w.heap.size) (e := 38) (size := 1) w4 _ 1 HB4.out.size (by decide) rfl, HB4.out.alloc HB4.out.size _⟩
set_option maxRecDepth 100000 in
set_option maxHeartbeats 8000000 in
theorem rWords_k41 {x : It} (w : World) (a T : Int) (hk : x.kind = 4) (hT : 0 ≤ T ∧ T ≤ 67108864) (ha : 0 ≤ a ∧ a ≤ 67108864) :
    Calls Tryd.prog 31 #[iv x, .int .i64 1, .int .i64 a, .int .i64 T] w fun e w' => ∃ sv, e = .returned sv ∧ w'.ownsRow w.heap.size 38 1 sv ([insW ⟨32, x.d, 0, 0, T - a - 1⟩]).length (byW ([insW ⟨32, x.d, 0, 0, T - a - 1⟩])) ∧ Below w.heap.size w w' := by
  rw [show iv x = .agg #[.int .i64 x.kind, .int .i64 x.op, .int .i64 x.d, .int .i64 x.a, .int .i64 x.b, .int .i64 x.imm, .string x.lab, .int .u32 x.word] from rfl, hk]
  go_enter Tryd.func31, Tryd.ntmps31
  have hal := (Below.refl w.heap.size w).alloc (Nat.le_refl _) (.cells #[.int .i64 4, .int .i64 x.op, .int .i64 x.d, .int .i64 x.a, .int .i64 x.b, .int .i64 x.imm, .string x.lab, .int .u32 x.word] 40)
  have hN := cells8 (heap_new w (.cells #[.int .i64 4, .int .i64 x.op, .int .i64 x.d, .int .i64 x.a, .int .i64 x.b, .int .i64 x.imm, .string x.lab, .int .u32 x.word] 40))
  obtain ⟨w1, hw1⟩ : ∃ w1, w1 = w.alloc (.cells #[.int .i64 4, .int .i64 x.op, .int .i64 x.d, .int .i64 x.a, .int .i64 x.b, .int .i64 x.imm, .string x.lab, .int .u32 x.word] 40) := ⟨_, rfl⟩
  obtain ⟨Q, hQ⟩ : ∃ Q, Q = w.heap.size := ⟨_, rfl⟩
  rw [← hw1, ← hQ] at hN
  rw [← hw1] at hal
  go_upto_region 1 with fail
  rw [← hw1, ← hQ]
  have HQ := Lib.hid hQ
  clear hw1 hQ hk
  have HB1 := Lib.hid hal
  have HN := Lib.hid hN
  clear hal hN
  go_wp2_with fail
  refine (rword_any 23 25 0 0 (T / 65536) _).mono ?_
  rintro e w2 ⟨rfl, hb⟩
  have HB2 := Lib.hid (HB1.out.trans (hb.mono HB1.out.size))
  have HB12 := Lib.hid hb
  clear hb
  go_wp2_with fail
  refine (rword_any 17 25 25 0 (T % 65536) _).mono ?_
  rintro e w3 ⟨rfl, hb⟩
  have HB3 := Lib.hid (HB2.out.trans (hb.mono HB2.out.size))
  have hb13 := HB12.out.trans (hb.mono HB12.out.size)
  obtain ⟨c0, c1, c2, c3, c4, c5, c6, c7⟩ := HN.out
  replace c0 := (hb13.cell (p := ⟨Q, 0, none⟩) (World.block_lt_of_cell? w1 _ c0)).trans c0
  replace c1 := (hb13.cell (p := ⟨Q, 1, none⟩) (World.block_lt_of_cell? w1 _ c1)).trans c1
  replace c2 := (hb13.cell (p := ⟨Q, 2, none⟩) (World.block_lt_of_cell? w1 _ c2)).trans c2
  replace c3 := (hb13.cell (p := ⟨Q, 3, none⟩) (World.block_lt_of_cell? w1 _ c3)).trans c3
  replace c4 := (hb13.cell (p := ⟨Q, 4, none⟩) (World.block_lt_of_cell? w1 _ c4)).trans c4
  replace c5 := (hb13.cell (p := ⟨Q, 5, none⟩) (World.block_lt_of_cell? w1 _ c5)).trans c5
  replace c6 := (hb13.cell (p := ⟨Q, 6, none⟩) (World.block_lt_of_cell? w1 _ c6)).trans c6
  replace c7 := (hb13.cell (p := ⟨Q, 7, none⟩) (World.block_lt_of_cell? w1 _ c7)).trans c7
  have HC := Lib.hid (fun w' (hb : Below w3.heap.size w3 w') => (⟨(hb.cell (p := ⟨Q, 0, none⟩) (World.block_lt_of_cell? w3 _ c0)).trans c0, (hb.cell (p := ⟨Q, 1, none⟩) (World.block_lt_of_cell? w3 _ c1)).trans c1, (hb.cell (p := ⟨Q, 2, none⟩) (World.block_lt_of_cell? w3 _ c2)).trans c2, (hb.cell (p := ⟨Q, 3, none⟩) (World.block_lt_of_cell? w3 _ c3)).trans c3, (hb.cell (p := ⟨Q, 4, none⟩) (World.block_lt_of_cell? w3 _ c4)).trans c4, (hb.cell (p := ⟨Q, 5, none⟩) (World.block_lt_of_cell? w3 _ c5)).trans c5⟩ : w'.cell? ⟨Q, 0, none⟩ = some (.int .i64 4) ∧ w'.cell? ⟨Q, 1, none⟩ = some (.int .i64 x.op) ∧ w'.cell? ⟨Q, 2, none⟩ = some (.int .i64 x.d) ∧ w'.cell? ⟨Q, 3, none⟩ = some (.int .i64 x.a) ∧ w'.cell? ⟨Q, 4, none⟩ = some (.int .i64 x.b) ∧ w'.cell? ⟨Q, 5, none⟩ = some (.int .i64 x.imm)))
  obtain ⟨LU, hLU⟩ : ∃ LU, LU = insW ⟨23, 25, 0, 0, T / 65536⟩ := ⟨_, rfl⟩
  obtain ⟨OR, hOR⟩ : ∃ OR, OR = insW ⟨17, 25, 25, 0, T % 65536⟩ := ⟨_, rfl⟩
  rw [← hLU, ← hOR]
  have HL := Lib.hid (And.intro hLU hOR)
  clear hb hb13 hLU hOR HB1 HB2 HB12 HN
  go_wp2_with fail
  refine (rword_any 32 x.d 0 0 (T - a - 1) _).mono ?_
  rintro e w4 ⟨rfl, hb⟩
  have HB4 := Lib.hid (HB3.out.trans (hb.mono HB3.out.size))
  clear hb c0 c1 c2 c3 c4 c5 c6 c7
  go_wp2_with fail
  go_ret
  exact ⟨_, rfl, World.ownsRow_lit (base := w.heap.size) (e := 38) (size := 1) w4 _ 1 HB4.out.size (by decide) rfl, HB4.out.alloc HB4.out.size _⟩
set_option maxRecDepth 100000 in
set_option maxHeartbeats 8000000 in
theorem rWords_k42 {x : It} (w : World) (a T : Int) (hk : x.kind = 4) (hT : 0 ≤ T ∧ T ≤ 67108864) (ha : 0 ≤ a ∧ a ≤ 67108864) :
    Calls Tryd.prog 31 #[iv x, .int .i64 2, .int .i64 a, .int .i64 T] w fun e w' => ∃ sv, e = .returned sv ∧ w'.ownsRow w.heap.size 38 1 sv ([insW ⟨23, 25, 0, 0, T / 65536⟩, insW ⟨17, 25, 25, 0, T % 65536⟩, insW ⟨33, x.d, 25, 0, 0⟩]).length (byW ([insW ⟨23, 25, 0, 0, T / 65536⟩, insW ⟨17, 25, 25, 0, T % 65536⟩, insW ⟨33, x.d, 25, 0, 0⟩])) ∧ Below w.heap.size w w' := by
  rw [show iv x = .agg #[.int .i64 x.kind, .int .i64 x.op, .int .i64 x.d, .int .i64 x.a, .int .i64 x.b, .int .i64 x.imm, .string x.lab, .int .u32 x.word] from rfl, hk]
  go_enter Tryd.func31, Tryd.ntmps31
  have hal := (Below.refl w.heap.size w).alloc (Nat.le_refl _) (.cells #[.int .i64 4, .int .i64 x.op, .int .i64 x.d, .int .i64 x.a, .int .i64 x.b, .int .i64 x.imm, .string x.lab, .int .u32 x.word] 40)
  have hN := cells8 (heap_new w (.cells #[.int .i64 4, .int .i64 x.op, .int .i64 x.d, .int .i64 x.a, .int .i64 x.b, .int .i64 x.imm, .string x.lab, .int .u32 x.word] 40))
  obtain ⟨w1, hw1⟩ : ∃ w1, w1 = w.alloc (.cells #[.int .i64 4, .int .i64 x.op, .int .i64 x.d, .int .i64 x.a, .int .i64 x.b, .int .i64 x.imm, .string x.lab, .int .u32 x.word] 40) := ⟨_, rfl⟩
  obtain ⟨Q, hQ⟩ : ∃ Q, Q = w.heap.size := ⟨_, rfl⟩
  rw [← hw1, ← hQ] at hN
  rw [← hw1] at hal
  go_upto_region 1 with fail
  rw [← hw1, ← hQ]
  have HQ := Lib.hid hQ
  clear hw1 hQ hk
  have HB1 := Lib.hid hal
  have HN := Lib.hid hN
  clear hal hN
  go_wp2_with fail
  refine (rword_any 23 25 0 0 (T / 65536) _).mono ?_
  rintro e w2 ⟨rfl, hb⟩
  have HB2 := Lib.hid (HB1.out.trans (hb.mono HB1.out.size))
  have HB12 := Lib.hid hb
  clear hb
  go_wp2_with fail
  refine (rword_any 17 25 25 0 (T % 65536) _).mono ?_
  rintro e w3 ⟨rfl, hb⟩
  have HB3 := Lib.hid (HB2.out.trans (hb.mono HB2.out.size))
  have hb13 := HB12.out.trans (hb.mono HB12.out.size)
  obtain ⟨c0, c1, c2, c3, c4, c5, c6, c7⟩ := HN.out
  replace c0 := (hb13.cell (p := ⟨Q, 0, none⟩) (World.block_lt_of_cell? w1 _ c0)).trans c0
  replace c1 := (hb13.cell (p := ⟨Q, 1, none⟩) (World.block_lt_of_cell? w1 _ c1)).trans c1
  replace c2 := (hb13.cell (p := ⟨Q, 2, none⟩) (World.block_lt_of_cell? w1 _ c2)).trans c2
  replace c3 := (hb13.cell (p := ⟨Q, 3, none⟩) (World.block_lt_of_cell? w1 _ c3)).trans c3
  replace c4 := (hb13.cell (p := ⟨Q, 4, none⟩) (World.block_lt_of_cell? w1 _ c4)).trans c4
  replace c5 := (hb13.cell (p := ⟨Q, 5, none⟩) (World.block_lt_of_cell? w1 _ c5)).trans c5
  replace c6 := (hb13.cell (p := ⟨Q, 6, none⟩) (World.block_lt_of_cell? w1 _ c6)).trans c6
  replace c7 := (hb13.cell (p := ⟨Q, 7, none⟩) (World.block_lt_of_cell? w1 _ c7)).trans c7
  have HC := Lib.hid (fun w' (hb : Below w3.heap.size w3 w') => (⟨(hb.cell (p := ⟨Q, 0, none⟩) (World.block_lt_of_cell? w3 _ c0)).trans c0, (hb.cell (p := ⟨Q, 1, none⟩) (World.block_lt_of_cell? w3 _ c1)).trans c1, (hb.cell (p := ⟨Q, 2, none⟩) (World.block_lt_of_cell? w3 _ c2)).trans c2, (hb.cell (p := ⟨Q, 3, none⟩) (World.block_lt_of_cell? w3 _ c3)).trans c3, (hb.cell (p := ⟨Q, 4, none⟩) (World.block_lt_of_cell? w3 _ c4)).trans c4, (hb.cell (p := ⟨Q, 5, none⟩) (World.block_lt_of_cell? w3 _ c5)).trans c5⟩ : w'.cell? ⟨Q, 0, none⟩ = some (.int .i64 4) ∧ w'.cell? ⟨Q, 1, none⟩ = some (.int .i64 x.op) ∧ w'.cell? ⟨Q, 2, none⟩ = some (.int .i64 x.d) ∧ w'.cell? ⟨Q, 3, none⟩ = some (.int .i64 x.a) ∧ w'.cell? ⟨Q, 4, none⟩ = some (.int .i64 x.b) ∧ w'.cell? ⟨Q, 5, none⟩ = some (.int .i64 x.imm)))
  obtain ⟨LU, hLU⟩ : ∃ LU, LU = insW ⟨23, 25, 0, 0, T / 65536⟩ := ⟨_, rfl⟩
  obtain ⟨OR, hOR⟩ : ∃ OR, OR = insW ⟨17, 25, 25, 0, T % 65536⟩ := ⟨_, rfl⟩
  rw [← hLU, ← hOR]
  have HL := Lib.hid (And.intro hLU hOR)
  clear hb hb13 hLU hOR HB1 HB2 HB12 HN
  go_wp2_with fail
  refine (rword_any 33 x.d 25 0 0 _).mono ?_
  rintro e w4 ⟨rfl, hb⟩
  have HB4 := Lib.hid (HB3.out.trans (hb.mono HB3.out.size))
  clear hb c0 c1 c2 c3 c4 c5 c6 c7
  obtain ⟨rfl, rfl⟩ := HL.out
  go_wp2_with fail
  go_ret
  exact ⟨_, rfl, World.ownsRow_lit (base := w.heap.size) (e := 38) (size := 1) w4 _ 3 HB4.out.size (by decide) rfl, HB4.out.alloc HB4.out.size _⟩
set_option maxRecDepth 100000 in
set_option maxHeartbeats 8000000 in
theorem rWords_k32 {x : It} (w : World) (a T : Int) (hk : x.kind = 3) (hT : 0 ≤ T ∧ T ≤ 67108864) (ha : 0 ≤ a ∧ a ≤ 67108864) :
    Calls Tryd.prog 31 #[iv x, .int .i64 2, .int .i64 a, .int .i64 T] w fun e w' => ∃ sv, e = .returned sv ∧ w'.ownsRow w.heap.size 38 1 sv ([insW ⟨turned x.op, 0, x.a, x.b, 1⟩, insW ⟨32, 0, 0, 0, T - a - 2⟩]).length (byW ([insW ⟨turned x.op, 0, x.a, x.b, 1⟩, insW ⟨32, 0, 0, 0, T - a - 2⟩])) ∧ Below w.heap.size w w' := by
  rw [show iv x = .agg #[.int .i64 x.kind, .int .i64 x.op, .int .i64 x.d, .int .i64 x.a, .int .i64 x.b, .int .i64 x.imm, .string x.lab, .int .u32 x.word] from rfl, hk]
  go_enter Tryd.func31, Tryd.ntmps31
  have hal := (Below.refl w.heap.size w).alloc (Nat.le_refl _) (.cells #[.int .i64 3, .int .i64 x.op, .int .i64 x.d, .int .i64 x.a, .int .i64 x.b, .int .i64 x.imm, .string x.lab, .int .u32 x.word] 40)
  have hN := cells8 (heap_new w (.cells #[.int .i64 3, .int .i64 x.op, .int .i64 x.d, .int .i64 x.a, .int .i64 x.b, .int .i64 x.imm, .string x.lab, .int .u32 x.word] 40))
  obtain ⟨w1, hw1⟩ : ∃ w1, w1 = w.alloc (.cells #[.int .i64 3, .int .i64 x.op, .int .i64 x.d, .int .i64 x.a, .int .i64 x.b, .int .i64 x.imm, .string x.lab, .int .u32 x.word] 40) := ⟨_, rfl⟩
  obtain ⟨Q, hQ⟩ : ∃ Q, Q = w.heap.size := ⟨_, rfl⟩
  rw [← hw1, ← hQ] at hN
  rw [← hw1] at hal
  go_upto_region 1 with fail
  rw [← hw1, ← hQ]
  have HQ := Lib.hid hQ
  clear hw1 hQ hk
  have HB1 := Lib.hid hal
  have HN := Lib.hid hN
  clear hal hN
  go_wp2_with fail
  refine (rword_any 23 25 0 0 (T / 65536) _).mono ?_
  rintro e w2 ⟨rfl, hb⟩
  have HB2 := Lib.hid (HB1.out.trans (hb.mono HB1.out.size))
  have HB12 := Lib.hid hb
  clear hb
  go_wp2_with fail
  refine (rword_any 17 25 25 0 (T % 65536) _).mono ?_
  rintro e w3 ⟨rfl, hb⟩
  have HB3 := Lib.hid (HB2.out.trans (hb.mono HB2.out.size))
  have hb13 := HB12.out.trans (hb.mono HB12.out.size)
  obtain ⟨c0, c1, c2, c3, c4, c5, c6, c7⟩ := HN.out
  replace c0 := (hb13.cell (p := ⟨Q, 0, none⟩) (World.block_lt_of_cell? w1 _ c0)).trans c0
  replace c1 := (hb13.cell (p := ⟨Q, 1, none⟩) (World.block_lt_of_cell? w1 _ c1)).trans c1
  replace c2 := (hb13.cell (p := ⟨Q, 2, none⟩) (World.block_lt_of_cell? w1 _ c2)).trans c2
  replace c3 := (hb13.cell (p := ⟨Q, 3, none⟩) (World.block_lt_of_cell? w1 _ c3)).trans c3
  replace c4 := (hb13.cell (p := ⟨Q, 4, none⟩) (World.block_lt_of_cell? w1 _ c4)).trans c4
  replace c5 := (hb13.cell (p := ⟨Q, 5, none⟩) (World.block_lt_of_cell? w1 _ c5)).trans c5
  replace c6 := (hb13.cell (p := ⟨Q, 6, none⟩) (World.block_lt_of_cell? w1 _ c6)).trans c6
  replace c7 := (hb13.cell (p := ⟨Q, 7, none⟩) (World.block_lt_of_cell? w1 _ c7)).trans c7
  have HC := Lib.hid (fun w' (hb : Below w3.heap.size w3 w') => (⟨(hb.cell (p := ⟨Q, 0, none⟩) (World.block_lt_of_cell? w3 _ c0)).trans c0, (hb.cell (p := ⟨Q, 1, none⟩) (World.block_lt_of_cell? w3 _ c1)).trans c1, (hb.cell (p := ⟨Q, 2, none⟩) (World.block_lt_of_cell? w3 _ c2)).trans c2, (hb.cell (p := ⟨Q, 3, none⟩) (World.block_lt_of_cell? w3 _ c3)).trans c3, (hb.cell (p := ⟨Q, 4, none⟩) (World.block_lt_of_cell? w3 _ c4)).trans c4, (hb.cell (p := ⟨Q, 5, none⟩) (World.block_lt_of_cell? w3 _ c5)).trans c5⟩ : w'.cell? ⟨Q, 0, none⟩ = some (.int .i64 3) ∧ w'.cell? ⟨Q, 1, none⟩ = some (.int .i64 x.op) ∧ w'.cell? ⟨Q, 2, none⟩ = some (.int .i64 x.d) ∧ w'.cell? ⟨Q, 3, none⟩ = some (.int .i64 x.a) ∧ w'.cell? ⟨Q, 4, none⟩ = some (.int .i64 x.b) ∧ w'.cell? ⟨Q, 5, none⟩ = some (.int .i64 x.imm)))
  obtain ⟨LU, hLU⟩ : ∃ LU, LU = insW ⟨23, 25, 0, 0, T / 65536⟩ := ⟨_, rfl⟩
  obtain ⟨OR, hOR⟩ : ∃ OR, OR = insW ⟨17, 25, 25, 0, T % 65536⟩ := ⟨_, rfl⟩
  rw [← hLU, ← hOR]
  have HL := Lib.hid (And.intro hLU hOR)
  clear hb hb13 hLU hOR HB1 HB2 HB12 HN
  clear c6
  go_upto_region 8 with fail
  have e1 : IntKind.i64.wrap (T - a) = T - a := by simp [IntKind.wrap, IntKind.bits, IntKind.signed]; split <;> omega
  have e2 : IntKind.i64.wrap (T - a - 2) = T - a - 2 := by simp [IntKind.wrap, IntKind.bits, IntKind.signed]; split <;> omega
  first
    | (go_region_held (fun w' => w'.cell? ⟨Q, 1, none⟩ = some (.int .i64 x.op) ∧ w'.cell? ⟨Q, 2, none⟩ = some (.int .i64 x.d) ∧ w'.cell? ⟨Q, 3, none⟩ = some (.int .i64 x.a) ∧ w'.cell? ⟨Q, 4, none⟩ = some (.int .i64 x.b)) (go_keep) (first
      | (go_at_call 42; refine (rturned_any _ _).mono ?_; rintro e w8 ⟨rfl, rfl⟩)
      | (go_at_call 41; refine (rword_any _ _ _ _ _ _).mono ?_; rintro e w9 ⟨rfl, hb9⟩; have hacc := hacc.trans (hb9.mono hacc.size); obtain ⟨z0, z1, z2, z3, z4, z5⟩ := HC.out w9 hacc)
      | (go_at_call 41; refine (rword_any _ _ _ _ _ _).mono ?_; rintro e w9 ⟨rfl, hb9⟩; have hacc := (Below.refl w3.heap.size w3).drew.trans hb9; obtain ⟨z0, z1, z2, z3, z4, z5⟩ := HC.out w9 hacc)))
    | fail
  all_goals
    obtain ⟨rfl, rfl⟩ := HL.out
    clear e1 e2 z0 z1 z2 z3 z4 z5 c0 c1 c2 c3 c4 c5 c7
    have HBz := Lib.hid (HB3.out.trans (hacc.mono HB3.out.size))
    clear hacc hb9
    go_wp2_with fail
    go_ret
    exact ⟨_, rfl, World.ownsRow_lit (base := w.heap.size) (e := 38) (size := 1) _ _ 2 HBz.out.size (by decide) rfl, HBz.out.alloc HBz.out.size _⟩
set_option maxRecDepth 100000 in
set_option maxHeartbeats 8000000 in
theorem rWords_k33 {x : It} (w : World) (a T : Int) (hk : x.kind = 3) (hT : 0 ≤ T ∧ T ≤ 67108864) (ha : 0 ≤ a ∧ a ≤ 67108864) :
    Calls Tryd.prog 31 #[iv x, .int .i64 3, .int .i64 a, .int .i64 T] w fun e w' => ∃ sv, e = .returned sv ∧ w'.ownsRow w.heap.size 38 1 sv ([insW ⟨turned x.op, 0, x.a, x.b, 3⟩, insW ⟨23, 25, 0, 0, T / 65536⟩, insW ⟨17, 25, 25, 0, T % 65536⟩, insW ⟨33, 0, 25, 0, 0⟩]).length (byW ([insW ⟨turned x.op, 0, x.a, x.b, 3⟩, insW ⟨23, 25, 0, 0, T / 65536⟩, insW ⟨17, 25, 25, 0, T % 65536⟩, insW ⟨33, 0, 25, 0, 0⟩])) ∧ Below w.heap.size w w' := by
  rw [show iv x = .agg #[.int .i64 x.kind, .int .i64 x.op, .int .i64 x.d, .int .i64 x.a, .int .i64 x.b, .int .i64 x.imm, .string x.lab, .int .u32 x.word] from rfl, hk]
  go_enter Tryd.func31, Tryd.ntmps31
  have hal := (Below.refl w.heap.size w).alloc (Nat.le_refl _) (.cells #[.int .i64 3, .int .i64 x.op, .int .i64 x.d, .int .i64 x.a, .int .i64 x.b, .int .i64 x.imm, .string x.lab, .int .u32 x.word] 40)
  have hN := cells8 (heap_new w (.cells #[.int .i64 3, .int .i64 x.op, .int .i64 x.d, .int .i64 x.a, .int .i64 x.b, .int .i64 x.imm, .string x.lab, .int .u32 x.word] 40))
  obtain ⟨w1, hw1⟩ : ∃ w1, w1 = w.alloc (.cells #[.int .i64 3, .int .i64 x.op, .int .i64 x.d, .int .i64 x.a, .int .i64 x.b, .int .i64 x.imm, .string x.lab, .int .u32 x.word] 40) := ⟨_, rfl⟩
  obtain ⟨Q, hQ⟩ : ∃ Q, Q = w.heap.size := ⟨_, rfl⟩
  rw [← hw1, ← hQ] at hN
  rw [← hw1] at hal
  go_upto_region 1 with fail
  rw [← hw1, ← hQ]
  have HQ := Lib.hid hQ
  clear hw1 hQ hk
  have HB1 := Lib.hid hal
  have HN := Lib.hid hN
  clear hal hN
  go_wp2_with fail
  refine (rword_any 23 25 0 0 (T / 65536) _).mono ?_
  rintro e w2 ⟨rfl, hb⟩
  have HB2 := Lib.hid (HB1.out.trans (hb.mono HB1.out.size))
  have HB12 := Lib.hid hb
  clear hb
  go_wp2_with fail
  refine (rword_any 17 25 25 0 (T % 65536) _).mono ?_
  rintro e w3 ⟨rfl, hb⟩
  have HB3 := Lib.hid (HB2.out.trans (hb.mono HB2.out.size))
  have hb13 := HB12.out.trans (hb.mono HB12.out.size)
  obtain ⟨c0, c1, c2, c3, c4, c5, c6, c7⟩ := HN.out
  replace c0 := (hb13.cell (p := ⟨Q, 0, none⟩) (World.block_lt_of_cell? w1 _ c0)).trans c0
  replace c1 := (hb13.cell (p := ⟨Q, 1, none⟩) (World.block_lt_of_cell? w1 _ c1)).trans c1
  replace c2 := (hb13.cell (p := ⟨Q, 2, none⟩) (World.block_lt_of_cell? w1 _ c2)).trans c2
  replace c3 := (hb13.cell (p := ⟨Q, 3, none⟩) (World.block_lt_of_cell? w1 _ c3)).trans c3
  replace c4 := (hb13.cell (p := ⟨Q, 4, none⟩) (World.block_lt_of_cell? w1 _ c4)).trans c4
  replace c5 := (hb13.cell (p := ⟨Q, 5, none⟩) (World.block_lt_of_cell? w1 _ c5)).trans c5
  replace c6 := (hb13.cell (p := ⟨Q, 6, none⟩) (World.block_lt_of_cell? w1 _ c6)).trans c6
  replace c7 := (hb13.cell (p := ⟨Q, 7, none⟩) (World.block_lt_of_cell? w1 _ c7)).trans c7
  have HC := Lib.hid (fun w' (hb : Below w3.heap.size w3 w') => (⟨(hb.cell (p := ⟨Q, 0, none⟩) (World.block_lt_of_cell? w3 _ c0)).trans c0, (hb.cell (p := ⟨Q, 1, none⟩) (World.block_lt_of_cell? w3 _ c1)).trans c1, (hb.cell (p := ⟨Q, 2, none⟩) (World.block_lt_of_cell? w3 _ c2)).trans c2, (hb.cell (p := ⟨Q, 3, none⟩) (World.block_lt_of_cell? w3 _ c3)).trans c3, (hb.cell (p := ⟨Q, 4, none⟩) (World.block_lt_of_cell? w3 _ c4)).trans c4, (hb.cell (p := ⟨Q, 5, none⟩) (World.block_lt_of_cell? w3 _ c5)).trans c5⟩ : w'.cell? ⟨Q, 0, none⟩ = some (.int .i64 3) ∧ w'.cell? ⟨Q, 1, none⟩ = some (.int .i64 x.op) ∧ w'.cell? ⟨Q, 2, none⟩ = some (.int .i64 x.d) ∧ w'.cell? ⟨Q, 3, none⟩ = some (.int .i64 x.a) ∧ w'.cell? ⟨Q, 4, none⟩ = some (.int .i64 x.b) ∧ w'.cell? ⟨Q, 5, none⟩ = some (.int .i64 x.imm)))
  obtain ⟨LU, hLU⟩ : ∃ LU, LU = insW ⟨23, 25, 0, 0, T / 65536⟩ := ⟨_, rfl⟩
  obtain ⟨OR, hOR⟩ : ∃ OR, OR = insW ⟨17, 25, 25, 0, T % 65536⟩ := ⟨_, rfl⟩
  rw [← hLU, ← hOR]
  have HL := Lib.hid (And.intro hLU hOR)
  clear hb hb13 hLU hOR HB1 HB2 HB12 HN
  clear c6
  go_upto_region 10 with fail
  first
    | (go_region_held (fun w' => w'.cell? ⟨Q, 1, none⟩ = some (.int .i64 x.op) ∧ w'.cell? ⟨Q, 2, none⟩ = some (.int .i64 x.d) ∧ w'.cell? ⟨Q, 3, none⟩ = some (.int .i64 x.a) ∧ w'.cell? ⟨Q, 4, none⟩ = some (.int .i64 x.b)) (go_keep) (first
      | (go_at_call 42; refine (rturned_any _ _).mono ?_; rintro e w8 ⟨rfl, rfl⟩)
      | (go_at_call 41; refine (rword_any _ _ _ _ _ _).mono ?_; rintro e w9 ⟨rfl, hb9⟩; have hacc := hacc.trans (hb9.mono hacc.size); obtain ⟨z0, z1, z2, z3, z4, z5⟩ := HC.out w9 hacc)
      | (go_at_call 41; refine (rword_any _ _ _ _ _ _).mono ?_; rintro e w9 ⟨rfl, hb9⟩; have hacc := (Below.refl w3.heap.size w3).drew.trans hb9; obtain ⟨z0, z1, z2, z3, z4, z5⟩ := HC.out w9 hacc)))
    | fail
  all_goals
    obtain ⟨rfl, rfl⟩ := HL.out
    clear z0 z1 z2 z3 z4 z5 c0 c1 c2 c3 c4 c5 c7
    have HBz := Lib.hid (HB3.out.trans (hacc.mono HB3.out.size))
    clear hacc hb9
    go_wp2_with fail
    go_ret
    exact ⟨_, rfl, World.ownsRow_lit (base := w.heap.size) (e := 38) (size := 1) _ _ 4 HBz.out.size (by decide) rfl, HBz.out.alloc HBz.out.size _⟩
set_option maxRecDepth 100000 in
set_option maxHeartbeats 8000000 in
theorem rWords_k6 {x : It} (w : World) (fv : Int) (a T : Int) (hk : x.kind = 6) (hT : 0 ≤ T ∧ T ≤ 67108864) (ha : 0 ≤ a ∧ a ≤ 67108864) :
    Calls Tryd.prog 31 #[iv x, .int .i64 fv, .int .i64 a, .int .i64 T] w fun e w' => ∃ sv, e = .returned sv ∧ w'.ownsRow w.heap.size 38 1 sv ([x.word]).length (byW ([x.word])) ∧ Below w.heap.size w w' := by
  rw [show iv x = .agg #[.int .i64 x.kind, .int .i64 x.op, .int .i64 x.d, .int .i64 x.a, .int .i64 x.b, .int .i64 x.imm, .string x.lab, .int .u32 x.word] from rfl, hk]
  go_enter Tryd.func31, Tryd.ntmps31
  have hal := (Below.refl w.heap.size w).alloc (Nat.le_refl _) (.cells #[.int .i64 6, .int .i64 x.op, .int .i64 x.d, .int .i64 x.a, .int .i64 x.b, .int .i64 x.imm, .string x.lab, .int .u32 x.word] 40)
  have hN := cells8 (heap_new w (.cells #[.int .i64 6, .int .i64 x.op, .int .i64 x.d, .int .i64 x.a, .int .i64 x.b, .int .i64 x.imm, .string x.lab, .int .u32 x.word] 40))
  obtain ⟨w1, hw1⟩ : ∃ w1, w1 = w.alloc (.cells #[.int .i64 6, .int .i64 x.op, .int .i64 x.d, .int .i64 x.a, .int .i64 x.b, .int .i64 x.imm, .string x.lab, .int .u32 x.word] 40) := ⟨_, rfl⟩
  obtain ⟨Q, hQ⟩ : ∃ Q, Q = w.heap.size := ⟨_, rfl⟩
  rw [← hw1, ← hQ] at hN
  rw [← hw1] at hal
  go_upto_region 1 with fail
  rw [← hw1, ← hQ]
  have HQ := Lib.hid hQ
  clear hw1 hQ hk
  have HB1 := Lib.hid hal
  have HN := Lib.hid hN
  clear hal hN
  go_wp2_with fail
  refine (rword_any 23 25 0 0 (T / 65536) _).mono ?_
  rintro e w2 ⟨rfl, hb⟩
  have HB2 := Lib.hid (HB1.out.trans (hb.mono HB1.out.size))
  have HB12 := Lib.hid hb
  clear hb
  go_wp2_with fail
  refine (rword_any 17 25 25 0 (T % 65536) _).mono ?_
  rintro e w3 ⟨rfl, hb⟩
  have HB3 := Lib.hid (HB2.out.trans (hb.mono HB2.out.size))
  have hb13 := HB12.out.trans (hb.mono HB12.out.size)
  obtain ⟨c0, c1, c2, c3, c4, c5, c6, c7⟩ := HN.out
  replace c0 := (hb13.cell (p := ⟨Q, 0, none⟩) (World.block_lt_of_cell? w1 _ c0)).trans c0
  replace c1 := (hb13.cell (p := ⟨Q, 1, none⟩) (World.block_lt_of_cell? w1 _ c1)).trans c1
  replace c2 := (hb13.cell (p := ⟨Q, 2, none⟩) (World.block_lt_of_cell? w1 _ c2)).trans c2
  replace c3 := (hb13.cell (p := ⟨Q, 3, none⟩) (World.block_lt_of_cell? w1 _ c3)).trans c3
  replace c4 := (hb13.cell (p := ⟨Q, 4, none⟩) (World.block_lt_of_cell? w1 _ c4)).trans c4
  replace c5 := (hb13.cell (p := ⟨Q, 5, none⟩) (World.block_lt_of_cell? w1 _ c5)).trans c5
  replace c6 := (hb13.cell (p := ⟨Q, 6, none⟩) (World.block_lt_of_cell? w1 _ c6)).trans c6
  replace c7 := (hb13.cell (p := ⟨Q, 7, none⟩) (World.block_lt_of_cell? w1 _ c7)).trans c7
  have HC := Lib.hid (fun w' (hb : Below w3.heap.size w3 w') => (⟨(hb.cell (p := ⟨Q, 0, none⟩) (World.block_lt_of_cell? w3 _ c0)).trans c0, (hb.cell (p := ⟨Q, 1, none⟩) (World.block_lt_of_cell? w3 _ c1)).trans c1, (hb.cell (p := ⟨Q, 2, none⟩) (World.block_lt_of_cell? w3 _ c2)).trans c2, (hb.cell (p := ⟨Q, 3, none⟩) (World.block_lt_of_cell? w3 _ c3)).trans c3, (hb.cell (p := ⟨Q, 4, none⟩) (World.block_lt_of_cell? w3 _ c4)).trans c4, (hb.cell (p := ⟨Q, 5, none⟩) (World.block_lt_of_cell? w3 _ c5)).trans c5⟩ : w'.cell? ⟨Q, 0, none⟩ = some (.int .i64 6) ∧ w'.cell? ⟨Q, 1, none⟩ = some (.int .i64 x.op) ∧ w'.cell? ⟨Q, 2, none⟩ = some (.int .i64 x.d) ∧ w'.cell? ⟨Q, 3, none⟩ = some (.int .i64 x.a) ∧ w'.cell? ⟨Q, 4, none⟩ = some (.int .i64 x.b) ∧ w'.cell? ⟨Q, 5, none⟩ = some (.int .i64 x.imm)))
  obtain ⟨LU, hLU⟩ : ∃ LU, LU = insW ⟨23, 25, 0, 0, T / 65536⟩ := ⟨_, rfl⟩
  obtain ⟨OR, hOR⟩ : ∃ OR, OR = insW ⟨17, 25, 25, 0, T % 65536⟩ := ⟨_, rfl⟩
  rw [← hLU, ← hOR]
  have HL := Lib.hid (And.intro hLU hOR)
  clear hb hb13 hLU hOR HB1 HB2 HB12 HN
  clear c1 c2 c3 c4 c5 c6
  go_wp2_with fail
  go_ret
  exact ⟨_, rfl, World.ownsRow_lit (base := w.heap.size) (e := 38) (size := 1) w3 _ 1 HB3.out.size (by decide) rfl, HB3.out.alloc HB3.out.size _⟩
set_option maxRecDepth 100000 in
set_option maxHeartbeats 8000000 in
theorem rWords_k7 {x : It} (w : World) (fv : Int) (a T : Int) (hk : x.kind = 7) (hT : 0 ≤ T ∧ T ≤ 67108864) (ha : 0 ≤ a ∧ a ≤ 67108864) (hw : 0 ≤ x.word ∧ x.word < 4294967296) :
    Calls Tryd.prog 31 #[iv x, .int .i64 fv, .int .i64 a, .int .i64 T] w fun e w' => ∃ sv, e = .returned sv ∧ w'.ownsRow w.heap.size 38 1 sv ([(4 * T + x.word) % 4294967296]).length (byW ([(4 * T + x.word) % 4294967296])) ∧ Below w.heap.size w w' := by
  rw [show iv x = .agg #[.int .i64 x.kind, .int .i64 x.op, .int .i64 x.d, .int .i64 x.a, .int .i64 x.b, .int .i64 x.imm, .string x.lab, .int .u32 x.word] from rfl, hk]
  go_enter Tryd.func31, Tryd.ntmps31
  have hal := (Below.refl w.heap.size w).alloc (Nat.le_refl _) (.cells #[.int .i64 7, .int .i64 x.op, .int .i64 x.d, .int .i64 x.a, .int .i64 x.b, .int .i64 x.imm, .string x.lab, .int .u32 x.word] 40)
  have hN := cells8 (heap_new w (.cells #[.int .i64 7, .int .i64 x.op, .int .i64 x.d, .int .i64 x.a, .int .i64 x.b, .int .i64 x.imm, .string x.lab, .int .u32 x.word] 40))
  obtain ⟨w1, hw1⟩ : ∃ w1, w1 = w.alloc (.cells #[.int .i64 7, .int .i64 x.op, .int .i64 x.d, .int .i64 x.a, .int .i64 x.b, .int .i64 x.imm, .string x.lab, .int .u32 x.word] 40) := ⟨_, rfl⟩
  obtain ⟨Q, hQ⟩ : ∃ Q, Q = w.heap.size := ⟨_, rfl⟩
  rw [← hw1, ← hQ] at hN
  rw [← hw1] at hal
  go_upto_region 1 with fail
  rw [← hw1, ← hQ]
  have HQ := Lib.hid hQ
  clear hw1 hQ hk
  have HB1 := Lib.hid hal
  have HN := Lib.hid hN
  clear hal hN
  go_wp2_with fail
  refine (rword_any 23 25 0 0 (T / 65536) _).mono ?_
  rintro e w2 ⟨rfl, hb⟩
  have HB2 := Lib.hid (HB1.out.trans (hb.mono HB1.out.size))
  have HB12 := Lib.hid hb
  clear hb
  go_wp2_with fail
  refine (rword_any 17 25 25 0 (T % 65536) _).mono ?_
  rintro e w3 ⟨rfl, hb⟩
  have HB3 := Lib.hid (HB2.out.trans (hb.mono HB2.out.size))
  have hb13 := HB12.out.trans (hb.mono HB12.out.size)
  obtain ⟨c0, c1, c2, c3, c4, c5, c6, c7⟩ := HN.out
  replace c0 := (hb13.cell (p := ⟨Q, 0, none⟩) (World.block_lt_of_cell? w1 _ c0)).trans c0
  replace c1 := (hb13.cell (p := ⟨Q, 1, none⟩) (World.block_lt_of_cell? w1 _ c1)).trans c1
  replace c2 := (hb13.cell (p := ⟨Q, 2, none⟩) (World.block_lt_of_cell? w1 _ c2)).trans c2
  replace c3 := (hb13.cell (p := ⟨Q, 3, none⟩) (World.block_lt_of_cell? w1 _ c3)).trans c3
  replace c4 := (hb13.cell (p := ⟨Q, 4, none⟩) (World.block_lt_of_cell? w1 _ c4)).trans c4
  replace c5 := (hb13.cell (p := ⟨Q, 5, none⟩) (World.block_lt_of_cell? w1 _ c5)).trans c5
  replace c6 := (hb13.cell (p := ⟨Q, 6, none⟩) (World.block_lt_of_cell? w1 _ c6)).trans c6
  replace c7 := (hb13.cell (p := ⟨Q, 7, none⟩) (World.block_lt_of_cell? w1 _ c7)).trans c7
  have HC := Lib.hid (fun w' (hb : Below w3.heap.size w3 w') => (⟨(hb.cell (p := ⟨Q, 0, none⟩) (World.block_lt_of_cell? w3 _ c0)).trans c0, (hb.cell (p := ⟨Q, 1, none⟩) (World.block_lt_of_cell? w3 _ c1)).trans c1, (hb.cell (p := ⟨Q, 2, none⟩) (World.block_lt_of_cell? w3 _ c2)).trans c2, (hb.cell (p := ⟨Q, 3, none⟩) (World.block_lt_of_cell? w3 _ c3)).trans c3, (hb.cell (p := ⟨Q, 4, none⟩) (World.block_lt_of_cell? w3 _ c4)).trans c4, (hb.cell (p := ⟨Q, 5, none⟩) (World.block_lt_of_cell? w3 _ c5)).trans c5⟩ : w'.cell? ⟨Q, 0, none⟩ = some (.int .i64 7) ∧ w'.cell? ⟨Q, 1, none⟩ = some (.int .i64 x.op) ∧ w'.cell? ⟨Q, 2, none⟩ = some (.int .i64 x.d) ∧ w'.cell? ⟨Q, 3, none⟩ = some (.int .i64 x.a) ∧ w'.cell? ⟨Q, 4, none⟩ = some (.int .i64 x.b) ∧ w'.cell? ⟨Q, 5, none⟩ = some (.int .i64 x.imm)))
  obtain ⟨LU, hLU⟩ : ∃ LU, LU = insW ⟨23, 25, 0, 0, T / 65536⟩ := ⟨_, rfl⟩
  obtain ⟨OR, hOR⟩ : ∃ OR, OR = insW ⟨17, 25, 25, 0, T % 65536⟩ := ⟨_, rfl⟩
  rw [← hLU, ← hOR]
  have HL := Lib.hid (And.intro hLU hOR)
  clear hb hb13 hLU hOR HB1 HB2 HB12 HN
  clear c1 c2 c3 c4 c5 c6
  go_wp2_with fail
  go_ret
  exact ⟨_, rfl, World.ownsRow_lit (base := w.heap.size) (e := 38) (size := 1) w3 _ 1 HB3.out.size (by decide) rfl, HB3.out.alloc HB3.out.size _⟩
set_option maxRecDepth 100000 in
set_option maxHeartbeats 8000000 in
theorem rWords_k5 {x : It} (w : World) (fv : Int) (a T : Int) (hk : x.kind = 5) (hT : 0 ≤ T ∧ T ≤ 67108864) (ha : 0 ≤ a ∧ a ≤ 67108864) (hw : 0 ≤ x.word ∧ x.word < 4294967296) :
    Calls Tryd.prog 31 #[iv x, .int .i64 fv, .int .i64 a, .int .i64 T] w fun e w' => ∃ sv, e = .returned sv ∧ w'.ownsRow w.heap.size 38 1 sv ([insW ⟨23, x.d, 0, 0, (T + x.word) % 4294967296 / 65536⟩, insW ⟨17, x.d, x.d, 0, (T + x.word) % 4294967296 % 65536⟩]).length (byW ([insW ⟨23, x.d, 0, 0, (T + x.word) % 4294967296 / 65536⟩, insW ⟨17, x.d, x.d, 0, (T + x.word) % 4294967296 % 65536⟩])) ∧ Below w.heap.size w w' := by
  rw [show iv x = .agg #[.int .i64 x.kind, .int .i64 x.op, .int .i64 x.d, .int .i64 x.a, .int .i64 x.b, .int .i64 x.imm, .string x.lab, .int .u32 x.word] from rfl, hk]
  go_enter Tryd.func31, Tryd.ntmps31
  have hal := (Below.refl w.heap.size w).alloc (Nat.le_refl _) (.cells #[.int .i64 5, .int .i64 x.op, .int .i64 x.d, .int .i64 x.a, .int .i64 x.b, .int .i64 x.imm, .string x.lab, .int .u32 x.word] 40)
  have hN := cells8 (heap_new w (.cells #[.int .i64 5, .int .i64 x.op, .int .i64 x.d, .int .i64 x.a, .int .i64 x.b, .int .i64 x.imm, .string x.lab, .int .u32 x.word] 40))
  obtain ⟨w1, hw1⟩ : ∃ w1, w1 = w.alloc (.cells #[.int .i64 5, .int .i64 x.op, .int .i64 x.d, .int .i64 x.a, .int .i64 x.b, .int .i64 x.imm, .string x.lab, .int .u32 x.word] 40) := ⟨_, rfl⟩
  obtain ⟨Q, hQ⟩ : ∃ Q, Q = w.heap.size := ⟨_, rfl⟩
  rw [← hw1, ← hQ] at hN
  rw [← hw1] at hal
  go_upto_region 1 with fail
  rw [← hw1, ← hQ]
  have HQ := Lib.hid hQ
  clear hw1 hQ hk
  have HB1 := Lib.hid hal
  have HN := Lib.hid hN
  clear hal hN
  go_wp2_with fail
  refine (rword_any 23 25 0 0 (T / 65536) _).mono ?_
  rintro e w2 ⟨rfl, hb⟩
  have HB2 := Lib.hid (HB1.out.trans (hb.mono HB1.out.size))
  have HB12 := Lib.hid hb
  clear hb
  go_wp2_with fail
  refine (rword_any 17 25 25 0 (T % 65536) _).mono ?_
  rintro e w3 ⟨rfl, hb⟩
  have HB3 := Lib.hid (HB2.out.trans (hb.mono HB2.out.size))
  have hb13 := HB12.out.trans (hb.mono HB12.out.size)
  obtain ⟨c0, c1, c2, c3, c4, c5, c6, c7⟩ := HN.out
  replace c0 := (hb13.cell (p := ⟨Q, 0, none⟩) (World.block_lt_of_cell? w1 _ c0)).trans c0
  replace c1 := (hb13.cell (p := ⟨Q, 1, none⟩) (World.block_lt_of_cell? w1 _ c1)).trans c1
  replace c2 := (hb13.cell (p := ⟨Q, 2, none⟩) (World.block_lt_of_cell? w1 _ c2)).trans c2
  replace c3 := (hb13.cell (p := ⟨Q, 3, none⟩) (World.block_lt_of_cell? w1 _ c3)).trans c3
  replace c4 := (hb13.cell (p := ⟨Q, 4, none⟩) (World.block_lt_of_cell? w1 _ c4)).trans c4
  replace c5 := (hb13.cell (p := ⟨Q, 5, none⟩) (World.block_lt_of_cell? w1 _ c5)).trans c5
  replace c6 := (hb13.cell (p := ⟨Q, 6, none⟩) (World.block_lt_of_cell? w1 _ c6)).trans c6
  replace c7 := (hb13.cell (p := ⟨Q, 7, none⟩) (World.block_lt_of_cell? w1 _ c7)).trans c7
  have HC := Lib.hid (fun w' (hb : Below w3.heap.size w3 w') => (⟨(hb.cell (p := ⟨Q, 0, none⟩) (World.block_lt_of_cell? w3 _ c0)).trans c0, (hb.cell (p := ⟨Q, 1, none⟩) (World.block_lt_of_cell? w3 _ c1)).trans c1, (hb.cell (p := ⟨Q, 2, none⟩) (World.block_lt_of_cell? w3 _ c2)).trans c2, (hb.cell (p := ⟨Q, 3, none⟩) (World.block_lt_of_cell? w3 _ c3)).trans c3, (hb.cell (p := ⟨Q, 4, none⟩) (World.block_lt_of_cell? w3 _ c4)).trans c4, (hb.cell (p := ⟨Q, 5, none⟩) (World.block_lt_of_cell? w3 _ c5)).trans c5⟩ : w'.cell? ⟨Q, 0, none⟩ = some (.int .i64 5) ∧ w'.cell? ⟨Q, 1, none⟩ = some (.int .i64 x.op) ∧ w'.cell? ⟨Q, 2, none⟩ = some (.int .i64 x.d) ∧ w'.cell? ⟨Q, 3, none⟩ = some (.int .i64 x.a) ∧ w'.cell? ⟨Q, 4, none⟩ = some (.int .i64 x.b) ∧ w'.cell? ⟨Q, 5, none⟩ = some (.int .i64 x.imm)))
  obtain ⟨LU, hLU⟩ : ∃ LU, LU = insW ⟨23, 25, 0, 0, T / 65536⟩ := ⟨_, rfl⟩
  obtain ⟨OR, hOR⟩ : ∃ OR, OR = insW ⟨17, 25, 25, 0, T % 65536⟩ := ⟨_, rfl⟩
  rw [← hLU, ← hOR]
  have HL := Lib.hid (And.intro hLU hOR)
  clear hb hb13 hLU hOR HB1 HB2 HB12 HN
  clear c6
  go_upto_region 17 with fail
  obtain ⟨S, hS⟩ : ∃ S, S = (T + x.word) % 4294967296 := ⟨_, rfl⟩
  rw [← hS]
  have hs : 0 ≤ S ∧ S < 4294967296 := by omega
  have e1 : S.tdiv 65536 = S / 65536 := Int.tdiv_eq_ediv_of_nonneg hs.1
  have e2 : S.tmod 65536 = S % 65536 := Int.tmod_eq_emod_of_nonneg hs.1
  have e3 : IntKind.i64.wrap (S / 65536) = S / 65536 := by simp [IntKind.wrap, IntKind.bits, IntKind.signed]; split <;> omega
  have e4 : IntKind.i64.wrap (S % 65536) = S % 65536 := by simp [IntKind.wrap, IntKind.bits, IntKind.signed]; split <;> omega
  have HS := Lib.hid hS
  clear hS hs
  first
    | (go_region_held (fun w' => w'.cell? ⟨Q, 1, none⟩ = some (.int .i64 x.op) ∧ w'.cell? ⟨Q, 2, none⟩ = some (.int .i64 x.d) ∧ w'.cell? ⟨Q, 3, none⟩ = some (.int .i64 x.a) ∧ w'.cell? ⟨Q, 4, none⟩ = some (.int .i64 x.b)) (go_keep) (first
      | (go_at_call 42; refine (rturned_any _ _).mono ?_; rintro e w8 ⟨rfl, rfl⟩)
      | (go_at_call 41; refine (rword_any _ _ _ _ _ _).mono ?_; rintro e w9 ⟨rfl, hb9⟩; have hacc := hacc.trans (hb9.mono hacc.size); obtain ⟨z0, z1, z2, z3, z4, z5⟩ := HC.out w9 hacc)
      | (go_at_call 41; refine (rword_any _ _ _ _ _ _).mono ?_; rintro e w9 ⟨rfl, hb9⟩; have hacc := (Below.refl w3.heap.size w3).drew.trans hb9; obtain ⟨z0, z1, z2, z3, z4, z5⟩ := HC.out w9 hacc)))
    | fail
  all_goals
    obtain ⟨rfl, rfl⟩ := HL.out
    have hS9 := HS.out
    subst hS9
    clear e1 e2 e3 e4 z0 z1 z2 z3 z4 z5 c0 c1 c2 c3 c4 c5 c7
    have HBz := Lib.hid (HB3.out.trans (hacc.mono HB3.out.size))
    clear hacc hb9
    go_wp2_with fail
    go_ret
    exact ⟨_, rfl, World.ownsRow_lit (base := w.heap.size) (e := 38) (size := 1) _ _ 2 HBz.out.size (by decide) rfl, HBz.out.alloc HBz.out.size _⟩
set_option maxRecDepth 100000 in
set_option maxHeartbeats 8000000 in
theorem rWords_k8 {x : It} (w : World) (fv : Int) (a T : Int) (hk : x.kind = 8) (hT : 0 ≤ T ∧ T ≤ 67108864) (ha : 0 ≤ a ∧ a ≤ 67108864) (hw : 0 ≤ x.word ∧ x.word < 4294967296) :
    Calls Tryd.prog 31 #[iv x, .int .i64 fv, .int .i64 a, .int .i64 T] w fun e w' => ∃ sv, e = .returned sv ∧ w'.ownsRow w.heap.size 38 1 sv (List.replicate x.word.toNat (0 : Int)).length (byW (List.replicate x.word.toNat (0 : Int))) ∧ Below w.heap.size w w' := by
  rw [show iv x = .agg #[.int .i64 x.kind, .int .i64 x.op, .int .i64 x.d, .int .i64 x.a, .int .i64 x.b, .int .i64 x.imm, .string x.lab, .int .u32 x.word] from rfl, hk]
  go_enter Tryd.func31, Tryd.ntmps31
  have hal := (Below.refl w.heap.size w).alloc (Nat.le_refl _) (.cells #[.int .i64 8, .int .i64 x.op, .int .i64 x.d, .int .i64 x.a, .int .i64 x.b, .int .i64 x.imm, .string x.lab, .int .u32 x.word] 40)
  have hN := cells8 (heap_new w (.cells #[.int .i64 8, .int .i64 x.op, .int .i64 x.d, .int .i64 x.a, .int .i64 x.b, .int .i64 x.imm, .string x.lab, .int .u32 x.word] 40))
  obtain ⟨w1, hw1⟩ : ∃ w1, w1 = w.alloc (.cells #[.int .i64 8, .int .i64 x.op, .int .i64 x.d, .int .i64 x.a, .int .i64 x.b, .int .i64 x.imm, .string x.lab, .int .u32 x.word] 40) := ⟨_, rfl⟩
  obtain ⟨Q, hQ⟩ : ∃ Q, Q = w.heap.size := ⟨_, rfl⟩
  rw [← hw1, ← hQ] at hN
  rw [← hw1] at hal
  go_upto_region 1 with fail
  rw [← hw1, ← hQ]
  have HQ := Lib.hid hQ
  clear hw1 hQ hk
  have HB1 := Lib.hid hal
  have HN := Lib.hid hN
  clear hal hN
  go_wp2_with fail
  refine (rword_any 23 25 0 0 (T / 65536) _).mono ?_
  rintro e w2 ⟨rfl, hb⟩
  have HB2 := Lib.hid (HB1.out.trans (hb.mono HB1.out.size))
  have HB12 := Lib.hid hb
  clear hb
  go_wp2_with fail
  refine (rword_any 17 25 25 0 (T % 65536) _).mono ?_
  rintro e w3 ⟨rfl, hb⟩
  have HB3 := Lib.hid (HB2.out.trans (hb.mono HB2.out.size))
  have hb13 := HB12.out.trans (hb.mono HB12.out.size)
  obtain ⟨c0, c1, c2, c3, c4, c5, c6, c7⟩ := HN.out
  replace c0 := (hb13.cell (p := ⟨Q, 0, none⟩) (World.block_lt_of_cell? w1 _ c0)).trans c0
  replace c1 := (hb13.cell (p := ⟨Q, 1, none⟩) (World.block_lt_of_cell? w1 _ c1)).trans c1
  replace c2 := (hb13.cell (p := ⟨Q, 2, none⟩) (World.block_lt_of_cell? w1 _ c2)).trans c2
  replace c3 := (hb13.cell (p := ⟨Q, 3, none⟩) (World.block_lt_of_cell? w1 _ c3)).trans c3
  replace c4 := (hb13.cell (p := ⟨Q, 4, none⟩) (World.block_lt_of_cell? w1 _ c4)).trans c4
  replace c5 := (hb13.cell (p := ⟨Q, 5, none⟩) (World.block_lt_of_cell? w1 _ c5)).trans c5
  replace c6 := (hb13.cell (p := ⟨Q, 6, none⟩) (World.block_lt_of_cell? w1 _ c6)).trans c6
  replace c7 := (hb13.cell (p := ⟨Q, 7, none⟩) (World.block_lt_of_cell? w1 _ c7)).trans c7
  have HC := Lib.hid (fun w' (hb : Below w3.heap.size w3 w') => (⟨(hb.cell (p := ⟨Q, 0, none⟩) (World.block_lt_of_cell? w3 _ c0)).trans c0, (hb.cell (p := ⟨Q, 1, none⟩) (World.block_lt_of_cell? w3 _ c1)).trans c1, (hb.cell (p := ⟨Q, 2, none⟩) (World.block_lt_of_cell? w3 _ c2)).trans c2, (hb.cell (p := ⟨Q, 3, none⟩) (World.block_lt_of_cell? w3 _ c3)).trans c3, (hb.cell (p := ⟨Q, 4, none⟩) (World.block_lt_of_cell? w3 _ c4)).trans c4, (hb.cell (p := ⟨Q, 5, none⟩) (World.block_lt_of_cell? w3 _ c5)).trans c5⟩ : w'.cell? ⟨Q, 0, none⟩ = some (.int .i64 8) ∧ w'.cell? ⟨Q, 1, none⟩ = some (.int .i64 x.op) ∧ w'.cell? ⟨Q, 2, none⟩ = some (.int .i64 x.d) ∧ w'.cell? ⟨Q, 3, none⟩ = some (.int .i64 x.a) ∧ w'.cell? ⟨Q, 4, none⟩ = some (.int .i64 x.b) ∧ w'.cell? ⟨Q, 5, none⟩ = some (.int .i64 x.imm)))
  obtain ⟨LU, hLU⟩ : ∃ LU, LU = insW ⟨23, 25, 0, 0, T / 65536⟩ := ⟨_, rfl⟩
  obtain ⟨OR, hOR⟩ : ∃ OR, OR = insW ⟨17, 25, 25, 0, T % 65536⟩ := ⟨_, rfl⟩
  rw [← hLU, ← hOR]
  have HL := Lib.hid (And.intro hLU hOR)
  clear hb hb13 hLU hOR HB1 HB2 HB12 HN
  clear c1 c2 c3 c4 c5 c6
  obtain ⟨cs, hcs, hmk⟩ := mk_zeros x.word.toNat (by omega) w3
  rw [show ((x.word.toNat : Nat) : Int) = x.word by omega] at hmk
  have HCS := Lib.hid hcs
  clear hcs
  go_wp2_with fail
  go_ret
  exact ⟨_, rfl, own_zeros HCS.out HB3.out.size (by omega), HB3.out.alloc HB3.out.size _⟩
set_option maxRecDepth 100000 in
set_option maxHeartbeats 8000000 in
theorem rWords_k2 {x : It} (w : World) (fv : Int) (a T : Int) (hk : x.kind = 2) (hT : 0 ≤ T ∧ T ≤ 67108864) (ha : 0 ≤ a ∧ a ≤ 67108864) :
    Calls Tryd.prog 31 #[iv x, .int .i64 fv, .int .i64 a, .int .i64 T] w fun e w' => ∃ sv, e = .returned sv ∧ w'.ownsRow w.heap.size 38 1 sv (([] : List Int)).length (byW (([] : List Int))) ∧ Below w.heap.size w w' := by
  rw [show iv x = .agg #[.int .i64 x.kind, .int .i64 x.op, .int .i64 x.d, .int .i64 x.a, .int .i64 x.b, .int .i64 x.imm, .string x.lab, .int .u32 x.word] from rfl, hk]
  go_enter Tryd.func31, Tryd.ntmps31
  have hal := (Below.refl w.heap.size w).alloc (Nat.le_refl _) (.cells #[.int .i64 2, .int .i64 x.op, .int .i64 x.d, .int .i64 x.a, .int .i64 x.b, .int .i64 x.imm, .string x.lab, .int .u32 x.word] 40)
  have hN := cells8 (heap_new w (.cells #[.int .i64 2, .int .i64 x.op, .int .i64 x.d, .int .i64 x.a, .int .i64 x.b, .int .i64 x.imm, .string x.lab, .int .u32 x.word] 40))
  obtain ⟨w1, hw1⟩ : ∃ w1, w1 = w.alloc (.cells #[.int .i64 2, .int .i64 x.op, .int .i64 x.d, .int .i64 x.a, .int .i64 x.b, .int .i64 x.imm, .string x.lab, .int .u32 x.word] 40) := ⟨_, rfl⟩
  obtain ⟨Q, hQ⟩ : ∃ Q, Q = w.heap.size := ⟨_, rfl⟩
  rw [← hw1, ← hQ] at hN
  rw [← hw1] at hal
  go_upto_region 1 with fail
  rw [← hw1, ← hQ]
  have HQ := Lib.hid hQ
  clear hw1 hQ hk
  have HB1 := Lib.hid hal
  have HN := Lib.hid hN
  clear hal hN
  go_wp2_with fail
  refine (rword_any 23 25 0 0 (T / 65536) _).mono ?_
  rintro e w2 ⟨rfl, hb⟩
  have HB2 := Lib.hid (HB1.out.trans (hb.mono HB1.out.size))
  have HB12 := Lib.hid hb
  clear hb
  go_wp2_with fail
  refine (rword_any 17 25 25 0 (T % 65536) _).mono ?_
  rintro e w3 ⟨rfl, hb⟩
  have HB3 := Lib.hid (HB2.out.trans (hb.mono HB2.out.size))
  have hb13 := HB12.out.trans (hb.mono HB12.out.size)
  obtain ⟨c0, c1, c2, c3, c4, c5, c6, c7⟩ := HN.out
  replace c0 := (hb13.cell (p := ⟨Q, 0, none⟩) (World.block_lt_of_cell? w1 _ c0)).trans c0
  replace c1 := (hb13.cell (p := ⟨Q, 1, none⟩) (World.block_lt_of_cell? w1 _ c1)).trans c1
  replace c2 := (hb13.cell (p := ⟨Q, 2, none⟩) (World.block_lt_of_cell? w1 _ c2)).trans c2
  replace c3 := (hb13.cell (p := ⟨Q, 3, none⟩) (World.block_lt_of_cell? w1 _ c3)).trans c3
  replace c4 := (hb13.cell (p := ⟨Q, 4, none⟩) (World.block_lt_of_cell? w1 _ c4)).trans c4
  replace c5 := (hb13.cell (p := ⟨Q, 5, none⟩) (World.block_lt_of_cell? w1 _ c5)).trans c5
  replace c6 := (hb13.cell (p := ⟨Q, 6, none⟩) (World.block_lt_of_cell? w1 _ c6)).trans c6
  replace c7 := (hb13.cell (p := ⟨Q, 7, none⟩) (World.block_lt_of_cell? w1 _ c7)).trans c7
  have HC := Lib.hid (fun w' (hb : Below w3.heap.size w3 w') => (⟨(hb.cell (p := ⟨Q, 0, none⟩) (World.block_lt_of_cell? w3 _ c0)).trans c0, (hb.cell (p := ⟨Q, 1, none⟩) (World.block_lt_of_cell? w3 _ c1)).trans c1, (hb.cell (p := ⟨Q, 2, none⟩) (World.block_lt_of_cell? w3 _ c2)).trans c2, (hb.cell (p := ⟨Q, 3, none⟩) (World.block_lt_of_cell? w3 _ c3)).trans c3, (hb.cell (p := ⟨Q, 4, none⟩) (World.block_lt_of_cell? w3 _ c4)).trans c4, (hb.cell (p := ⟨Q, 5, none⟩) (World.block_lt_of_cell? w3 _ c5)).trans c5⟩ : w'.cell? ⟨Q, 0, none⟩ = some (.int .i64 2) ∧ w'.cell? ⟨Q, 1, none⟩ = some (.int .i64 x.op) ∧ w'.cell? ⟨Q, 2, none⟩ = some (.int .i64 x.d) ∧ w'.cell? ⟨Q, 3, none⟩ = some (.int .i64 x.a) ∧ w'.cell? ⟨Q, 4, none⟩ = some (.int .i64 x.b) ∧ w'.cell? ⟨Q, 5, none⟩ = some (.int .i64 x.imm)))
  obtain ⟨LU, hLU⟩ : ∃ LU, LU = insW ⟨23, 25, 0, 0, T / 65536⟩ := ⟨_, rfl⟩
  obtain ⟨OR, hOR⟩ : ∃ OR, OR = insW ⟨17, 25, 25, 0, T % 65536⟩ := ⟨_, rfl⟩
  rw [← hLU, ← hOR]
  have HL := Lib.hid (And.intro hLU hOR)
  clear hb hb13 hLU hOR HB1 HB2 HB12 HN
  clear c1 c2 c3 c4 c5 c6
  go_wp2_with fail
  go_ret
  exact ⟨_, rfl, World.ownsRow_nil _ _ _ _, HB3.out⟩
end Go.Proofs.YtbplmbignalbgaaDoor
