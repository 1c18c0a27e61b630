/- The walk of MachKnown: the chapter's examples; machines that are none. Conditions: the forms' table is as laid. -/
import Derived.Test.YtknnmacmohpanaaDoorMaU
import Derived.Test.YtknnmacmohpanaaDoorMaS
namespace Go.Proofs.YtknnmacmohpanaaDoor
open Go.RowKit

theorem kok0 : Isa.ok 15 4 0 0 65 = true := by decide
theorem kw0 : Isa.word 15 4 0 0 65 = 1015021633 := by decide
theorem kok1 : Isa.ok 35 0 4 0 0 = true := by decide
theorem kw1 : Isa.word 35 0 4 0 0 = 2357198848 := by decide
theorem kok2 : Isa.ok 36 0 0 0 0 = true := by decide
theorem kw2 : Isa.word 36 0 0 0 0 = 2415919104 := by decide
theorem kok3 : Isa.ok 5 4 0 0 0 = true := by decide
theorem kw3 : Isa.word 5 4 0 0 0 = 343932928 := by decide
theorem kok4 : Isa.ok 24 4 0 0 100 = true := by decide
theorem kw4 : Isa.word 24 4 0 0 100 = 1619001444 := by decide
theorem kok5 : Isa.ok 34 4 0 0 0 = true := by decide
theorem kw5 : Isa.word 34 4 0 0 0 = 2290089984 := by decide
theorem kok6 : Isa.ok 36 0 4 0 0 = true := by decide
theorem kw6 : Isa.word 36 0 4 0 0 = 2424307712 := by decide
theorem kr_m : (MS.run 10 (MS.new [1015021633, 2357198848, 2415919104] 10 [])).state = 1 ∧ (MS.run 10 (MS.new [1015021633, 2357198848, 2415919104] 10 [])).code = 0 ∧ (MS.run 10 (MS.new [1015021633, 2357198848, 2415919104] 10 [])).out = [65] ∧ (MS.run 10 (MS.new [1015021633, 2357198848, 2415919104] 10 [])).steps = 3 ∧ (MS.run 10 (MS.new [1015021633, 2357198848, 2415919104] 10 [])).out.length ≤ 100 ∧ (MS.run 10 (MS.new [1015021633, 2357198848, 2415919104] 10 [])).steps ≤ 100 := by decide +kernel
theorem kr_d : (MS.run 10 (MS.new [343932928] 10 [])).state = 2 ∧ (MS.run 10 (MS.new [343932928] 10 [])).trap = 4 ∧ (MS.run 10 (MS.new [343932928] 10 [])).steps = 0 ∧ (MS.run 10 (MS.new [343932928] 10 [])).out.length ≤ 100 ∧ (MS.run 10 (MS.new [343932928] 10 [])).steps ≤ 100 := by decide +kernel
theorem kr_l : (MS.run 1 (MS.new [1619001444] 100 [])).state = 2 ∧ (MS.run 1 (MS.new [1619001444] 100 [])).trap = 2 ∧ (MS.run 1 (MS.new [1619001444] 100 [])).out.length ≤ 100 ∧ (MS.run 1 (MS.new [1619001444] 100 [])).steps ≤ 100 := by decide +kernel
theorem kr_z : (MS.run 1 (MS.new [0] 1 [])).state = 2 ∧ (MS.run 1 (MS.new [0] 1 [])).trap = 1 ∧ (MS.run 1 (MS.new [0] 1 [])).out.length ≤ 100 ∧ (MS.run 1 (MS.new [0] 1 [])).steps ≤ 100 := by decide +kernel
theorem kr_i : (MS.run 10 (MS.new [2290089984, 2424307712] 2 [])).state = 1 ∧ (MS.run 10 (MS.new [2290089984, 2424307712] 2 [])).code = 4294967295 ∧ (MS.run 10 (MS.new [2290089984, 2424307712] 2 [])).out.length ≤ 100 ∧ (MS.run 10 (MS.new [2290089984, 2424307712] 2 [])).steps ≤ 100 := by decide +kernel
theorem kr_k : (MS.run 10 (MS.new [2290089984, 2424307712] 2 [7])).state = 1 ∧ (MS.run 10 (MS.new [2290089984, 2424307712] 2 [7])).code = 7 ∧ (MS.run 10 (MS.new [2290089984, 2424307712] 2 [7])).out.length ≤ 100 ∧ (MS.run 10 (MS.new [2290089984, 2424307712] 2 [7])).steps ≤ 100 := by decide +kernel

theorem mk3 (w : World) : (Instr.makeSlice 22 (.int .i64 3) (.int .i64 3)).run Tryd.prog w = .ok (.slice (some ⟨w.heap.size, 0, none⟩) 3 3) (w.alloc (.cells #[.int .u32 0, .int .u32 0, .int .u32 0] 38)) := by kernel_rfl
theorem wlit2 (w : World) (ws bs : List Int) (hne : ws ≠ []) (h : ws.length ≤ 1000) : WRead ((w.alloc (.cells (byW ws).toArray 38)).alloc (.cells (byL bs).toArray 5)) (.slice (some ⟨w.heap.size, 0, none⟩) ws.length ws.length) ws :=
  (wlit w ws hne h).below ((Below.refl _ _).alloc (Nat.le_refl _) _)
theorem blit2 (w : World) (ws bs : List Int) : BRead ((w.alloc (.cells (byW ws).toArray 38)).alloc (.cells (byL bs).toArray 5)) (.slice (some ⟨w.heap.size + 1, 0, none⟩) bs.length bs.length) bs := by
  have h := blit (w.alloc (.cells (byW ws).toArray 38)) bs
  rw [World.size_alloc] at h
  exact h
set_option maxRecDepth 100000 in
set_option maxHeartbeats 1600000 in
theorem known_any (w : World) (h : Env w) : Calls Tryd.prog 7 #[] w fun e w' => e = .returned (.bool true) ∧ Below w.heap.size w w' := by
  have S := Lib.hid (Sit.start h)
  have hmk := mk3
  clear h
  go_enter Tryd.func7, Tryd.ntmps7
  go_wp2_with fail
  refine (S.out.word kok0 kw0).mono ?_
  rintro e w1 ⟨rfl, s⟩
  replace S := Lib.hid s
  clear s
  go_wp2_with fail
  refine (S.out.word kok1 kw1).mono ?_
  rintro e w2 ⟨rfl, s⟩
  replace S := Lib.hid s
  clear s
  go_wp2_with fail
  refine (S.out.word kok2 kw2).mono ?_
  rintro e w3 ⟨rfl, s⟩
  replace S := Lib.hid s
  clear s
  go_wp2_with fail
  refine ((S.out.alloc _).new 10 10 rfl (wlit _ [1015021633, 2357198848, 2415919104] (by decide) (by decide)) (bnil _) (by decide) (by decide) (by decide) (by decide) (by decide) (by decide)).mono ?_
  rintro e w4 ⟨l_m, rfl, -, s⟩
  replace S := Lib.hid s
  clear s
  go_wp2_with fail
  refine (S.out.word kok3 kw3).mono ?_
  rintro e w5 ⟨rfl, s⟩
  replace S := Lib.hid s
  clear s
  go_wp2_with fail
  refine ((S.out.alloc _).new 10 10 rfl (wlit _ [343932928] (by decide) (by decide)) (bnil _) (by decide) (by decide) (by decide) (by decide) (by decide) (by decide)).mono ?_
  rintro e w6 ⟨l_d, rfl, -, s⟩
  replace S := Lib.hid s
  clear s
  go_wp2_with fail
  refine (S.out.word kok4 kw4).mono ?_
  rintro e w7 ⟨rfl, s⟩
  replace S := Lib.hid s
  clear s
  go_wp2_with fail
  refine ((S.out.alloc _).new 100 100 rfl (wlit _ [1619001444] (by decide) (by decide)) (bnil _) (by decide) (by decide) (by decide) (by decide) (by decide) (by decide)).mono ?_
  rintro e w8 ⟨l_l, rfl, -, s⟩
  replace S := Lib.hid s
  clear s
  go_wp2_with fail
  refine ((S.out.alloc _).new 1 1 rfl (wlit _ [0] (by decide) (by decide)) (bnil _) (by decide) (by decide) (by decide) (by decide) (by decide) (by decide)).mono ?_
  rintro e w9 ⟨l_z, rfl, -, s⟩
  replace S := Lib.hid s
  clear s
  go_wp2_with fail
  refine (S.out.word kok5 kw5).mono ?_
  rintro e w10 ⟨rfl, s⟩
  replace S := Lib.hid s
  clear s
  go_wp2_with fail
  refine (S.out.word kok6 kw6).mono ?_
  rintro e w11 ⟨rfl, s⟩
  replace S := Lib.hid s
  clear s
  go_wp2_with fail
  refine ((S.out.alloc _).new 2 2 rfl (wlit _ [2290089984, 2424307712] (by decide) (by decide)) (bnil _) (by decide) (by decide) (by decide) (by decide) (by decide) (by decide)).mono ?_
  rintro e w12 ⟨l_i, rfl, -, s⟩
  replace S := Lib.hid s
  clear s
  go_wp2_with fail
  refine (S.out.word kok5 kw5).mono ?_
  rintro e w13 ⟨rfl, s⟩
  replace S := Lib.hid s
  clear s
  go_wp2_with fail
  refine (S.out.word kok6 kw6).mono ?_
  rintro e w14 ⟨rfl, s⟩
  replace S := Lib.hid s
  clear s
  go_wp2_with fail
  have hW := wlit2 w14 [2290089984, 2424307712] [7] (by decide) (by decide)
  have hB := blit2 w14 [2290089984, 2424307712] [7]
  refine (((S.out.alloc _).alloc _).new 2 2 rfl hW hB (by decide) (by decide) (by decide) (by decide) (by decide) (by decide)).mono ?_
  clear hW hB
  rintro e w15 ⟨l_k, rfl, -, s⟩
  replace S := Lib.hid s
  clear s
  go_wp2_with fail
  refine ((S.out.alloc _).newBad _ 3 _ 2 _ (by decide)).mono ?_
  rintro e w16 ⟨rfl, s⟩
  replace S := Lib.hid s
  clear s
  go_wp2_with fail
  refine (S.out.newBad _ 0 _ 0 _ (by decide)).mono ?_
  rintro e w17 ⟨rfl, s⟩
  replace S := Lib.hid s
  clear s
  go_wp2_with fail
  replace S := Lib.hid (S.out.perm (List.reverse_perm _).symm)
  obtain ⟨m, hm⟩ : ∃ m, m = MS.run 10 (MS.new [1015021633, 2357198848, 2415919104] 10 []) := ⟨_, rfl⟩
  have MW := kr_m
  rw [← hm] at MW
  have KK := Lib.hid MW
  clear MW
  refine (Sit.run (S.out : Sit _ _ ((l_m, _) :: _)) rfl 10 hm.symm KK.out.1 (by decide) (by decide)).mono ?_
  rintro e w18 ⟨rfl, l2, hl, s⟩
  replace S := Lib.hid s
  clear s hm
  go_wp2_with fail
  have c0 := (S.out.val hl).1
  have cv := (S.out.val hl).2.2.2.1
  rw [KK.out.2.1] at cv
  refine (code_at _ _ _ c0 cv).mono ?_
  rintro e w' ⟨rfl, rfl⟩
  clear c0 cv
  go_wp2_with fail
  refine (S.out.out hl 1 (by rw [KK.out.2.2.1]; decide) KK.out.2.2.1 rfl).mono ?_
  rintro e w19 ⟨a, c, rfl, hc, s⟩
  have hcv : (convert 23 9 (.slice a 1 c)).run Tryd.prog w19 = .ok (.string ⟨#[65]⟩) w19 := hc _ (Below.refl _ _)
  replace S := Lib.hid s
  clear s hc
  go_wp2_with fail
  clear hcv
  have c0 := (S.out.val hl).1
  have cv := (S.out.val hl).2.2.2.2.2
  rw [KK.out.2.2.2.1] at cv
  refine (steps_at _ _ _ c0 cv).mono ?_
  rintro e w' ⟨rfl, rfl⟩
  clear c0 cv
  go_wp2_with fail
  replace S := Lib.hid S.out.tail
  clear KK hl
  obtain ⟨m, hm⟩ : ∃ m, m = MS.run 10 (MS.new [343932928] 10 []) := ⟨_, rfl⟩
  have MW := kr_d
  rw [← hm] at MW
  have KK := Lib.hid MW
  clear MW
  refine (Sit.run (S.out : Sit _ _ ((l_d, _) :: _)) rfl 10 hm.symm KK.out.1 (by decide) (by decide)).mono ?_
  rintro e w20 ⟨rfl, l2, hl, s⟩
  replace S := Lib.hid s
  clear s hm
  go_wp2_with fail
  have c0 := (S.out.val hl).1
  have cv := (S.out.val hl).2.2.2.2.1
  rw [KK.out.2.1] at cv
  refine (trap_at _ _ _ c0 cv).mono ?_
  rintro e w' ⟨rfl, rfl⟩
  clear c0 cv
  go_wp2_with fail
  have c0 := (S.out.val hl).1
  have cv := (S.out.val hl).2.2.2.2.2
  rw [KK.out.2.2.1] at cv
  refine (steps_at _ _ _ c0 cv).mono ?_
  rintro e w' ⟨rfl, rfl⟩
  clear c0 cv
  go_wp2_with fail
  replace S := Lib.hid S.out.tail
  clear KK hl
  obtain ⟨m, hm⟩ : ∃ m, m = MS.run 1 (MS.new [1619001444] 100 []) := ⟨_, rfl⟩
  have MW := kr_l
  rw [← hm] at MW
  have KK := Lib.hid MW
  clear MW
  refine (Sit.run (S.out : Sit _ _ ((l_l, _) :: _)) rfl 1 hm.symm KK.out.1 (by decide) (by decide)).mono ?_
  rintro e w21 ⟨rfl, l2, hl, s⟩
  replace S := Lib.hid s
  clear s hm
  go_wp2_with fail
  have c0 := (S.out.val hl).1
  have cv := (S.out.val hl).2.2.2.2.1
  rw [KK.out.2.1] at cv
  refine (trap_at _ _ _ c0 cv).mono ?_
  rintro e w' ⟨rfl, rfl⟩
  clear c0 cv
  go_wp2_with fail
  replace S := Lib.hid S.out.tail
  clear KK hl
  obtain ⟨m, hm⟩ : ∃ m, m = MS.run 1 (MS.new [0] 1 []) := ⟨_, rfl⟩
  have MW := kr_z
  rw [← hm] at MW
  have KK := Lib.hid MW
  clear MW
  refine (Sit.step (S.out : Sit _ _ ((l_z, _) :: _)) rfl hm.symm KK.out.1 (by decide) (by decide)).mono ?_
  rintro e w22 ⟨rfl, l2, hl, s⟩
  replace S := Lib.hid s
  clear s hm
  go_wp2_with fail
  have c0 := (S.out.val hl).1
  have cv := (S.out.val hl).2.2.2.2.1
  rw [KK.out.2.1] at cv
  refine (trap_at _ _ _ c0 cv).mono ?_
  rintro e w' ⟨rfl, rfl⟩
  clear c0 cv
  go_wp2_with fail
  replace S := Lib.hid S.out.tail
  clear KK hl
  obtain ⟨m, hm⟩ : ∃ m, m = MS.run 10 (MS.new [2290089984, 2424307712] 2 []) := ⟨_, rfl⟩
  have MW := kr_i
  rw [← hm] at MW
  have KK := Lib.hid MW
  clear MW
  refine (Sit.run (S.out : Sit _ _ ((l_i, _) :: _)) rfl 10 hm.symm KK.out.1 (by decide) (by decide)).mono ?_
  rintro e w23 ⟨rfl, l2, hl, s⟩
  replace S := Lib.hid s
  clear s hm
  go_wp2_with fail
  have c0 := (S.out.val hl).1
  have cv := (S.out.val hl).2.2.2.1
  rw [KK.out.2.1] at cv
  refine (code_at _ _ _ c0 cv).mono ?_
  rintro e w' ⟨rfl, rfl⟩
  clear c0 cv
  go_wp2_with fail
  replace S := Lib.hid S.out.tail
  clear KK hl
  obtain ⟨m, hm⟩ : ∃ m, m = MS.run 10 (MS.new [2290089984, 2424307712] 2 [7]) := ⟨_, rfl⟩
  have MW := kr_k
  rw [← hm] at MW
  have KK := Lib.hid MW
  clear MW
  refine (Sit.run (S.out : Sit _ _ ((l_k, _) :: _)) rfl 10 hm.symm KK.out.1 (by decide) (by decide)).mono ?_
  rintro e w24 ⟨rfl, l2, hl, s⟩
  replace S := Lib.hid s
  clear s hm
  go_wp2_with fail
  have c0 := (S.out.val hl).1
  have cv := (S.out.val hl).2.2.2.1
  rw [KK.out.2.1] at cv
  refine (code_at _ _ _ c0 cv).mono ?_
  rintro e w' ⟨rfl, rfl⟩
  clear c0 cv
  go_wp2_with fail
  have hrun : MS.run (-5 : Int).toNat m = m := rfl
  refine (S.out.run hl (-5) hrun KK.out.1 (by have := KK.out.2.2.2; omega) (by have := KK.out.2.2.1; omega)).mono ?_
  rintro e w25 ⟨rfl, l3, hl3, s⟩
  replace S := Lib.hid s
  clear s
  go_wp2_with fail
  replace S := Lib.hid S.out.tail
  clear KK hl
  generalize hwE : World.alloc w25 _ = wE
  have hcE : wE.cell? ⟨w25.heap.size, 0, none⟩ = some (.pointer none) := by rw [← hwE, cell_of_block (heap_new _ _)]; rfl
  replace S := Lib.hid (show Sit w wE _ from hwE ▸ S.out.alloc _)
  clear hwE
  refine (un_mem none 0 _ (un_nil _)).mono ?_
  rintro e w' ⟨rfl, rfl⟩
  go_wp2_with fail
  refine (un_step none  _ (un_nil _)).mono ?_
  rintro e w' ⟨rfl, rfl⟩
  go_wp2_with fail
  refine (un_run _ 3 _ (un_own _ _ hcE)).mono ?_
  rintro e w' ⟨rfl, rfl⟩
  go_wp2_with fail
  refine (un_reg none 1 _ (un_nil _)).mono ?_
  rintro e w' ⟨rfl, rfl⟩
  go_wp2_with fail
  refine (un_set _ 1 1 _ (un_own _ _ hcE)).mono ?_
  rintro e w' ⟨rfl, rfl⟩
  go_wp2_with fail
  refine (un_put none 0 0 _ (un_nil _)).mono ?_
  rintro e w' ⟨rfl, rfl⟩
  go_wp2_with fail
  refine (un_go _ 0 _ (un_own _ _ hcE)).mono ?_
  rintro e w' ⟨rfl, rfl⟩
  go_wp2_with fail
  refine (un_copy none  _ (un_nil _)).mono ?_
  rintro e w' ⟨rfl, rfl⟩
  go_wp2_with fail
  refine (un_out _  _ (un_own _ _ hcE)).mono ?_
  rintro e w' ⟨rfl, rfl⟩
  go_wp2_with fail
  refine (un_steps none  _ (un_nil _)).mono ?_
  rintro e w' ⟨rfl, rfl⟩
  go_wp2_with fail
  refine (un_trap none  _ (un_nil _)).mono ?_
  rintro e w' ⟨rfl, rfl⟩
  go_wp2_with fail
  refine (un_code none  _ (un_nil _)).mono ?_
  rintro e w' ⟨rfl, rfl⟩
  go_wp2_with fail
  refine (un_place _  _ (un_own _ _ hcE)).mono ?_
  rintro e w' ⟨rfl, rfl⟩
  go_wp2_with fail
  refine (un_state _  _ (un_own _ _ hcE)).mono ?_
  rintro e w' ⟨rfl, rfl⟩
  go_wp2_with fail
  refine (works_any _ S.out.env).mono ?_
  rintro e wz ⟨rfl, hb⟩
  replace S := Lib.hid (S.out.grow hb)
  clear hb
  go_wp2_with fail
  go_ret
  exact ⟨rfl, S.out.below⟩
end Go.Proofs.YtknnmacmohpanaaDoor
