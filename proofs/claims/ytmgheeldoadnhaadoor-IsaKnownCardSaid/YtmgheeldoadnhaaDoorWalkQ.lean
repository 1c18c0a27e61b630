/- The walk of IsaKnown: the chapter's examples. Conditions: the tables are as laid. -/
import Derived.Test.YtmgheeldoadnhaaDoorWalkP
namespace Go.Proofs.YtmgheeldoadnhaaDoor
open Go.RowKit

theorem dd (k : Nat) (h : k < 10) : Lib.decDigits k = [UInt8.ofNat (48 + k)] := Lib.decDigits_one h
theorem ok_addi : Isa.ok 15 1 2 0 (-5) = true := by decide
theorem ok_sw : Isa.ok 25 0 2 3 4 = true := by decide
theorem ok_halt : Isa.ok 36 0 4 0 0 = true := by decide
theorem word_addi : (1008926715 : Int) = Isa.word 15 1 2 0 (-5) := by decide
theorem word_sw : (1682112516 : Int) = Isa.word 25 0 2 3 4 := by decide
theorem word_halt : (2424307712 : Int) = Isa.word 36 0 4 0 0 := by decide
theorem text_addi : Isa.text 15 1 2 0 (-5) = [97, 100, 100, 105, 32, 114, 49, 32, 114, 50, 32, 45, 53] := by
  show Lib.join ([[97, 100, 100, 105], 114 :: Lib.decDigits 1, 114 :: Lib.decDigits 2, Lib.itoa (-5)]) [32] = _
  rw [dd 1 (by decide), dd 2 (by decide), show Lib.itoa (-5) = 45 :: Lib.decDigits 5 from rfl, dd 5 (by decide)]
  decide
theorem text_sw : Isa.text 25 0 2 3 4 = [115, 119, 32, 114, 50, 32, 114, 51, 32, 52] := by
  show Lib.join ([[115, 119], 114 :: Lib.decDigits 2, 114 :: Lib.decDigits 3, Lib.itoa 4]) [32] = _
  rw [dd 2 (by decide), dd 3 (by decide), show Lib.itoa 4 = Lib.decDigits 4 from rfl, dd 4 (by decide)]
  decide
theorem text_halt : Isa.text 36 0 4 0 0 = [104, 97, 108, 116, 32, 114, 52] := by
  show Lib.join ([[104, 97, 108, 116], 114 :: Lib.decDigits 4]) [32] = _
  rw [dd 4 (by decide)]
  decide
theorem bad_add : pOk [97, 100, 100, 32, 114, 49, 32, 114, 50] = false := by
  have e : pOp [97, 100, 100, 32, 114, 49, 32, 114, 50] = 1 ∧ (p1 [97, 100, 100, 32, 114, 49, 32, 114, 50]).1 = 1 ∧ (p2 [97, 100, 100, 32, 114, 49, 32, 114, 50]).1 = 2 ∧ (p3 [97, 100, 100, 32, 114, 49, 32, 114, 50]).1 = 0 ∧ (p4 [97, 100, 100, 32, 114, 49, 32, 114, 50]).1 = 0 := by decide
  obtain ⟨e0, e1, e2, e3, e4⟩ := e
  unfold pOk
  rw [e0, e1, e2, e3, e4]
  have ht : Isa.text 1 1 2 0 0 ≠ [97, 100, 100, 32, 114, 49, 32, 114, 50] := by
    show Lib.join ([[97, 100, 100], 114 :: Lib.decDigits 1, 114 :: Lib.decDigits 2, 114 :: Lib.decDigits 0]) [32] ≠ _
    rw [dd 1 (by decide), dd 2 (by decide), dd 0 (by decide)]
    decide
  rw [decide_eq_false ht, Bool.and_false]
theorem bad_addi : pOk [97, 100, 100, 105, 32, 114, 49, 32, 114, 50, 32, 48, 53] = false := by
  have e : pOp [97, 100, 100, 105, 32, 114, 49, 32, 114, 50, 32, 48, 53] = 15 ∧ (p1 [97, 100, 100, 105, 32, 114, 49, 32, 114, 50, 32, 48, 53]).1 = 1 ∧ (p2 [97, 100, 100, 105, 32, 114, 49, 32, 114, 50, 32, 48, 53]).1 = 2 ∧ (p3 [97, 100, 100, 105, 32, 114, 49, 32, 114, 50, 32, 48, 53]).1 = 0 ∧ (p4 [97, 100, 100, 105, 32, 114, 49, 32, 114, 50, 32, 48, 53]).1 = 5 := by decide
  obtain ⟨e0, e1, e2, e3, e4⟩ := e
  unfold pOk
  rw [e0, e1, e2, e3, e4]
  have ht : Isa.text 15 1 2 0 5 ≠ [97, 100, 100, 105, 32, 114, 49, 32, 114, 50, 32, 48, 53] := by
    show Lib.join ([[97, 100, 100, 105], 114 :: Lib.decDigits 1, 114 :: Lib.decDigits 2, Lib.itoa 5]) [32] ≠ _
    rw [dd 1 (by decide), dd 2 (by decide), show Lib.itoa 5 = Lib.decDigits 5 from rfl, dd 5 (by decide)]
    decide
  rw [decide_eq_false ht, Bool.and_false]
theorem bad_empty : pOk [] = false := by
  have e : Isa.ok (pOp []) (p1 []).1 (p2 []).1 (p3 []).1 (p4 []).1 = false := by decide
  unfold pOk
  rw [e, Bool.false_and]

set_option maxRecDepth 100000 in
set_option maxHeartbeats 8000000 in
theorem known_any (w : World) (h : Env2 w) : Calls Tryd.prog 7 #[] w fun e w' => e = .returned (.bool true) ∧ Below w.heap.size w w' := by
  have hb := Below.refl w.heap.size w
  go_enter Tryd.func7, Tryd.ntmps7
  go_wp2_with fail
  refine (parse_any ⟨#[97, 100, 100, 32, 114, 49, 32, 114, 50]⟩ _ (h.below hb) (by decide)).mono ?_
  rintro e w1 ⟨hp, hb2⟩
  obtain rfl := par_out_bad (l := [97, 100, 100, 32, 114, 49, 32, 114, 50]) bad_add hp
  replace hb := (hb.trans (hb2.mono hb.size)).alloc (hb.trans (hb2.mono hb.size)).size (.cells #[.int .i64 0, .int .i64 0, .int .i64 0, .int .i64 0, .int .i64 0] 27)
  clear hb2 hp
  go_wp2_with fail
  refine (parse_any ⟨#[97, 100, 100, 105, 32, 114, 49, 32, 114, 50, 32, 48, 53]⟩ _ (h.below hb) (by decide)).mono ?_
  rintro e w2 ⟨hp, hb2⟩
  obtain rfl := par_out_bad (l := [97, 100, 100, 105, 32, 114, 49, 32, 114, 50, 32, 48, 53]) bad_addi hp
  replace hb := (hb.trans (hb2.mono hb.size)).alloc (hb.trans (hb2.mono hb.size)).size (.cells #[.int .i64 0, .int .i64 0, .int .i64 0, .int .i64 0, .int .i64 0] 27)
  clear hb2 hp
  go_wp2_with fail
  refine (parse_any ⟨#[]⟩ _ (h.below hb) (by decide)).mono ?_
  rintro e w3 ⟨hp, hb2⟩
  obtain rfl := par_out_bad (l := []) bad_empty hp
  replace hb := (hb.trans (hb2.mono hb.size)).alloc (hb.trans (hb2.mono hb.size)).size (.cells #[.int .i64 0, .int .i64 0, .int .i64 0, .int .i64 0, .int .i64 0] 27)
  clear hb2 hp
  go_wp2_with fail
  refine (awake_any _ (h.below hb)).mono ?_
  rintro e w4 ⟨rfl, hb2⟩
  replace hb := hb.trans (hb2.mono hb.size)
  clear hb2
  go_wp2_with fail
  refine (is_true 15 1 2 0 (-5) 1008926715 _ _ (h.below hb) ok_addi word_addi text_addi.symm).mono ?_
  rintro e w5 ⟨rfl, hb2⟩
  replace hb := hb.trans (hb2.mono hb.size)
  clear hb2
  go_wp2_with fail
  refine (is_true 25 0 2 3 4 1682112516 _ _ (h.below hb) ok_sw word_sw text_sw.symm).mono ?_
  rintro e w6 ⟨rfl, hb2⟩
  replace hb := hb.trans (hb2.mono hb.size)
  clear hb2
  go_wp2_with fail
  refine (is_true 36 0 4 0 0 2424307712 _ _ (h.below hb) ok_halt word_halt text_halt.symm).mono ?_
  rintro e w7 ⟨rfl, hb2⟩
  replace hb := hb.trans (hb2.mono hb.size)
  clear hb2
  go_wp2_with fail
  refine (no_any 0 _ (h.below hb).toEnv (by decide) (by decide) (by decide)).mono ?_
  rintro e w8 ⟨rfl, hb2⟩
  replace hb := hb.trans (hb2.mono hb.size)
  clear hb2
  go_wp2_with fail
  refine (no_any 2483027968 _ (h.below hb).toEnv (by decide) (by decide) (by decide)).mono ?_
  rintro e w9 ⟨rfl, hb2⟩
  replace hb := hb.trans (hb2.mono hb.size)
  clear hb2
  go_wp2_with fail
  refine (no_any 69343233 _ (h.below hb).toEnv (by decide) (by decide) (by decide)).mono ?_
  rintro e w10 ⟨rfl, hb2⟩
  replace hb := hb.trans (hb2.mono hb.size)
  clear hb2
  go_wp2_with fail
  refine (never_any 1 0 0 0 1 _ (h.below hb) (by decide)).mono ?_
  rintro e w11 ⟨rfl, hb2⟩
  replace hb := hb.trans (hb2.mono hb.size)
  clear hb2
  go_wp2_with fail
  refine (never_any 19 0 0 0 32 _ (h.below hb) (by decide)).mono ?_
  rintro e w12 ⟨rfl, hb2⟩
  replace hb := hb.trans (hb2.mono hb.size)
  clear hb2
  go_wp2_with fail
  refine (never_any 0 0 0 0 0 _ (h.below hb) (by decide)).mono ?_
  rintro e w13 ⟨rfl, hb2⟩
  replace hb := hb.trans (hb2.mono hb.size)
  clear hb2
  go_wp2_with fail
  refine (never_any 37 0 0 0 0 _ (h.below hb) (by decide)).mono ?_
  rintro e w14 ⟨rfl, hb2⟩
  replace hb := hb.trans (hb2.mono hb.size)
  clear hb2
  go_wp2_with fail
  go_ret
  exact ⟨rfl, hb⟩
end Go.Proofs.YtmgheeldoadnhaaDoor
