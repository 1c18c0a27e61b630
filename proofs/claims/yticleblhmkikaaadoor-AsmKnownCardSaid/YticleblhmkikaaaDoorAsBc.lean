/- The walk of AsmKnown: the chapter's examples. Conditions: the table of forms is as laid. -/
import Derived.Test.YticleblhmkikaaaDoorAsBb
namespace Go.Proofs.YticleblhmkikaaaDoor
open Go.RowKit Asm
set_option linter.unusedVariables false
set_option linter.unusedSimpArgs false

def ex_k1 : List It := [⟨3, 26, 0, 1, 2, 0, ⟨#[98]⟩, 0⟩, ⟨8, 0, 0, 0, 0, 0, ByteArray.empty, 40000⟩, ⟨2, 0, 0, 0, 0, 0, ⟨#[98]⟩, 0⟩]
def ex_k2 : List It := [⟨5, 0, 3, 0, 0, 0, ⟨#[98]⟩, 0⟩, ⟨7, 0, 0, 0, 0, 0, ⟨#[98]⟩, 1⟩, ⟨2, 0, 0, 0, 0, 0, ⟨#[98]⟩, 0⟩]
def ex_n1 : List It := [⟨4, 0, 0, 0, 0, 0, ⟨#[99]⟩, 0⟩]
def ex_n2 : List It := [⟨2, 0, 0, 0, 0, 0, ⟨#[97]⟩, 0⟩, ⟨2, 0, 0, 0, 0, 0, ⟨#[97]⟩, 0⟩]
def ex_n3 : List It := [⟨9, 0, 0, 0, 0, 0, ByteArray.empty, 0⟩]
def ex_n4 : List It := [⟨3, 1, 0, 0, 0, 0, ⟨#[97]⟩, 0⟩, ⟨2, 0, 0, 0, 0, 0, ⟨#[97]⟩, 0⟩]
def ex_n5 : List It := [⟨8, 0, 0, 0, 0, 0, ByteArray.empty, 1⟩]
def ex_n6 : List It := [⟨4, 0, 32, 0, 0, 0, ⟨#[97]⟩, 0⟩, ⟨2, 0, 0, 0, 0, 0, ⟨#[97]⟩, 0⟩]
theorem k1_least : Least (litX ex_k1) 3 0 (fun j => if j = 0 then first (litX ex_k1 0) + 1 else first (litX ex_k1 j)) :=
  ⟨Under.grow (by decide +kernel) Under.start (i := 0) (by decide) (by decide +kernel), by unfold Fits; decide +kernel⟩
theorem k2_least : Least (litX ex_k2) 3 65536 (fun i => first (litX ex_k2 i)) := ⟨Under.start, by unfold Fits; decide +kernel⟩
theorem k1_check : check (litX ex_k1) 3 0 = 0 := by decide +kernel
theorem k2_check : check (litX ex_k2) 3 65536 = 0 := by decide +kernel
theorem k1_len : (wordsL (litX ex_k1) 3 0 (fun j => if j = 0 then first (litX ex_k1 0) + 1 else first (litX ex_k1 j)) 3).length = 40002 := by
  have h := wordsL_len (base := 0) k1_least.1.1 (by decide +kernel) (kind_of k1_check) 3 (Nat.le_refl 3)
  have e : ad (litX ex_k1) 0 (fun j => if j = 0 then first (litX ex_k1 0) + 1 else first (litX ex_k1 j)) 3 = 40002 := by decide +kernel
  rw [e] at h
  omega
theorem k1_begins : Begins (litX ex_k1) 3 0 40002 40002 [1814167553, 2147523648, 0] (fun j => if j = 0 then first (litX ex_k1 0) + 1 else first (litX ex_k1 j)) :=
  ⟨by decide +kernel, k1_len, ⟨(⟨#[98]⟩, 40002), [], by decide +kernel, rfl⟩, by decide, by decide +kernel⟩
theorem k2_words : wordsL (litX ex_k2) 3 65536 (fun i => first (litX ex_k2 i)) 3 = [1549795329, 1147338755, 262157] := by decide +kernel
theorem k2_begins : Begins (litX ex_k2) 3 65536 3 65539 [1549795329, 1147338755, 262157] (fun i => first (litX ex_k2 i)) := by
  unfold Begins
  rw [k2_words]
  exact ⟨by decide +kernel, rfl, ⟨(⟨#[98]⟩, 65539), [], by decide +kernel, rfl⟩, by decide, fun _ _ => rfl⟩
theorem begins_on {W w : World} (hE : Env W) (hb : Below W.heap.size W w) (L : List It) (ws : List Int) {p : Option Addr} (hl : L.length ≤ 60) (hI : Items w p L.length L.length (litX L)) (base : Int) (N : Nat) (Ni a : Int) (hN : Ni = N) (k K : Nat) (hk : k = L.length) (hK : K = ws.length) (hK2 : K ≤ 1000)
    (B : Array Value) (hB : B = (byW ws).toArray) (s : Nat) (hs : s = w.heap.size) (hc : check (litX L) L.length base = 0) {g : Nat → Nat} (hg : Least (litX L) L.length base g) (hbe : Begins (litX L) L.length base N a ws g) :
    Calls Tryd.prog 20 #[.slice p k k, .int .i64 base, .int .i64 Ni, .int .i64 a, .slice (some ⟨s, 0, none⟩) K K] (w.alloc (.cells B 42)) fun e w' => e = .returned (.bool true) ∧ Below w.heap.size w w' := by
  subst hk hB hN hs
  have hb2 : Below W.heap.size W (w.alloc (.cells (byW ws).toArray 42)) := hb.alloc hb.size _
  have hI2 := hI.below ((Below.refl _ _).alloc (Nat.le_refl _) (.cells (byW ws).toArray 42))
  refine (begins_at hI2 (hE.below hb2) hl base N a w.heap.size ws ?_ hc (fun f hf => hbe.of hg f hf) K hK hK2).mono ?_
  · intro j x hx
    have := cell_newL w (byW ws) 42 j
    have e : (⟨w.heap.size, 0, none⟩ : Addr).add j = ⟨w.heap.size, j, none⟩ := by
      unfold Addr.add
      split <;> simp_all
    rw [e] at this
    rw [this]
    unfold byW
    rw [List.getElem?_map, hx]
    rfl
  · rintro e w' ⟨rfl, hb3⟩
    have hl2 : Below w.heap.size w (w.alloc (.cells (byW ws).toArray 42)) := (Below.refl _ _).alloc (Nat.le_refl _) _
    exact ⟨rfl, hl2.trans (hb3.mono hl2.size)⟩
theorem n1_no : (check (litX ex_n1) ex_n1.length 0 ≠ 0 ∧ check (litX ex_n1) ex_n1.length 0 = 12) ∨ (check (litX ex_n1) ex_n1.length 0 = 0 ∧ (12 : Int) = 3 ∧ ∀ f, Least (litX ex_n1) ex_n1.length 0 f → 67108864 < ad (litX ex_n1) 0 f ex_n1.length) := Or.inl (by decide +kernel)
theorem n2_no : (check (litX ex_n2) ex_n2.length 0 ≠ 0 ∧ check (litX ex_n2) ex_n2.length 0 = 14) ∨ (check (litX ex_n2) ex_n2.length 0 = 0 ∧ (14 : Int) = 3 ∧ ∀ f, Least (litX ex_n2) ex_n2.length 0 f → 67108864 < ad (litX ex_n2) 0 f ex_n2.length) := Or.inl (by decide +kernel)
theorem n3_no : (check (litX ex_n3) ex_n3.length 0 ≠ 0 ∧ check (litX ex_n3) ex_n3.length 0 = 4) ∨ (check (litX ex_n3) ex_n3.length 0 = 0 ∧ (4 : Int) = 3 ∧ ∀ f, Least (litX ex_n3) ex_n3.length 0 f → 67108864 < ad (litX ex_n3) 0 f ex_n3.length) := Or.inl (by decide +kernel)
theorem n4_no : (check (litX ex_n4) ex_n4.length 0 ≠ 0 ∧ check (litX ex_n4) ex_n4.length 0 = 11) ∨ (check (litX ex_n4) ex_n4.length 0 = 0 ∧ (11 : Int) = 3 ∧ ∀ f, Least (litX ex_n4) ex_n4.length 0 f → 67108864 < ad (litX ex_n4) 0 f ex_n4.length) := Or.inl (by decide +kernel)
theorem n6_no : (check (litX ex_n6) ex_n6.length 0 ≠ 0 ∧ check (litX ex_n6) ex_n6.length 0 = 11) ∨ (check (litX ex_n6) ex_n6.length 0 = 0 ∧ (11 : Int) = 3 ∧ ∀ f, Least (litX ex_n6) ex_n6.length 0 f → 67108864 < ad (litX ex_n6) 0 f ex_n6.length) := Or.inl (by decide +kernel)
theorem n5_no : (check (litX ex_n5) ex_n5.length 67108864 ≠ 0 ∧ check (litX ex_n5) ex_n5.length 67108864 = 3) ∨ (check (litX ex_n5) ex_n5.length 67108864 = 0 ∧ (3 : Int) = 3 ∧ ∀ f, Least (litX ex_n5) ex_n5.length 67108864 f → 67108864 < ad (litX ex_n5) 67108864 f ex_n5.length) := by
  refine Or.inr ⟨by decide +kernel, rfl, fun f _ => ?_⟩
  have e : ad (litX ex_n5) 67108864 f ex_n5.length = 67108864 + isz (litX ex_n5 0) (f 0) := rfl
  have e2 : isz (litX ex_n5 0) (f 0) = 1 := rfl
  omega
theorem none_no : (check (litX []) 0 (-1) ≠ 0 ∧ check (litX []) 0 (-1) = 2) ∨ (check (litX []) 0 (-1) = 0 ∧ (2 : Int) = 3 ∧ ∀ f, Least (litX []) 0 (-1) f → 67108864 < ad (litX []) (-1) f 0) := Or.inl (by decide +kernel)
set_option maxRecDepth 100000 in
set_option maxHeartbeats 8000000 in
theorem known_any (w : World) (h : Env w) : Calls Tryd.prog 4 #[] w fun e w' => e = .returned (.bool true) ∧ Below w.heap.size w w' := by
  have HE := Lib.hid h
  clear h
  go_enter Tryd.func4, Tryd.ntmps4
  have HB0 := Lib.hid (Below.refl w.heap.size w)
  go_wp2_with fail
  refine (branch_law _ _ _ _).mono ?_
  rintro e w1 ⟨rfl, hb⟩
  unfold iv
  have HB1 := Lib.hid (HB0.out.trans (hb.mono HB0.out.size))
  clear hb HB0
  go_wp2_with fail
  refine (space_any _ _).mono ?_
  rintro e w2 ⟨rfl, hb⟩
  unfold iv
  have HB2 := Lib.hid (HB1.out.trans (hb.mono HB1.out.size))
  clear hb HB1
  go_wp2_with fail
  refine (label_any _ _).mono ?_
  rintro e w3 ⟨rfl, hb⟩
  unfold iv
  have HB3 := Lib.hid (HB2.out.trans (hb.mono HB2.out.size))
  clear hb HB2
  go_upto_region 2 with fail
  have hI := items_lit w3 ex_k1 (by decide) (by decide) (by decide)
  have hb3 : Below w.heap.size w (w3.alloc (.cells (rowL ex_k1).toArray 44)) := HB3.out.alloc HB3.out.size _
  obtain ⟨v1, hv1⟩ : ∃ v1, v1 = w3.heap.size := ⟨_, rfl⟩
  obtain ⟨wa, hwa⟩ : ∃ wa, wa = w3.alloc (.cells (rowL ex_k1).toArray 44) := ⟨_, rfl⟩
  rw [← hv1] at hI
  rw [← hwa] at hI hb3
  have hgo : ∀ A : Array Value, A = (rowL ex_k1).toArray → w3.alloc (.cells A 44) = wa := fun A hA => by rw [hA, hwa]
  rw [← hv1, hgo (#[.int .i64 3, .int .i64 26, .int .i64 0, .int .i64 1, .int .i64 2, .int .i64 0, .string ⟨#[98]⟩, .int .u32 0, .int .i64 8, .int .i64 0, .int .i64 0, .int .i64 0, .int .i64 0, .int .i64 0, .string ByteArray.empty, .int .u32 40000, .int .i64 2, .int .i64 0, .int .i64 0, .int .i64 0, .int .i64 0, .int .i64 0, .string ⟨#[98]⟩, .int .u32 0]) rfl]
  clear hv1 hwa hgo
  have HBa := Lib.hid hb3
  have HI1 := Lib.hid hI
  clear hb3 hI HB3
  go_wp2_with fail
  refine (label_any _ _).mono ?_
  rintro e w4 ⟨rfl, hb⟩
  unfold iv
  have HB4 := Lib.hid (HBa.out.trans (hb.mono HBa.out.size))
  have HI2 := Lib.hid (HI1.out.below hb)
  clear hb HBa HI1
  go_upto_region 3 with fail
  have hI := items_lit w4 ex_k2 (by decide) (by decide) (by decide)
  have hal := (Below.refl w4.heap.size w4).alloc (Nat.le_refl _) (.cells (rowL ex_k2).toArray 44)
  have hb4 : Below w.heap.size w (w4.alloc (.cells (rowL ex_k2).toArray 44)) := HB4.out.alloc HB4.out.size _
  have hI1 := HI2.out.below hal
  obtain ⟨v2, hv2⟩ : ∃ v2, v2 = w4.heap.size := ⟨_, rfl⟩
  obtain ⟨wb, hwb⟩ : ∃ wb, wb = w4.alloc (.cells (rowL ex_k2).toArray 44) := ⟨_, rfl⟩
  rw [← hv2] at hI
  rw [← hwb] at hI hb4 hI1
  have hgo : ∀ A : Array Value, A = (rowL ex_k2).toArray → w4.alloc (.cells A 44) = wb := fun A hA => by rw [hA, hwb]
  rw [← hv2, hgo (#[.int .i64 5, .int .i64 0, .int .i64 3, .int .i64 0, .int .i64 0, .int .i64 0, .string ⟨#[98]⟩, .int .u32 0, .int .i64 7, .int .i64 0, .int .i64 0, .int .i64 0, .int .i64 0, .int .i64 0, .string ⟨#[98]⟩, .int .u32 1, .int .i64 2, .int .i64 0, .int .i64 0, .int .i64 0, .int .i64 0, .int .i64 0, .string ⟨#[98]⟩, .int .u32 0]) rfl]
  clear hv2 hwb hgo hal
  have HBb := Lib.hid hb4
  have HI3 := Lib.hid (And.intro hI1 hI)
  clear hb4 hI hI1 HB4 HI2
  go_wp2_with fail
  refine (awake_any _ (HE.out.below HBb.out)).mono ?_
  rintro e w5 ⟨rfl, hb⟩
  have HB5 := Lib.hid (HBb.out.trans (hb.mono HBb.out.size))
  have HI4 := Lib.hid (And.intro (HI3.out.1.below hb) (HI3.out.2.below hb))
  clear hb HBb HI3
  go_wp2_with fail
  refine (begins_on HE.out HB5.out ex_k1 [1814167553, 2147523648, 0] (by decide) HI4.out.1 0 40002 40002 40002 rfl 3 3 rfl rfl (by decide) _ rfl _ rfl k1_check k1_least k1_begins).mono ?_
  rintro e w6 ⟨rfl, hb⟩
  have HB6 := Lib.hid (HB5.out.trans (hb.mono HB5.out.size))
  have HI5 := Lib.hid (HI4.out.2.below hb)
  clear hb HB5 HI4
  go_wp2_with fail
  refine (begins_on HE.out HB6.out ex_k2 [1549795329, 1147338755, 262157] (by decide) HI5.out 65536 3 3 65539 rfl 3 3 rfl rfl (by decide) _ rfl _ rfl k2_check k2_least k2_begins).mono ?_
  rintro e w7 ⟨rfl, hb⟩
  have HB7 := Lib.hid (HB6.out.trans (hb.mono HB6.out.size))
  clear hb HB6 HI5
  go_wp2_with fail
  refine (jump_law _ _ _).mono ?_
  rintro e w8 ⟨rfl, hb⟩
  unfold iv
  have HB8 := Lib.hid (HB7.out.trans (hb.mono HB7.out.size))
  clear hb HB7
  go_wp2_with fail
  refine (no_step HE.out HB8.out ex_n1 (by decide) (by decide) (by decide) 0 12 1 rfl _ rfl n1_no).mono ?_
  rintro e w9 ⟨rfl, hb⟩
  have HB9 := Lib.hid hb
  clear hb HB8
  go_wp2_with fail
  refine (label_any _ _).mono ?_
  rintro e w10 ⟨rfl, hb⟩
  unfold iv
  have HB10 := Lib.hid (HB9.out.trans (hb.mono HB9.out.size))
  clear hb HB9
  go_wp2_with fail
  refine (label_any _ _).mono ?_
  rintro e w11 ⟨rfl, hb⟩
  unfold iv
  have HB11 := Lib.hid (HB10.out.trans (hb.mono HB10.out.size))
  clear hb HB10
  go_wp2_with fail
  refine (no_step HE.out HB11.out ex_n2 (by decide) (by decide) (by decide) 0 14 2 rfl _ rfl n2_no).mono ?_
  rintro e w12 ⟨rfl, hb⟩
  have HB12 := Lib.hid hb
  clear hb HB11
  go_wp2_with fail
  refine (no_step HE.out HB12.out ex_n3 (by decide) (by decide) (by decide) 0 4 1 rfl _ rfl n3_no).mono ?_
  rintro e w13 ⟨rfl, hb⟩
  have HB13 := Lib.hid hb
  clear hb HB12
  go_wp2_with fail
  refine (label_any _ _).mono ?_
  rintro e w14 ⟨rfl, hb⟩
  unfold iv
  have HB14 := Lib.hid (HB13.out.trans (hb.mono HB13.out.size))
  clear hb HB13
  go_wp2_with fail
  refine (no_step HE.out HB14.out ex_n4 (by decide) (by decide) (by decide) 0 11 2 rfl _ rfl n4_no).mono ?_
  rintro e w15 ⟨rfl, hb⟩
  have HB15 := Lib.hid hb
  clear hb HB14
  go_wp2_with fail
  refine (no_at (items_none _ (litX [])) (HE.out.below HB15.out) (by decide) (-1) 2 none_no).mono ?_
  rintro e w16 ⟨rfl, hb⟩
  have HB16 := Lib.hid (HB15.out.trans (hb.mono HB15.out.size))
  clear hb HB15
  go_wp2_with fail
  refine (space_any _ _).mono ?_
  rintro e w17 ⟨rfl, hb⟩
  unfold iv
  have HB17 := Lib.hid (HB16.out.trans (hb.mono HB16.out.size))
  clear hb HB16
  go_wp2_with fail
  refine (no_step HE.out HB17.out ex_n5 (by decide) (by decide) (by decide) 67108864 3 1 rfl _ rfl n5_no).mono ?_
  rintro e w18 ⟨rfl, hb⟩
  have HB18 := Lib.hid hb
  clear hb HB17
  go_wp2_with fail
  refine (jump_law _ _ _).mono ?_
  rintro e w19 ⟨rfl, hb⟩
  unfold iv
  have HB19 := Lib.hid (HB18.out.trans (hb.mono HB18.out.size))
  clear hb HB18
  go_wp2_with fail
  refine (label_any _ _).mono ?_
  rintro e w20 ⟨rfl, hb⟩
  unfold iv
  have HB20 := Lib.hid (HB19.out.trans (hb.mono HB19.out.size))
  clear hb HB19
  go_wp2_with fail
  refine (no_step HE.out HB20.out ex_n6 (by decide) (by decide) (by decide) 0 11 2 rfl _ rfl n6_no).mono ?_
  rintro e w21 ⟨rfl, hb⟩
  have HB21 := Lib.hid hb
  clear hb HB20
  go_wp2_with fail
  refine (turned_any _ _).mono ?_
  rintro e wz ⟨rfl, rfl⟩
  go_wp2_with fail
  refine (turned_any _ _).mono ?_
  rintro e wz ⟨rfl, rfl⟩
  go_wp2_with fail
  go_ret
  exact ⟨rfl, HB21.out⟩
end Go.Proofs.YticleblhmkikaaaDoor
