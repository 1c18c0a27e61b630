/- Plain: the walk of BigTexts. Conditions: the digits lie as told; the table lies. -/
import Derived.Test.YtihgefllmkicaaaDoorBbH
import Derived.Test.YtihgefllmkicaaaDoorBbF0
namespace Go.Proofs.YtihgefllmkicaaaDoor
open Go.RowKit Bg
set_option linter.unusedVariables false
set_option linter.unusedSimpArgs false


theorem ext_list (t : ByteArray) (f : Nat) : (t.extract f t.size).toList = t.data.toList.drop f := by
  rw [ByteArray.toList_eq, data_extract, List.take_of_length_le]
  rw [List.length_drop, size_list]
  exact Nat.le_refl _
theorem read_bnd {t : ByteArray} (h : t.size ≤ 300) (hd : isDec (pBody t) = true) : Bnd 150 (pVal t) := by
  rw [isDec_list, Bool.and_eq_true] at hd
  have h1 : (pBody t).data.toList.length ≤ 300 := by
    rw [pBody_list, List.length_drop, ← size_list]
    omega
  have h2 := decv_bound (byI (pBody t).data.toList) (all_mem hd.2)
  have h3 := pow_le (show (1 : Int) ≤ 10 by decide) (show (byI (pBody t).data.toList).length ≤ 300 by rw [byI_len]; exact h1)
  have h4 : (10 : Int) ^ 300 ≤ 65536 ^ 150 := by decide +kernel
  unfold pVal Bnd
  rw [byL_list]
  split <;> omega
theorem read_pos {t : ByteArray} (hd : isDec (pBody t) = true) : 0 < t.size := by
  rw [isDec_list, Bool.and_eq_true, decide_eq_true_eq, pBody_list, List.length_drop, ← size_list] at hd
  omega
theorem read_first {t : ByteArray} (hd : isDec (pBody t) = true) {f0 : Nat} (h : f0 = if 0 < t.size ∧ ((byL t).getD 0 0 = 45 ∨ (byL t).getD 0 0 = 43) then 1 else 0) : f0 + 1 ≤ t.size := by
  rw [isDec_list, Bool.and_eq_true, decide_eq_true_eq, pBody_list, ← h, List.length_drop, ← size_list] at hd
  omega
set_option maxRecDepth 100000 in
set_option maxHeartbeats 40000000 in
theorem texts_any {w : World} {p1 : Option Addr} {c1 : Nat} {l1 : List Int} {s1 : Bool} {x : Int} (a1 : Nm w s1 p1 c1 l1 x) (t : ByteArray) (ht : Tab w) (hts : t.size ≤ 9223372036854775807) :
    Calls Tryd.prog 10 #[.agg #[.bool s1, .slice p1 l1.length c1], .string t] w fun e w' => e = .returned (.bool true) ∧ Below w.heap.size w w' := by
  obtain ⟨W, hW⟩ : ∃ W, W = w.alloc (.cells #[.bool s1, .slice p1 l1.length c1] 24) := ⟨_, rfl⟩
  have hB : Below w.heap.size w W := by rw [hW]; exact (Below.refl _ _).alloc (Nat.le_refl _) _
  have hS : W.heap.size = w.heap.size + 1 := by rw [hW]; simp
  have x0 : Box W w.heap.size (.bool s1) (.slice p1 l1.length c1) := by rw [hW]; exact Box.fresh _ _ _ rfl
  obtain ⟨V, hV⟩ : ∃ V, V = W.alloc (.cells #[.bool s1, .slice p1 l1.length c1] 24) := ⟨_, rfl⟩
  have hr : Rw V (w.heap.size + 1) 0 [l1.length] := by rw [hV]; exact rw_one hS _ _ _ _
  have BV : Below W.heap.size W V := by rw [hV]; exact (Below.refl _ _).alloc (Nat.le_refl _) _
  have hBV := hB.trans (BV.mono hB.size)
  have m0 := x0.c0
  have m1 := x0.c1
  have HR := Lib.hid hr
  have H0 := Lib.hid (And.intro (ht.below (hBV.mono (Nat.le_refl _))) (And.intro hBV (And.intro (x0.below BV) (a1.below (hBV.mono (Nat.le_refl _))))))
  clear a1 ht hB hS x0 BV hBV hr
  go_enter Tryd.func10, Tryd.ntmps10
  go_wp2_with fail
  rw [← hW, ← hV]
  clear hW hV m0 m1
  refine (large_at HR.out (show 1 ≤ 10 by decide) (Nat.le_refl _)).mono ?_
  rintro e w' ⟨rfl, rfl⟩
  obtain ⟨lo, hlo⟩ : ∃ lo, lo = long [l1.length] := ⟨_, rfl⟩
  rw [show ([l1.length].any fun n => decide (60 < n)) = lo from hlo.symm]
  have HL := Lib.hid hlo
  clear hlo
  cases lo
  case true =>
    go_wp2_with fail
    go_wp2_with fail
    refine (awake_at H0.out.1).mono ?_
    rintro e w11 ⟨rfl, B11⟩
    have H1 := Lib.hid (And.intro (H0.out.1.below B11) (And.intro (H0.out.2.1.trans (B11.mono H0.out.2.1.size)) (And.intro (H0.out.2.2.1.below B11) (H0.out.2.2.2.below B11))))
    clear B11
    go_wp2_with fail
    go_ret
    exact ⟨rfl, H1.out.2.1⟩
  by_cases h3 : t.size ≤ 300
  case neg =>
    have q1 : decide ((t.size : Int) > 300) = true := by rw [decide_eq_true_eq]; omega
    go_wp2_with fail
    go_wp2_with fail
    refine (awake_at H0.out.1).mono ?_
    rintro e w11 ⟨rfl, B11⟩
    have H1 := Lib.hid (And.intro (H0.out.1.below B11) (And.intro (H0.out.2.1.trans (B11.mono H0.out.2.1.size)) (And.intro (H0.out.2.2.1.below B11) (H0.out.2.2.2.below B11))))
    clear B11
    go_wp2_with fail
    go_ret
    exact ⟨rfl, H1.out.2.1⟩
  have hL := long_one HL.out.symm
  have H1 := Lib.hid (And.intro H0.out.1 (And.intro H0.out.2.1 (And.intro H0.out.2.2.1 (Nu.mk (n := 60) H0.out.2.2.2 hL))))
  clear hL
  have q1 : decide ((t.size : Int) > 300) = false := by rw [decide_eq_false_iff_not]; omega
  have yX1 := H1.out.2.2.1
  have yX10 := yX1.c0
  have yX11 := yX1.c1
  clear yX1
  go_wp2_with fail
  refine (text_nu H1.out.2.2.2 (by decide) H1.out.1).mono ?_
  rintro e w11 ⟨rfl, B11⟩
  have H2 := Lib.hid (And.intro (H1.out.1.below B11) (And.intro (H1.out.2.1.trans (B11.mono H1.out.2.1.size)) (And.intro (H1.out.2.2.1.below B11) (H1.out.2.2.2.below B11))))
  clear B11
  clear yX10 yX11
  go_wp2_with fail
  refine (parse_good (x := x) (txt_short H2.out.2.2.2.bnd) (txt_read x).1 (txt_read x).2 w11).mono ?_
  rintro e w12 ⟨v12, rfl, m12, B12⟩
  obtain ⟨s12, p12, c12, D12, rfl, n12, k12, -⟩ := gives_of (n := 60) m12 ((H2.out.2.2.2.below B12).bnd)
  have H3 := Lib.hid (And.intro (H2.out.1.below B12) (And.intro (H2.out.2.1.trans (B12.mono H2.out.2.1.size)) (And.intro (H2.out.2.2.1.below B12) (And.intro (H2.out.2.2.2.below B12) (And.intro n12 k12)))))
  clear n12 k12 m12 B12
  obtain ⟨w13, hw13⟩ : ∃ w13, w13 = w12.alloc (.cells #[.bool s12, .slice p12 D12.length c12] 24) := ⟨_, rfl⟩
  have B13 : Below w12.heap.size w12 w13 := by rw [hw13]; exact (Below.refl _ _).alloc (Nat.le_refl _) _
  have X13 : Box w13 w12.heap.size (.bool s12) (.slice p12 D12.length c12) := by rw [hw13]; exact Box.fresh _ _ _ rfl
  have H4 := Lib.hid (And.intro (H3.out.1.below B13) (And.intro (H3.out.2.1.trans (B13.mono H3.out.2.1.size)) (And.intro (H3.out.2.2.1.below B13) (And.intro (H3.out.2.2.2.1.below B13) (And.intro (H3.out.2.2.2.2.1.below B13) (And.intro (H3.out.2.2.2.2.2.below B13) X13))))))
  clear X13 B13
  go_upto_region 4 with fail
  rw [← hw13]
  clear hw13
  go_cut [34] (fun v wx => v = .bool false ∧ Hid (Below w13.heap.size w13 wx))
  case first =>
    have BZ := Below.refl w13.heap.size w13
    have B15 : Below w13.heap.size w13 w13.drew := (Below.refl _ _).drew
    have BZ := BZ.trans (B15.mono BZ.size)
    have H5 := Lib.hid (And.intro (H4.out.1.below B15) (And.intro (H4.out.2.1.trans (B15.mono H4.out.2.1.size)) (And.intro (H4.out.2.2.1.below B15) (And.intro (H4.out.2.2.2.1.below B15) (And.intro (H4.out.2.2.2.2.1.below B15) (And.intro (H4.out.2.2.2.2.2.1.below B15) (H4.out.2.2.2.2.2.2.below B15)))))))
    clear B15
    have hSS : w13.drew.cell? ⟨w.heap.size, 0, none⟩ = some (.bool s1) ∧ w13.drew.cell? ⟨w.heap.size, 1, none⟩ = some (.slice p1 l1.length c1) ∧ w13.drew.cell? ⟨w12.heap.size, 0, none⟩ = some (.bool s12) ∧ w13.drew.cell? ⟨w12.heap.size, 1, none⟩ = some (.slice p12 D12.length c12) := And.intro ((H5.out.2.2.1).c0) (And.intro ((H5.out.2.2.1).c1) (And.intro ((H5.out.2.2.2.2.2.2).c0) ((H5.out.2.2.2.2.2.2).c1)))
    go_region_held3 (fun w' => w'.cell? ⟨w.heap.size, 0, none⟩ = some (.bool s1) ∧ w'.cell? ⟨w.heap.size, 1, none⟩ = some (.slice p1 l1.length c1) ∧ w'.cell? ⟨w12.heap.size, 0, none⟩ = some (.bool s12) ∧ w'.cell? ⟨w12.heap.size, 1, none⟩ = some (.slice p12 D12.length c12)) (first | assumption | go_keep) (first | (have hx := H6; go_at_call 37; clear hx; refine (same_true H6.out.2.2.2.2.1.toNm H6.out.2.2.2.2.2.2.2.1.toNm H6.out.2.2.2.2.2.1 H6.out.2.2.2.2.2.2.2.2 rfl).mono ?_; rintro e w17 ⟨rfl, B17⟩; have BZ := BZ.trans (B17.mono BZ.size); have H7 := Lib.hid (And.intro (H6.out.1.below B17) (And.intro (H6.out.2.1.trans (B17.mono H6.out.2.1.size)) (And.intro (H6.out.2.2.1.below B17) (And.intro (H6.out.2.2.2.1.below B17) (And.intro (H6.out.2.2.2.2.1.below B17) (And.intro (H6.out.2.2.2.2.2.1.below B17) (And.intro (H6.out.2.2.2.2.2.2.1.below B17) (And.intro (H6.out.2.2.2.2.2.2.2.1.below B17) (H6.out.2.2.2.2.2.2.2.2.below B17))))))))); clear B17 H6; clear hSS16; have hSS17 := And.intro ((H7.out.2.2.1).c0) (And.intro ((H7.out.2.2.1).c1) (And.intro ((H7.out.2.2.2.2.2.2.1).c0) ((H7.out.2.2.2.2.2.2.1).c1)))) | (have hx := H5; go_at_call 14; clear hx; refine (tidy_nu H5.out.2.2.2.1 (by decide)).mono ?_; rintro e w16 ⟨⟨s16, p16, c16, D16, rfl, n16, k16, -⟩, B16⟩; have BZ := BZ.trans (B16.mono BZ.size); have H6 := Lib.hid (And.intro (H5.out.1.below B16) (And.intro (H5.out.2.1.trans (B16.mono H5.out.2.1.size)) (And.intro (H5.out.2.2.1.below B16) (And.intro (H5.out.2.2.2.1.below B16) (And.intro (H5.out.2.2.2.2.1.below B16) (And.intro (H5.out.2.2.2.2.2.1.below B16) (And.intro (H5.out.2.2.2.2.2.2.below B16) (And.intro n16 k16)))))))); clear n16 k16 B16 H5; clear hSS; have hSS16 := And.intro ((H6.out.2.2.1).c0) (And.intro ((H6.out.2.2.1).c1) (And.intro ((H6.out.2.2.2.2.2.2.1).c0) ((H6.out.2.2.2.2.2.2.1).c1)))))
    all_goals clear hSS17
    all_goals (go_wp2_with fail; go_meet; exact ⟨rfl, BZ⟩)
  case rest =>
    obtain ⟨rfl, B14⟩ := hcut
    have H5 := Lib.hid (And.intro (H4.out.1.below B14.out) (And.intro (H4.out.2.1.trans (B14.out.mono H4.out.2.1.size)) (And.intro (H4.out.2.2.1.below B14.out) (And.intro (H4.out.2.2.2.1.below B14.out) (And.intro (H4.out.2.2.2.2.1.below B14.out) (And.intro (H4.out.2.2.2.2.2.1.below B14.out) (H4.out.2.2.2.2.2.2.below B14.out)))))))
    clear B14
    obtain ⟨w14, hw14⟩ : ∃ w14, w14 = wc := ⟨_, rfl⟩
    rw [← hw14] at H5 ⊢
    clear hw14
    have H6 := Lib.hid (And.intro H5.out.1 H5.out.2.1)
    by_cases hd : isDec (pBody t) = true
    · go_wp2_with fail
      refine (parse_good (x := pVal t) h3 hd rfl w14).mono ?_
      rintro e w18 ⟨v18, rfl, m18, B18⟩
      obtain ⟨s18, p18, c18, D18, rfl, n18, -, -⟩ := gives_of (n := 150) m18 (read_bnd h3 hd)
      have H7 := Lib.hid (And.intro (H6.out.1.below B18) (And.intro (H6.out.2.trans (B18.mono H6.out.2.size)) n18))
      clear n18 m18 B18
      obtain ⟨w19, hw19⟩ : ∃ w19, w19 = w18.alloc (.cells #[.bool s18, .slice p18 D18.length c18] 24) := ⟨_, rfl⟩
      have B19 : Below w18.heap.size w18 w19 := by rw [hw19]; exact (Below.refl _ _).alloc (Nat.le_refl _) _
      have X19 : Box w19 w18.heap.size (.bool s18) (.slice p18 D18.length c18) := by rw [hw19]; exact Box.fresh _ _ _ rfl
      have H8 := Lib.hid (And.intro (H7.out.1.below B19) (And.intro (H7.out.2.1.trans (B19.mono H7.out.2.1.size)) (And.intro (H7.out.2.2.below B19) X19)))
      clear X19 B19
      go_upto_region 7 with fail
      rw [← hw19]
      clear hw19
      have ht0 := read_pos hd
      have ht1 : (0 : Int) < (t.size : Int) := by omega
      have HD := Lib.hid hd
      clear hd q1
      obtain ⟨f0, hf0⟩ : ∃ f0 : Nat, f0 = if 0 < t.size ∧ ((byL t).getD 0 0 = 45 ∨ (byL t).getD 0 0 = 43) then 1 else 0 := ⟨_, rfl⟩
      have hf1 := read_first HD.out hf0
      have HF := Lib.hid hf0
      clear hf0
      have hg := byL_get t ht0
      have HG := Lib.hid hg
      clear hg
      by_cases h45 : (t[0].toNat : Int) = 45
      · have hf : f0 = 1 := by rw [HF.out, if_pos ⟨ht0, Or.inl (HG.out.trans h45)⟩]
        have q2 : decide ((t[0].toNat : Int) = 45) = true := by simp [h45]
        have q3 : ((t[0].toNat : Int) == 45) = true := by simp [h45]
        have hpn : pNeg t = true := by unfold pNeg; rw [decide_eq_true_eq]; exact ⟨ht0, HG.out.trans h45⟩
        have HPN := Lib.hid (And.intro hpn hf)
        clear hpn hf h45
        go_upto_block 0 with fail
        go_cut [9] (fun v wx => ∃ k : Nat, v = .int .i64 k ∧ Hid (f0 ≤ k ∧ k + 1 ≤ t.size ∧ (∀ i, f0 ≤ i → i < k → (byL t).getD i 0 = 48) ∧ (k + 1 = t.size ∨ (byL t).getD k 0 ≠ 48) ∧ w19 = wx))
        case first =>
          clear q2 q3
          go_wp2_with fail
          go_loop [9] (fun v => ∃ k : Nat, v = .int .i64 k ∧ k + 1 ≤ t.size ∧ Hid (f0 ≤ k ∧ (∀ i, f0 ≤ i → i < k → (byL t).getD i 0 = 48))) (fun v => t.size - (intOf v).toNat)
          case atStart => exact ⟨f0, by rw [HPN.out.2]; rfl, hf1, Nat.le_refl _, fun i hi hi2 => by omega⟩
          case round =>
            obtain ⟨k, rfl, hk, hS⟩ := hrel
            by_cases hlt : k + 1 < t.size
            · have hkl : k < t.size := by omega
              have hgk := Lib.hid (byL_get t hkl)
              have d1 : decide ((k : Int) < (t.size : Int) - 1) = true := by rw [decide_eq_true_eq]; omega
              have d2 : (k : Int) < (t.size : Int) := by omega
              by_cases h48 : (t[k].toNat : Int) = 48
              · have q6 : decide ((t[k].toNat : Int) = 48) = true := by simp [h48]
                have q7 : ((t[k].toNat : Int) == 48) = true := by simp [h48]
                have HK := Lib.hid (hgk.out.trans h48)
                clear h48 hgk
                go_wp2_with fail
                go_round
                case rel =>
                  refine ⟨k + 1, by go_num, by omega, by have := hS.out.1; omega, fun i hi hi2 => ?_⟩
                  by_cases hik : i = k
                  · rw [hik]; exact HK.out
                  · exact hS.out.2 i hi (by omega)
                case measure => simp [intOf]; omega
              · have q6 : decide ((t[k].toNat : Int) = 48) = false := by simp [h48]
                have q7 : ((t[k].toNat : Int) == 48) = false := by simp [h48]
                have HK := Lib.hid (fun e : (byL t).getD k 0 = 48 => h48 (hgk.out.symm.trans e))
                clear h48 hgk
                go_wp2_with fail
                go_meet
                case rel => exact ⟨k, rfl, hS.out.1, by omega, hS.out.2, Or.inr HK.out, rfl⟩
            · have d1 : decide ((k : Int) < (t.size : Int) - 1) = false := by rw [decide_eq_false_iff_not]; omega
              go_wp2_with fail
              go_meet
              case rel => exact ⟨k, rfl, hS.out.1, by omega, hS.out.2, Or.inl (by omega), rfl⟩
        case rest =>
          obtain ⟨f, rfl, hS⟩ := hcut
          have hwc := hS.out.2.2.2.2
          have hfl : f + 1 ≤ t.size := hS.out.2.1
          have hfl2 : (f : Int) ≤ (t.size : Int) := by omega
          have htx := read_txt t HD.out HF.out hS.out.1 hS.out.2.1 hS.out.2.2.1 hS.out.2.2.2.1
          have hex := ext_list t f
          have hez : ¬ 9223372036854775807 < 1 + (t.size - f) := by omega
          have hez2 : ¬ 9223372036854775807 < t.size - f := by omega
          rw [HPN.out.1] at htx
          subst hwc
          by_cases h48 : t.data.toList.drop f = [48]
          · rw [if_neg (fun h => h.2 h48)] at htx
            have q8 : ((t.extract f t.size).toList == [48]) = true := by rw [hex]; simp [h48]
            have hq : (txt (pVal t) == (⟨#[]⟩ ++ t.extract f t.size : ByteArray).toList) = true := by rw [beq_iff_eq, htx, ByteArray.toList_eq, ByteArray.data_append, Array.toList_append, ← ByteArray.toList_eq (t.extract f t.size), hex]; rfl
            have hq2 : decide (txt (pVal t) = (⟨#[]⟩ ++ t.extract f t.size : ByteArray).toList) = true := by rw [decide_eq_true_eq]; exact beq_iff_eq.1 hq
            have HS := Lib.hid (And.intro htx hex)
            clear htx hex hS
            go_upto_region 16 with fail
            have B20 : Below w19.heap.size w19 w19.drew := (Below.refl _ _).drew
            have H9 := Lib.hid (And.intro (H8.out.1.below B20) (And.intro (H8.out.2.1.trans (B20.mono H8.out.2.1.size)) (And.intro (H8.out.2.2.1.below B20) (H8.out.2.2.2.below B20))))
            clear B20
            have hSS : w19.drew.cell? ⟨w18.heap.size, 0, none⟩ = some (.bool s18) ∧ w19.drew.cell? ⟨w18.heap.size, 1, none⟩ = some (.slice p18 D18.length c18) := And.intro ((H9.out.2.2.2).c0) ((H9.out.2.2.2).c1)
            go_region_held3 (fun w' => w'.cell? ⟨w18.heap.size, 0, none⟩ = some (.bool s18) ∧ w'.cell? ⟨w18.heap.size, 1, none⟩ = some (.slice p18 D18.length c18)) (first | assumption | go_keep) (first | (have hx := H10; go_at_call 11; clear hx; refine (awake_at H10.out.1).mono ?_; rintro e w22 ⟨rfl, B22⟩; have H11 := Lib.hid (And.intro (H10.out.1.below B22) (And.intro (H10.out.2.1.trans (B22.mono H10.out.2.1.size)) (And.intro (H10.out.2.2.1.below B22) (H10.out.2.2.2.below B22)))); clear B22 H10; clear hSS21; have hSS22 := And.intro ((H11.out.2.2.2).c0) ((H11.out.2.2.2).c1)) | (have hx := H9; go_at_call 15; clear hx; refine (text_nu H9.out.2.2.1 (by decide) H9.out.1).mono ?_; rintro e w21 ⟨rfl, B21⟩; have H10 := Lib.hid (And.intro (H9.out.1.below B21) (And.intro (H9.out.2.1.trans (B21.mono H9.out.2.1.size)) (And.intro (H9.out.2.2.1.below B21) (H9.out.2.2.2.below B21)))); clear B21 H9; clear hSS; have hSS21 := And.intro ((H10.out.2.2.2).c0) ((H10.out.2.2.2).c1)))
            all_goals clear hSS22
            all_goals (go_wp2_with fail; go_ret; exact ⟨rfl, H11.out.2.1⟩)
          · rw [if_pos ⟨rfl, h48⟩] at htx
            have q8 : ((t.extract f t.size).toList == [48]) = false := by rw [hex]; simp [h48]
            have hq : (txt (pVal t) == (⟨#[45]⟩ ++ t.extract f t.size : ByteArray).toList) = true := by rw [beq_iff_eq, htx, ByteArray.toList_eq, ByteArray.data_append, Array.toList_append, ← ByteArray.toList_eq (t.extract f t.size), hex]; rfl
            have hq2 : decide (txt (pVal t) = (⟨#[45]⟩ ++ t.extract f t.size : ByteArray).toList) = true := by rw [decide_eq_true_eq]; exact beq_iff_eq.1 hq
            have HS := Lib.hid (And.intro htx hex)
            clear htx hex hS
            go_upto_region 16 with fail
            have B20 : Below w19.heap.size w19 w19.drew := (Below.refl _ _).drew
            have H9 := Lib.hid (And.intro (H8.out.1.below B20) (And.intro (H8.out.2.1.trans (B20.mono H8.out.2.1.size)) (And.intro (H8.out.2.2.1.below B20) (H8.out.2.2.2.below B20))))
            clear B20
            have hSS : w19.drew.cell? ⟨w18.heap.size, 0, none⟩ = some (.bool s18) ∧ w19.drew.cell? ⟨w18.heap.size, 1, none⟩ = some (.slice p18 D18.length c18) := And.intro ((H9.out.2.2.2).c0) ((H9.out.2.2.2).c1)
            go_region_held3 (fun w' => w'.cell? ⟨w18.heap.size, 0, none⟩ = some (.bool s18) ∧ w'.cell? ⟨w18.heap.size, 1, none⟩ = some (.slice p18 D18.length c18)) (first | assumption | go_keep) (first | (have hx := H10; go_at_call 11; clear hx; refine (awake_at H10.out.1).mono ?_; rintro e w22 ⟨rfl, B22⟩; have H11 := Lib.hid (And.intro (H10.out.1.below B22) (And.intro (H10.out.2.1.trans (B22.mono H10.out.2.1.size)) (And.intro (H10.out.2.2.1.below B22) (H10.out.2.2.2.below B22)))); clear B22 H10; clear hSS21; have hSS22 := And.intro ((H11.out.2.2.2).c0) ((H11.out.2.2.2).c1)) | (have hx := H9; go_at_call 15; clear hx; refine (text_nu H9.out.2.2.1 (by decide) H9.out.1).mono ?_; rintro e w21 ⟨rfl, B21⟩; have H10 := Lib.hid (And.intro (H9.out.1.below B21) (And.intro (H9.out.2.1.trans (B21.mono H9.out.2.1.size)) (And.intro (H9.out.2.2.1.below B21) (H9.out.2.2.2.below B21)))); clear B21 H9; clear hSS; have hSS21 := And.intro ((H10.out.2.2.2).c0) ((H10.out.2.2.2).c1)))
            all_goals clear hSS22
            all_goals (go_wp2_with fail; go_ret; exact ⟨rfl, H11.out.2.1⟩)
      · by_cases h43 : (t[0].toNat : Int) = 43
        · have hf : f0 = 1 := by rw [HF.out, if_pos ⟨ht0, Or.inr (HG.out.trans h43)⟩]
          have q2 : decide ((t[0].toNat : Int) = 45) = false := by simp [h45]
          have q3 : ((t[0].toNat : Int) == 45) = false := by simp [h45]
          have q4 : decide ((t[0].toNat : Int) = 43) = true := by simp [h43]
          have q5 : ((t[0].toNat : Int) == 43) = true := by simp [h43]
          have hpn : pNeg t = false := by unfold pNeg; rw [decide_eq_false_iff_not]; exact fun h => h45 (HG.out.symm.trans h.2)
          have HPN := Lib.hid (And.intro hpn hf)
          clear hpn hf h45 h43
          go_upto_block 0 with fail
          go_cut [9] (fun v wx => ∃ k : Nat, v = .int .i64 k ∧ Hid (f0 ≤ k ∧ k + 1 ≤ t.size ∧ (∀ i, f0 ≤ i → i < k → (byL t).getD i 0 = 48) ∧ (k + 1 = t.size ∨ (byL t).getD k 0 ≠ 48) ∧ w19 = wx))
          case first =>
            clear q2 q3 q4 q5
            go_wp2_with fail
            go_loop [9] (fun v => ∃ k : Nat, v = .int .i64 k ∧ k + 1 ≤ t.size ∧ Hid (f0 ≤ k ∧ (∀ i, f0 ≤ i → i < k → (byL t).getD i 0 = 48))) (fun v => t.size - (intOf v).toNat)
            case atStart => exact ⟨f0, by rw [HPN.out.2]; rfl, hf1, Nat.le_refl _, fun i hi hi2 => by omega⟩
            case round =>
              obtain ⟨k, rfl, hk, hS⟩ := hrel
              by_cases hlt : k + 1 < t.size
              · have hkl : k < t.size := by omega
                have hgk := Lib.hid (byL_get t hkl)
                have d1 : decide ((k : Int) < (t.size : Int) - 1) = true := by rw [decide_eq_true_eq]; omega
                have d2 : (k : Int) < (t.size : Int) := by omega
                by_cases h48 : (t[k].toNat : Int) = 48
                · have q6 : decide ((t[k].toNat : Int) = 48) = true := by simp [h48]
                  have q7 : ((t[k].toNat : Int) == 48) = true := by simp [h48]
                  have HK := Lib.hid (hgk.out.trans h48)
                  clear h48 hgk
                  go_wp2_with fail
                  go_round
                  case rel =>
                    refine ⟨k + 1, by go_num, by omega, by have := hS.out.1; omega, fun i hi hi2 => ?_⟩
                    by_cases hik : i = k
                    · rw [hik]; exact HK.out
                    · exact hS.out.2 i hi (by omega)
                  case measure => simp [intOf]; omega
                · have q6 : decide ((t[k].toNat : Int) = 48) = false := by simp [h48]
                  have q7 : ((t[k].toNat : Int) == 48) = false := by simp [h48]
                  have HK := Lib.hid (fun e : (byL t).getD k 0 = 48 => h48 (hgk.out.symm.trans e))
                  clear h48 hgk
                  go_wp2_with fail
                  go_meet
                  case rel => exact ⟨k, rfl, hS.out.1, by omega, hS.out.2, Or.inr HK.out, rfl⟩
              · have d1 : decide ((k : Int) < (t.size : Int) - 1) = false := by rw [decide_eq_false_iff_not]; omega
                go_wp2_with fail
                go_meet
                case rel => exact ⟨k, rfl, hS.out.1, by omega, hS.out.2, Or.inl (by omega), rfl⟩
          case rest =>
            obtain ⟨f, rfl, hS⟩ := hcut
            have hwc := hS.out.2.2.2.2
            have hfl : f + 1 ≤ t.size := hS.out.2.1
            have hfl2 : (f : Int) ≤ (t.size : Int) := by omega
            have htx := read_txt t HD.out HF.out hS.out.1 hS.out.2.1 hS.out.2.2.1 hS.out.2.2.2.1
            have hex := ext_list t f
            have hez : ¬ 9223372036854775807 < 1 + (t.size - f) := by omega
            have hez2 : ¬ 9223372036854775807 < t.size - f := by omega
            rw [HPN.out.1, if_neg (fun h => by cases h.1)] at htx
            subst hwc
            have hq : (txt (pVal t) == (⟨#[]⟩ ++ t.extract f t.size : ByteArray).toList) = true := by rw [beq_iff_eq, htx, ByteArray.toList_eq, ByteArray.data_append, Array.toList_append, ← ByteArray.toList_eq (t.extract f t.size), hex]; rfl
            have hq2 : decide (txt (pVal t) = (⟨#[]⟩ ++ t.extract f t.size : ByteArray).toList) = true := by rw [decide_eq_true_eq]; exact beq_iff_eq.1 hq
            have HS := Lib.hid (And.intro htx hex)
            clear htx hex hS
            go_upto_region 16 with fail
            have B20 : Below w19.heap.size w19 w19.drew := (Below.refl _ _).drew
            have H9 := Lib.hid (And.intro (H8.out.1.below B20) (And.intro (H8.out.2.1.trans (B20.mono H8.out.2.1.size)) (And.intro (H8.out.2.2.1.below B20) (H8.out.2.2.2.below B20))))
            clear B20
            have hSS : w19.drew.cell? ⟨w18.heap.size, 0, none⟩ = some (.bool s18) ∧ w19.drew.cell? ⟨w18.heap.size, 1, none⟩ = some (.slice p18 D18.length c18) := And.intro ((H9.out.2.2.2).c0) ((H9.out.2.2.2).c1)
            go_region_held3 (fun w' => w'.cell? ⟨w18.heap.size, 0, none⟩ = some (.bool s18) ∧ w'.cell? ⟨w18.heap.size, 1, none⟩ = some (.slice p18 D18.length c18)) (first | assumption | go_keep) (first | (have hx := H10; go_at_call 11; clear hx; refine (awake_at H10.out.1).mono ?_; rintro e w22 ⟨rfl, B22⟩; have H11 := Lib.hid (And.intro (H10.out.1.below B22) (And.intro (H10.out.2.1.trans (B22.mono H10.out.2.1.size)) (And.intro (H10.out.2.2.1.below B22) (H10.out.2.2.2.below B22)))); clear B22 H10; clear hSS21; have hSS22 := And.intro ((H11.out.2.2.2).c0) ((H11.out.2.2.2).c1)) | (have hx := H9; go_at_call 15; clear hx; refine (text_nu H9.out.2.2.1 (by decide) H9.out.1).mono ?_; rintro e w21 ⟨rfl, B21⟩; have H10 := Lib.hid (And.intro (H9.out.1.below B21) (And.intro (H9.out.2.1.trans (B21.mono H9.out.2.1.size)) (And.intro (H9.out.2.2.1.below B21) (H9.out.2.2.2.below B21)))); clear B21 H9; clear hSS; have hSS21 := And.intro ((H10.out.2.2.2).c0) ((H10.out.2.2.2).c1)))
            all_goals clear hSS22
            all_goals (go_wp2_with fail; go_ret; exact ⟨rfl, H11.out.2.1⟩)
        · have hf : f0 = 0 := by rw [HF.out, if_neg (fun h => h.2.elim (fun e => h45 (HG.out.symm.trans e)) (fun e => h43 (HG.out.symm.trans e)))]
          have q2 : decide ((t[0].toNat : Int) = 45) = false := by simp [h45]
          have q3 : ((t[0].toNat : Int) == 45) = false := by simp [h45]
          have q4 : decide ((t[0].toNat : Int) = 43) = false := by simp [h43]
          have q5 : ((t[0].toNat : Int) == 43) = false := by simp [h43]
          have hpn : pNeg t = false := by unfold pNeg; rw [decide_eq_false_iff_not]; exact fun h => h45 (HG.out.symm.trans h.2)
          have HPN := Lib.hid (And.intro hpn hf)
          clear hpn hf h45 h43
          go_upto_block 0 with fail
          go_cut [9] (fun v wx => ∃ k : Nat, v = .int .i64 k ∧ Hid (f0 ≤ k ∧ k + 1 ≤ t.size ∧ (∀ i, f0 ≤ i → i < k → (byL t).getD i 0 = 48) ∧ (k + 1 = t.size ∨ (byL t).getD k 0 ≠ 48) ∧ w19 = wx))
          case first =>
            clear q2 q3 q4 q5
            go_wp2_with fail
            go_loop [9] (fun v => ∃ k : Nat, v = .int .i64 k ∧ k + 1 ≤ t.size ∧ Hid (f0 ≤ k ∧ (∀ i, f0 ≤ i → i < k → (byL t).getD i 0 = 48))) (fun v => t.size - (intOf v).toNat)
            case atStart => exact ⟨f0, by rw [HPN.out.2]; rfl, hf1, Nat.le_refl _, fun i hi hi2 => by omega⟩
            case round =>
              obtain ⟨k, rfl, hk, hS⟩ := hrel
              by_cases hlt : k + 1 < t.size
              · have hkl : k < t.size := by omega
                have hgk := Lib.hid (byL_get t hkl)
                have d1 : decide ((k : Int) < (t.size : Int) - 1) = true := by rw [decide_eq_true_eq]; omega
                have d2 : (k : Int) < (t.size : Int) := by omega
                by_cases h48 : (t[k].toNat : Int) = 48
                · have q6 : decide ((t[k].toNat : Int) = 48) = true := by simp [h48]
                  have q7 : ((t[k].toNat : Int) == 48) = true := by simp [h48]
                  have HK := Lib.hid (hgk.out.trans h48)
                  clear h48 hgk
                  go_wp2_with fail
                  go_round
                  case rel =>
                    refine ⟨k + 1, by go_num, by omega, by have := hS.out.1; omega, fun i hi hi2 => ?_⟩
                    by_cases hik : i = k
                    · rw [hik]; exact HK.out
                    · exact hS.out.2 i hi (by omega)
                  case measure => simp [intOf]; omega
                · have q6 : decide ((t[k].toNat : Int) = 48) = false := by simp [h48]
                  have q7 : ((t[k].toNat : Int) == 48) = false := by simp [h48]
                  have HK := Lib.hid (fun e : (byL t).getD k 0 = 48 => h48 (hgk.out.symm.trans e))
                  clear h48 hgk
                  go_wp2_with fail
                  go_meet
                  case rel => exact ⟨k, rfl, hS.out.1, by omega, hS.out.2, Or.inr HK.out, rfl⟩
              · have d1 : decide ((k : Int) < (t.size : Int) - 1) = false := by rw [decide_eq_false_iff_not]; omega
                go_wp2_with fail
                go_meet
                case rel => exact ⟨k, rfl, hS.out.1, by omega, hS.out.2, Or.inl (by omega), rfl⟩
          case rest =>
            obtain ⟨f, rfl, hS⟩ := hcut
            have hwc := hS.out.2.2.2.2
            have hfl : f + 1 ≤ t.size := hS.out.2.1
            have hfl2 : (f : Int) ≤ (t.size : Int) := by omega
            have htx := read_txt t HD.out HF.out hS.out.1 hS.out.2.1 hS.out.2.2.1 hS.out.2.2.2.1
            have hex := ext_list t f
            have hez : ¬ 9223372036854775807 < 1 + (t.size - f) := by omega
            have hez2 : ¬ 9223372036854775807 < t.size - f := by omega
            rw [HPN.out.1, if_neg (fun h => by cases h.1)] at htx
            subst hwc
            have hq : (txt (pVal t) == (⟨#[]⟩ ++ t.extract f t.size : ByteArray).toList) = true := by rw [beq_iff_eq, htx, ByteArray.toList_eq, ByteArray.data_append, Array.toList_append, ← ByteArray.toList_eq (t.extract f t.size), hex]; rfl
            have hq2 : decide (txt (pVal t) = (⟨#[]⟩ ++ t.extract f t.size : ByteArray).toList) = true := by rw [decide_eq_true_eq]; exact beq_iff_eq.1 hq
            have HS := Lib.hid (And.intro htx hex)
            clear htx hex hS
            go_upto_region 16 with fail
            have B20 : Below w19.heap.size w19 w19.drew := (Below.refl _ _).drew
            have H9 := Lib.hid (And.intro (H8.out.1.below B20) (And.intro (H8.out.2.1.trans (B20.mono H8.out.2.1.size)) (And.intro (H8.out.2.2.1.below B20) (H8.out.2.2.2.below B20))))
            clear B20
            have hSS : w19.drew.cell? ⟨w18.heap.size, 0, none⟩ = some (.bool s18) ∧ w19.drew.cell? ⟨w18.heap.size, 1, none⟩ = some (.slice p18 D18.length c18) := And.intro ((H9.out.2.2.2).c0) ((H9.out.2.2.2).c1)
            go_region_held3 (fun w' => w'.cell? ⟨w18.heap.size, 0, none⟩ = some (.bool s18) ∧ w'.cell? ⟨w18.heap.size, 1, none⟩ = some (.slice p18 D18.length c18)) (first | assumption | go_keep) (first | (have hx := H10; go_at_call 11; clear hx; refine (awake_at H10.out.1).mono ?_; rintro e w22 ⟨rfl, B22⟩; have H11 := Lib.hid (And.intro (H10.out.1.below B22) (And.intro (H10.out.2.1.trans (B22.mono H10.out.2.1.size)) (And.intro (H10.out.2.2.1.below B22) (H10.out.2.2.2.below B22)))); clear B22 H10; clear hSS21; have hSS22 := And.intro ((H11.out.2.2.2).c0) ((H11.out.2.2.2).c1)) | (have hx := H9; go_at_call 15; clear hx; refine (text_nu H9.out.2.2.1 (by decide) H9.out.1).mono ?_; rintro e w21 ⟨rfl, B21⟩; have H10 := Lib.hid (And.intro (H9.out.1.below B21) (And.intro (H9.out.2.1.trans (B21.mono H9.out.2.1.size)) (And.intro (H9.out.2.2.1.below B21) (H9.out.2.2.2.below B21)))); clear B21 H9; clear hSS; have hSS21 := And.intro ((H10.out.2.2.2).c0) ((H10.out.2.2.2).c1)))
            all_goals clear hSS22
            all_goals (go_wp2_with fail; go_ret; exact ⟨rfl, H11.out.2.1⟩)
    · have hd2 : isDec (pBody t) = false := by simpa using hd
      go_wp2_with fail
      refine (parse_bad h3 hd2 w14).mono ?_
      rintro e w18 ⟨rfl, B18⟩
      have H7 := Lib.hid (And.intro (H6.out.1.below B18) (H6.out.2.trans (B18.mono H6.out.2.size)))
      clear B18
      obtain ⟨w19, hw19⟩ : ∃ w19, w19 = w18.alloc (.cells #[.bool false, .slice none 0 0] 24) := ⟨_, rfl⟩
      have B19 : Below w18.heap.size w18 w19 := by rw [hw19]; exact (Below.refl _ _).alloc (Nat.le_refl _) _
      have X19 : Box w19 w18.heap.size (.bool false) (.slice none 0 0) := by rw [hw19]; exact Box.fresh _ _ _ rfl
      have H8 := Lib.hid (And.intro (H7.out.1.below B19) (And.intro (H7.out.2.trans (B19.mono H7.out.2.size)) X19))
      clear X19 B19
      go_upto_region 7 with fail
      rw [← hw19]
      clear hw19
      have yXc := H8.out.2.2
      have yXc0 := yXc.c0
      have yXc1 := yXc.c1
      clear yXc
      go_wp2_with fail
      clear yXc0 yXc1
      refine (awake_at H8.out.1).mono ?_
      rintro e w20 ⟨rfl, B20⟩
      have H9 := Lib.hid (And.intro (H8.out.1.below B20) (And.intro (H8.out.2.1.trans (B20.mono H8.out.2.1.size)) (H8.out.2.2.below B20)))
      clear B20
      go_wp2_with fail
      go_ret
      exact ⟨rfl, H9.out.2.1⟩
end Go.Proofs.YtihgefllmkicaaaDoor
