/- Contracts: the document's strings. Conditions: none. -/
import Derived.Test.YtgnnkfdpfmlajaaDoorLxCa
import Derived.Test.YtgnnkfdpfmlajaaDoorLxBd
namespace Go.Proofs.YtgnnkfdpfmlajaaDoor
open Go.RowKit Bg Lx
set_option linter.unusedVariables false
set_option linter.unusedSimpArgs false

def strV (V : List Int × Int × Int × Int) : Value := .tuple #[.string (strOfNums V.1), .int .i64 V.2.1, .int .i64 V.2.2.1, .int .i64 V.2.2.2]
theorem sr_none {l : List Int} {f k : Nat} {out : List Int} (h : k < l.length) (h34 : l.getD k 0 ≠ 34) (h92 : l.getD k 0 ≠ 92) (e : chr (l.drop k) = none) : str f k (l.drop k) out = ([], 0, 4, (k : Int)) := by
  rw [str, dif_neg (drop_ne h), if_neg (by rw [drop_head]; exact h34), if_pos (by rw [drop_head]; exact h92)]
  simp only [e]
theorem sr_chr {l : List Int} {f k : Nat} {out : List Int} {c : Int} {n : Nat} (h : k < l.length) (h34 : l.getD k 0 ≠ 34) (h92 : l.getD k 0 ≠ 92) (e : chr (l.drop k) = some (c, n)) (hn : 1 ≤ n) : str f k (l.drop k) out = str f ((k + n : Nat) : Int) (l.drop (k + n)) (out ++ (l.drop k).take n) := by
  rw [str, dif_neg (drop_ne h), if_neg (by rw [drop_head]; exact h34), if_pos (by rw [drop_head]; exact h92)]
  simp only [e]
  rw [List.drop_drop, show k + (n - 1 + 1) = k + n by omega]
  rfl
theorem sr_esc {l : List Int} {f k : Nat} {out : List Int} (h : k + 1 < l.length) (h92 : l.getD k 0 = 92) : str f k (l.drop k) out = if l.getD (k + 1) 0 = 34 ∨ l.getD (k + 1) 0 = 92 then str f ((k + 2 : Nat) : Int) (l.drop (k + 2)) (out ++ [l.getD (k + 1) 0]) else if l.getD (k + 1) 0 = 110 then str f ((k + 2 : Nat) : Int) (l.drop (k + 2)) (out ++ [10]) else if l.getD (k + 1) 0 = 116 then str f ((k + 2 : Nat) : Int) (l.drop (k + 2)) (out ++ [9]) else if l.getD (k + 1) 0 = 120 ∧ atS (l.drop (k + 2 + (hexs (l.drop (k + 2))).length)) [59] = true ∧ 0 ≤ hexL (hexs (l.drop (k + 2))) then str f ((k + 2 + (hexs (l.drop (k + 2))).length + 1 : Nat) : Int) (l.drop (k + 2 + (hexs (l.drop (k + 2))).length + 1)) (out ++ enc (hexL (hexs (l.drop (k + 2))))) else ([], 0, 4, (k : Int)) := by
  rw [str, dif_neg (drop_ne (by omega)), if_neg (by rw [drop_head, h92]; decide), if_neg (fun h => h (by rw [drop_head]; exact h92)), if_neg (by rw [List.length_drop]; omega)]
  simp only [drop_getD, List.drop_drop]
  rw [show k + (2 + (hexs (l.drop (k + 2))).length + 1) = k + 2 + (hexs (l.drop (k + 2))).length + 1 by omega]
  rfl
theorem hex_one (c : Int) (hc : 0 ≤ c ∧ c < 256) : decide (0 ≤ hexL [48, c]) = decide (0 ≤ hexD c) := by
  have e : hexF [48, c] 0 = hexF [c] 0 := by rw [hexF, if_neg (by decide), show cap (16 * 0 + hexD 48) = 0 by decide]
  unfold hexL
  rw [if_neg (by simp), e, hexF]
  by_cases h : hexD c < 0
  · rw [if_pos h]
    have h2 : isC (-1) = false := by decide
    rw [h2]
    simp
    omega
  · rw [if_neg h]
    have h3 : hexD c ≤ 15 := by unfold hexD; split; omega; split; omega; split; omega; omega
    have h4 : cap (16 * 0 + hexD c) = hexD c := by unfold cap; rw [if_neg (by omega)]; omega
    unfold hexF
    rw [h4]
    have h5 : isC (hexD c) = true := by unfold isC; simp; omega
    rw [h5, if_pos rfl]
theorem hexs_step {l : List Int} {j : Nat} (h : j < l.length) : (hexs (l.drop j)).length = if 0 ≤ hexD (l.getD j 0) then (hexs (l.drop (j + 1))).length + 1 else 0 := by
  have e : l.drop j = l.getD j 0 :: l.drop (j + 1) := by
    rw [List.drop_eq_getElem_cons h, List.getD_eq_getElem?_getD, List.getElem?_eq_getElem h]
    rfl
  rw [e]
  unfold hexs
  rw [List.takeWhile_cons]
  by_cases h0 : 0 ≤ hexD (l.getD j 0)
  · rw [if_pos (decide_eq_true h0), if_pos h0, List.length_cons]
  · rw [if_neg (by rw [decide_eq_false h0]; simp), if_neg h0]
    rfl
set_option maxRecDepth 100000 in
set_option maxHeartbeats 6000000 in
theorem rstring_at {w : World} {p : Option Addr} {c : Nat} {l : List Int} (a : Arg .u8 w p c l) (hb : Byts l) (hl : l.length ≤ 1000000) (i : Nat) (hi : i < l.length) :
    Calls Tryd.prog 22 #[.slice p l.length c, .int .i64 i] w fun e w' => e = .returned (strV (str (i : Int) ((i : Int) + 1) (l.drop (i + 1)) [])) ∧ Below w.heap.size w w' := by
  obtain ⟨g, off, rfl, -⟩ := a.at (by omega)
  have hle := a.le
  have hmx := a.max
  obtain ⟨V, hV⟩ : ∃ V, V = str (i : Int) ((i : Int) + 1) (l.drop (i + 1)) [] := ⟨_, rfl⟩
  rw [← hV]
  have HA := Lib.hid (And.intro a (And.intro hb hV))
  have hw1 : IntKind.i64.wrap ((i : Int) + 1) = (i : Int) + 1 := by rw [wrap_small _ (by omega) (by omega)]
  clear a hb hV
  go_enter Tryd.func22, Tryd.ntmps22
  go_wp2_with fail
  clear hw1
  go_loopw [8, 9, 10, 11, 12, 13, 14, 15] (fun v t _ _ _ _ _ _ wr => ∃ (k : Nat) (out : List Int), t = .int .i64 k ∧ i < k ∧ k ≤ l.length ∧ Hid (Below w.heap.size w wr ∧ Own 5 .u8 w.heap.size wr v out ∧ out.length ≤ 4 * k ∧ str (i : Int) (k : Int) (l.drop k) out = V)) (fun _ t _ _ _ _ _ _ _ => l.length - (intOf t).toNat)
  case atStart => exact ⟨i + 1, [], rfl, Nat.lt_succ_self _, hi, Lib.hid ⟨Below.refl _ _, Own.nil _ _ _ _, Nat.zero_le _, HA.out.2.2.symm⟩⟩
  case round =>
    obtain ⟨k, out, rfl, hfk, hk, HK⟩ := hrel
    by_cases hlt : k < l.length
    · have f1 : (k : Int) < (l.length : Int) := by omega
      have d1 : decide ((k : Int) < (l.length : Int)) = true := by rw [decide_eq_true_eq]; exact f1
      have hg := (HA.out.1.below HK.out.1).some_at k hlt
      have hx := HA.out.2.1.getD k
      obtain ⟨x, hxe⟩ : ∃ x, x = l.getD k 0 := ⟨_, rfl⟩
      rw [← hxe] at hg hx
      have HX := Lib.hid hxe
      have hw1 : IntKind.i64.wrap ((k : Int) + 1) = (k : Int) + 1 := by rw [wrap_small _ (by omega) (by omega)]
      clear hxe
      by_cases x34 : x = 34
      · subst x34
        have hv := HK.out.2.2.2
        rw [str_shut _ _ _ (drop_ne hlt) (by rw [drop_head]; exact HX.out.symm)] at hv
        have HV := Lib.hid hv
        obtain ⟨p2, c2, hu8, arg2, -⟩ := HK.out.2.1.arg
        have CV := conv_arg arg2
        subst hu8
        obtain ⟨sv, hsv⟩ : ∃ sv, sv = strOfNums out := ⟨_, rfl⟩
        rw [← hsv] at CV
        have HC := Lib.hid (And.intro hsv HK.out.1)
        clear hv arg2 hsv
        go_wp2_with fail
        rw [HC.out.1]
        refine bodyPost_ret (v := (.tuple #[.string (strOfNums out), .int .i64 ((k : Int) + 1), .int .i64 0, .int .i64 0])) (by simp [results, Tryd.results22, go_sem]) rfl ?_
        rw [← HV.out]
        exact ⟨rfl, HC.out.2⟩
      · have y34 : (x == 34) = false := by rw [beq_eq_false_iff_ne]; exact x34
        by_cases x92 : x = 92
        · subst x92
          by_cases hcut : k + 1 = l.length
          · have hv := HK.out.2.2.2
            rw [str_cut _ _ _ (drop_ne hlt) (by rw [drop_head]; exact HX.out.symm) (by rw [List.length_drop]; omega)] at hv
            have HV := Lib.hid hv
            have z2 : (k : Int) + 1 = (l.length : Int) := by omega
            clear hv hw1
            have hw1 : IntKind.i64.wrap ((k : Int) + 1) = (l.length : Int) := by rw [wrap_small _ (by omega) (by omega)]; exact z2
            clear hcut
            go_wp2_with fail
            refine bodyPost_ret (v := (.tuple #[.string { data := #[] }, .int .i64 0, .int .i64 4, .int .i64 i])) (by simp [results, Tryd.results22, go_sem]) rfl ?_
            rw [← HV.out]
            exact ⟨rfl, HK.out.1⟩
          · have z2 : ¬ (k : Int) + 1 = (l.length : Int) := by omega
            have z1 : (((k : Int) + 1) == (l.length : Int)) = false := by rw [beq_eq_false_iff_ne]; exact z2
            have hv := HK.out.2.2.2
            rw [sr_esc (by omega) HX.out.symm] at hv
            have hg2 := (HA.out.1.below HK.out.1).some_at (k + 1) (by omega)
            have hg2c := hg2
            rw [show off + (k + 1) = off + k + 1 by omega] at hg2c
            have hy := HA.out.2.1.getD (k + 1)
            obtain ⟨y, hye⟩ : ∃ y, y = l.getD (k + 1) 0 := ⟨_, rfl⟩
            rw [← hye] at hg2 hg2c hy hv
            have f2 : (k : Int) + 1 < (l.length : Int) := by omega
            have hwk2 : IntKind.i64.wrap ((k : Int) + 2) = (k : Int) + 2 := by rw [wrap_small _ (by omega) (by omega)]
            clear hye
            by_cases hq : y = 34 ∨ y = 92
            · rw [if_pos hq] at hv
              obtain ⟨v3, w3, hr, o3, b3⟩ := app_two kt8 (x := y) HK.out.2.1 (by have := HK.out.2.2.1; omega) HK.out.1.size
              have HR := Lib.hid (And.intro hr (And.intro o3 (HK.out.1.trans b3)))
              have HV := Lib.hid hv
              clear hr o3 b3 hv
              rcases hq with rfl | rfl
              · skip
                go_wp2_with (at_builtin; go_loud (refine Lib.wpList_append_run _ rfl _ _ 22 22 rfl u8 (.slice (some ⟨wr.heap.size, 0, none⟩) 1 1) rfl rfl v3 w3 HR.out.1 ?_))
                go_roundw
                case rel => exact ⟨k + 2, _, rfl, by omega, by omega, Lib.hid ⟨HR.out.2.2, HR.out.2.1, by have := HK.out.2.2.1; simp; omega, HV.out⟩⟩
                case measure => (simp only [intOf]; omega)
              · skip
                go_wp2_with (at_builtin; go_loud (refine Lib.wpList_append_run _ rfl _ _ 22 22 rfl u8 (.slice (some ⟨wr.heap.size, 0, none⟩) 1 1) rfl rfl v3 w3 HR.out.1 ?_))
                go_roundw
                case rel => exact ⟨k + 2, _, rfl, by omega, by omega, Lib.hid ⟨HR.out.2.2, HR.out.2.1, by have := HK.out.2.2.1; simp; omega, HV.out⟩⟩
                case measure => (simp only [intOf]; omega)
            · rw [if_neg hq] at hv
              have b34 : (y == 34) = false := by rw [beq_eq_false_iff_ne]; exact fun h => hq (Or.inl h)
              have b92 : (y == 92) = false := by rw [beq_eq_false_iff_ne]; exact fun h => hq (Or.inr h)
              by_cases h110 : y = 110
              · rw [if_pos h110] at hv
                obtain ⟨v3, w3, hr, o3, b3⟩ := app_two kt8 (x := 10) HK.out.2.1 (by have := HK.out.2.2.1; omega) HK.out.1.size
                have HR := Lib.hid (And.intro hr (And.intro o3 (HK.out.1.trans b3)))
                have HV := Lib.hid hv
                clear hr o3 b3 hv
                subst h110
                go_wp2_with (at_builtin; go_loud (refine Lib.wpList_append_run _ rfl _ _ 22 22 rfl u8 (.slice (some ⟨wr.heap.size, 0, none⟩) 1 1) rfl rfl v3 w3 HR.out.1 ?_))
                go_roundw
                case rel => exact ⟨k + 2, _, rfl, by omega, by omega, Lib.hid ⟨HR.out.2.2, HR.out.2.1, by have := HK.out.2.2.1; simp; omega, HV.out⟩⟩
                case measure => (simp only [intOf]; omega)
              · rw [if_neg h110] at hv
                have b110 : (y == 110) = false := by rw [beq_eq_false_iff_ne]; exact h110
                by_cases h116 : y = 116
                · rw [if_pos h116] at hv
                  obtain ⟨v3, w3, hr, o3, b3⟩ := app_two kt8 (x := 9) HK.out.2.1 (by have := HK.out.2.2.1; omega) HK.out.1.size
                  have HR := Lib.hid (And.intro hr (And.intro o3 (HK.out.1.trans b3)))
                  have HV := Lib.hid hv
                  clear hr o3 b3 hv
                  subst h116
                  go_wp2_with (at_builtin; go_loud (refine Lib.wpList_append_run _ rfl _ _ 22 22 rfl u8 (.slice (some ⟨wr.heap.size, 0, none⟩) 1 1) rfl rfl v3 w3 HR.out.1 ?_))
                  go_roundw
                  case rel => exact ⟨k + 2, _, rfl, by omega, by omega, Lib.hid ⟨HR.out.2.2, HR.out.2.1, by have := HK.out.2.2.1; simp; omega, HV.out⟩⟩
                  case measure => (simp only [intOf]; omega)
                · rw [if_neg h116] at hv
                  have b116 : (y == 116) = false := by rw [beq_eq_false_iff_ne]; exact h116
                  obtain ⟨X, hX⟩ : ∃ X, X = hexs (l.drop (k + 2)) := ⟨_, rfl⟩
                  obtain ⟨h, hh⟩ : ∃ h, h = X.length := ⟨_, rfl⟩
                  obtain ⟨N, hN⟩ : ∃ N, N = hexL X := ⟨_, rfl⟩
                  rw [← hX, ← hN, ← hh] at hv
                  have hXle := hexs_le (l.drop (k + 2))
                  rw [← hX, ← hh, List.length_drop] at hXle
                  have hXb : Byts X := by rw [hX, hexs_is (l.drop (k + 2))]; exact (HA.out.2.1.drop _).take _
                  have HH := Lib.hid (And.intro hX (And.intro hh (And.intro hN (And.intro hXb hv))))
                  clear hX hh hN hXb hv
                  go_wp2_with fail
                  go_loop [15] (fun v => ∃ j : Nat, v = .int .i64 j ∧ k + 2 ≤ j ∧ j ≤ l.length ∧ Hid (j + (hexs (l.drop j)).length = k + 2 + h)) (fun v => l.length - (intOf v).toNat)
                  case atStart => exact ⟨k + 2, rfl, Nat.le_refl _, by omega, Lib.hid (by rw [HH.out.2.1, HH.out.1])⟩
                  case round =>
                    obtain ⟨j, rfl, hj1, hj2, HJ0⟩ := hrel
                    by_cases hjl : j < l.length
                    · have j1 : (j : Int) < (l.length : Int) := by omega
                      have j2 : decide ((j : Int) < (l.length : Int)) = true := by rw [decide_eq_true_eq]; exact j1
                      have hst := hexs_step hjl
                      have hz := HA.out.2.1.getD j
                      have CV := conv_arg (slice_of (HA.out.1.below HK.out.1) (k := j) (n := 1) (by omega))
                      rw [show (l.drop j).take 1 = [l.getD j 0] by rw [List.drop_eq_getElem_cons hjl, List.getD_eq_getElem?_getD, List.getElem?_eq_getElem hjl]; rfl] at CV
                      obtain ⟨z, hze⟩ : ∃ z, z = l.getD j 0 := ⟨_, rfl⟩
                      rw [← hze] at hst hz CV
                      have hzb : Byts [z] := by rw [hze]; have := HA.out.2.1.take (j + 1) |>.drop j; intro q hq; simp at hq; rw [hq]; exact HA.out.2.1.getD j
                      have TH := hex_at (({ data := #[48] } : ByteArray) ++ strOfNums [z]) (by rw [ByteArray.size_append, str_size]; exact (by decide : (1 + 1 : Nat) ≤ 20000000)) wr
                      rw [byL_app, byL_str hzb, show byL ({ data := #[48] } : ByteArray) = [48] from rfl, show ([48] ++ [z] : List Int) = [48, z] from rfl] at TH
                      have ho := hex_one z hz
                      obtain ⟨Nz, hNz⟩ : ∃ n, n = hexL [48, z] := ⟨_, rfl⟩
                      rw [← hNz] at TH ho
                      obtain ⟨tz, htz⟩ : ∃ t, t = strOfNums [z] := ⟨_, rfl⟩
                      rw [← htz] at TH CV
                      rw [show ([z] : List Int).length = 1 from rfl] at CV
                      have s1 : ¬ 9223372036854775807 < 1 + tz.size := by rw [htz, str_size]; exact (by decide : ¬ 9223372036854775807 < 1 + 1)
                      replace TH := Lib.hid TH
                      have g5 : (j : Int) ≤ (j : Int) + 1 := by omega
                      have g6 : (j : Int) + 1 ≤ (c : Int) := by omega
                      have g7 : ¬ c = j := by omega
                      have hwj1 : IntKind.i64.wrap ((j : Int) + 1) = (j : Int) + 1 := by rw [wrap_small _ (by omega) (by omega)]
                      clear hze hzb hNz htz
                      by_cases hd : 0 ≤ hexD z
                      · rw [decide_eq_true hd] at ho
                        rw [if_pos hd] at hst
                        have o2 : 0 ≤ Nz := of_decide_eq_true ho
                        have HJ1 := Lib.hid (show j + 1 + (hexs (l.drop (j + 1))).length = k + 2 + h by have := HJ0.out; omega)
                        clear hst hd
                        go_wp2_with (go_at_call 33; refine TH.out.mono ?_; rintro e w' ⟨rfl, rfl⟩)
                        go_round
                        case rel => exact ⟨j + 1, rfl, by omega, by omega, HJ1⟩
                        case measure => (simp only [intOf]; omega)
                      · rw [decide_eq_false hd] at ho
                        rw [if_neg hd] at hst
                        have o2 : ¬ 0 ≤ Nz := of_decide_eq_false ho
                        have hj3 : j = k + 2 + h := by have := HJ0.out; omega
                        have hj0 := Lib.hid hj3
                        clear hst hd hj3
                        go_upto_region 27 with (go_at_call 33; refine TH.out.mono ?_; rintro e w' ⟨rfl, rfl⟩)
                        clear CV TH ho o2
                        obtain ⟨hX, hh, hN, hXb, hv⟩ := HH.out
                        have hj3 := hj0.out
                        obtain ⟨a59, ha59⟩ : ∃ b, b = atS (l.drop (k + 2 + h)) [59] := ⟨_, rfl⟩
                        rw [← ha59] at hv
                        have T20 := at_at (HA.out.1.below HK.out.1) HA.out.2.1 (by omega) j (by omega) (t := [59]) (lit_byts (by decide)) (by simp) (by simp)
                        rw [hj3, ← ha59, ← hj3, show strOfNums [59] = ({ data := #[59] } : ByteArray) from rfl] at T20
                        have hXt : X = (l.drop (k + 2)).take h := by rw [hX, hh, ← hX, hX]; exact hexs_is _
                        have CV2 := conv_arg (slice_of (HA.out.1.below HK.out.1) (k := k + 2) (n := h) (by omega))
                        rw [← hXt] at CV2
                        have hXl : X.length = h := hh.symm
                        rw [hXl, show h = j - (k + 2) by omega] at CV2
                        have TX := hex_at (strOfNums X) (by rw [str_size, hXl]; omega) wr
                        rw [byL_str hXb, ← hN] at TX
                        obtain ⟨sx, hsx⟩ : ∃ sx, sx = strOfNums X := ⟨_, rfl⟩
                        rw [← hsx] at TX CV2
                        rw [← hj3] at hv
                        have HJ := Lib.hid (And.intro hj3 (And.intro hXl hsx))
                        have hatl : a59 = true → j < l.length := by
                          intro e
                          rw [ha59, ← hj3] at e
                          rcases Nat.lt_or_ge j l.length with h | h
                          · exact h
                          · rw [List.drop_eq_nil_of_le h] at e
                            exact absurd e (by decide)
                        replace T20 := Lib.hid T20
                        replace TX := Lib.hid TX
                        have g1 : (k : Int) + 2 ≤ (j : Int) := by omega
                        have g2 : (j : Int) ≤ (c : Int) := by omega
                        have g3 : ¬ (k : Int) + 2 < 0 := by omega
                        have hwj : IntKind.i64.wrap ((j : Int) + 1) = (j : Int) + 1 := by rw [wrap_small _ (by omega) (by omega)]
                        have hNc := Lib.hid (show 0 ≤ N → isC N = true from fun e => by rw [hN]; exact hexL_char (by rw [← hN]; exact e))
                        clear ha59 hXt hXl hsx hj3 hg hg2 hg2c hX hh hN hXb
                        by_cases c120 : y = 120
                        · subst c120
                          cases a59 with
                          | false =>
                            rw [if_neg (fun h => by cases h.2.1)] at hv
                            clear CV2 hatl
                            have HV := Lib.hid hv
                            clear hv
                            go_wp2_with (first | (go_at_call 20; refine T20.out.mono ?_; rintro e w' ⟨rfl, rfl⟩) | (go_at_call 33; refine TX.out.mono ?_; rintro e w' ⟨rfl, rfl⟩))
                            refine bodyPost_ret (v := (.tuple #[.string { data := #[] }, .int .i64 0, .int .i64 4, .int .i64 k])) (by simp [results, Tryd.results22, go_sem]) rfl ?_
                            rw [← HV.out]
                            exact ⟨rfl, HK.out.1⟩
                          | true =>
                            have hjl := hatl rfl
                            have g4 : ¬ c = k + 2 := by omega
                            clear hatl
                            by_cases hNn : 0 ≤ N
                            · rw [if_pos ⟨rfl, rfl, hNn⟩] at hv
                              have nn1 : decide (N < 0) = false := by rw [decide_eq_false_iff_not]; omega
                              have nn2 : ¬ N < 0 := by omega
                              have T32 := Lib.hid (bytes_at N (hNc.out hNn) wr)
                              have HV := Lib.hid hv
                              clear hv
                              go_wp2_with (first | (go_at_call 20; refine T20.out.mono ?_; rintro e w' ⟨rfl, rfl⟩) | (go_at_call 33; refine TX.out.mono ?_; rintro e w' ⟨rfl, rfl⟩))
                              refine T32.out.mono ?_
                              rintro e w2 ⟨v2, rfl, o2, b2⟩
                              obtain ⟨p2, c2, rfl, arg2, -⟩ := o2.arg
                              have B2 := HK.out.1.trans (b2.mono HK.out.1.size)
                              have hen := enc_len N
                              obtain ⟨v3, w3, hr, o3, -, b3⟩ := app_row kt8 (HK.out.2.1.below b2) arg2 (by have := HK.out.2.2.1; omega) B2.size
                              have HR := Lib.hid (And.intro hr (And.intro o3 (B2.trans b3)))
                              clear b2 o2 B2 hr o3 b3 arg2 CV2
                              go_wp2_with (at_builtin; go_loud (refine Lib.wpList_append_run _ rfl _ _ 22 22 rfl u8 (.slice p2 (enc N).length c2) rfl rfl v3 w3 HR.out.1 ?_))
                              go_roundw
                              case rel =>
                                refine ⟨j + 1, _, rfl, by omega, by omega, Lib.hid ⟨HR.out.2.2, HR.out.2.1, ?_, HV.out⟩⟩
                                have := HK.out.2.2.1
                                rw [List.length_append]
                                omega
                              case measure => (simp only [intOf]; omega)
                            · rw [if_neg (fun h => hNn h.2.2)] at hv
                              have nn1 : decide (N < 0) = true := by rw [decide_eq_true_eq]; omega
                              have nn2 : N < 0 := by omega
                              have HV := Lib.hid hv
                              clear hv
                              go_wp2_with (first | (go_at_call 20; refine T20.out.mono ?_; rintro e w' ⟨rfl, rfl⟩) | (go_at_call 33; refine TX.out.mono ?_; rintro e w' ⟨rfl, rfl⟩))
                              refine bodyPost_ret (v := (.tuple #[.string { data := #[] }, .int .i64 0, .int .i64 4, .int .i64 k])) (by simp [results, Tryd.results22, go_sem]) rfl ?_
                              rw [← HV.out]
                              exact ⟨rfl, HK.out.1⟩
                        · have y120 : (y == 120) = false := by rw [beq_eq_false_iff_ne]; exact c120
                          rw [if_neg (fun h => c120 h.1)] at hv
                          clear CV2 hatl
                          have HV := Lib.hid hv
                          clear hv
                          go_wp2_with (first | (go_at_call 20; refine T20.out.mono ?_; rintro e w' ⟨rfl, rfl⟩) | (go_at_call 33; refine TX.out.mono ?_; rintro e w' ⟨rfl, rfl⟩))
                          refine bodyPost_ret (v := (.tuple #[.string { data := #[] }, .int .i64 0, .int .i64 4, .int .i64 k])) (by simp [results, Tryd.results22, go_sem]) rfl ?_
                          rw [← HV.out]
                          exact ⟨rfl, HK.out.1⟩
                    · have j1 : ¬ (j : Int) < (l.length : Int) := by omega
                      have j2 : decide ((j : Int) < (l.length : Int)) = false := by rw [decide_eq_false_iff_not]; exact j1
                      have hj0 := Lib.hid (show j = k + 2 + h by have := HJ0.out; rw [List.drop_eq_nil_of_le (by omega)] at this; simpa [hexs] using this)
                      go_upto_region 27 with fail
                      obtain ⟨hX, hh, hN, hXb, hv⟩ := HH.out
                      have hj3 := hj0.out
                      obtain ⟨a59, ha59⟩ : ∃ b, b = atS (l.drop (k + 2 + h)) [59] := ⟨_, rfl⟩
                      rw [← ha59] at hv
                      have T20 := at_at (HA.out.1.below HK.out.1) HA.out.2.1 (by omega) j (by omega) (t := [59]) (lit_byts (by decide)) (by simp) (by simp)
                      rw [hj3, ← ha59, ← hj3, show strOfNums [59] = ({ data := #[59] } : ByteArray) from rfl] at T20
                      have hXt : X = (l.drop (k + 2)).take h := by rw [hX, hh, ← hX, hX]; exact hexs_is _
                      have CV2 := conv_arg (slice_of (HA.out.1.below HK.out.1) (k := k + 2) (n := h) (by omega))
                      rw [← hXt] at CV2
                      have hXl : X.length = h := hh.symm
                      rw [hXl, show h = j - (k + 2) by omega] at CV2
                      have TX := hex_at (strOfNums X) (by rw [str_size, hXl]; omega) wr
                      rw [byL_str hXb, ← hN] at TX
                      obtain ⟨sx, hsx⟩ : ∃ sx, sx = strOfNums X := ⟨_, rfl⟩
                      rw [← hsx] at TX CV2
                      rw [← hj3] at hv
                      have HJ := Lib.hid (And.intro hj3 (And.intro hXl hsx))
                      have hatl : a59 = true → j < l.length := by
                        intro e
                        rw [ha59, ← hj3] at e
                        rcases Nat.lt_or_ge j l.length with h | h
                        · exact h
                        · rw [List.drop_eq_nil_of_le h] at e
                          exact absurd e (by decide)
                      replace T20 := Lib.hid T20
                      replace TX := Lib.hid TX
                      have g1 : (k : Int) + 2 ≤ (j : Int) := by omega
                      have g2 : (j : Int) ≤ (c : Int) := by omega
                      have g3 : ¬ (k : Int) + 2 < 0 := by omega
                      have hwj : IntKind.i64.wrap ((j : Int) + 1) = (j : Int) + 1 := by rw [wrap_small _ (by omega) (by omega)]
                      have hNc := Lib.hid (show 0 ≤ N → isC N = true from fun e => by rw [hN]; exact hexL_char (by rw [← hN]; exact e))
                      clear ha59 hXt hXl hsx hj3 hg hg2 hg2c hX hh hN hXb
                      by_cases c120 : y = 120
                      · subst c120
                        cases a59 with
                        | false =>
                          rw [if_neg (fun h => by cases h.2.1)] at hv
                          clear CV2 hatl
                          have HV := Lib.hid hv
                          clear hv
                          go_wp2_with (first | (go_at_call 20; refine T20.out.mono ?_; rintro e w' ⟨rfl, rfl⟩) | (go_at_call 33; refine TX.out.mono ?_; rintro e w' ⟨rfl, rfl⟩))
                          refine bodyPost_ret (v := (.tuple #[.string { data := #[] }, .int .i64 0, .int .i64 4, .int .i64 k])) (by simp [results, Tryd.results22, go_sem]) rfl ?_
                          rw [← HV.out]
                          exact ⟨rfl, HK.out.1⟩
                        | true =>
                          exact absurd (hatl rfl) hjl
                      · have y120 : (y == 120) = false := by rw [beq_eq_false_iff_ne]; exact c120
                        rw [if_neg (fun h => c120 h.1)] at hv
                        clear CV2 hatl
                        have HV := Lib.hid hv
                        clear hv
                        go_wp2_with (first | (go_at_call 20; refine T20.out.mono ?_; rintro e w' ⟨rfl, rfl⟩) | (go_at_call 33; refine TX.out.mono ?_; rintro e w' ⟨rfl, rfl⟩))
                        refine bodyPost_ret (v := (.tuple #[.string { data := #[] }, .int .i64 0, .int .i64 4, .int .i64 k])) (by simp [results, Tryd.results22, go_sem]) rfl ?_
                        rw [← HV.out]
                        exact ⟨rfl, HK.out.1⟩
        · have y92 : (x == 92) = false := by rw [beq_eq_false_iff_ne]; exact x92
          have T := rget_at (HA.out.1.below HK.out.1) HA.out.2.1 hl (k : Int)
          have hv := HK.out.2.2.2
          cases hc : chr (l.drop k) with
          | none =>
            obtain ⟨e1, e2, e3⟩ := g_none (k := k) hlt hc
            rw [e1, e2, e3] at T
            rw [sr_none hlt (by rw [← HX.out]; exact x34) (by rw [← HX.out]; exact x92) hc] at hv
            have HV := Lib.hid hv
            replace T := Lib.hid T
            clear e1 e2 e3 hv hc
            go_wp2_with (go_at_call 19; refine T.out.mono ?_; rintro e w' ⟨rfl, hb⟩; replace hb := Lib.hid hb)
            refine bodyPost_ret (v := (.tuple #[.string { data := #[] }, .int .i64 0, .int .i64 4, .int .i64 k])) (by simp [results, Tryd.results22, go_sem]) rfl ?_
            rw [← HV.out]
            exact ⟨rfl, HK.out.1.trans (hb.out.mono HK.out.1.size)⟩
          | some cn =>
            obtain ⟨ch, n⟩ := cn
            obtain ⟨e1, e2, e3⟩ := g_some (k := k) hlt hc
            rw [e1, e2, e3] at T
            have hn := chr_lt (HA.out.2.1.drop k) hc
            rw [List.length_drop] at hn
            rw [sr_chr hlt (by rw [← HX.out]; exact x34) (by rw [← HX.out]; exact x92) hc hn.1] at hv
            have HV := Lib.hid hv
            replace T := Lib.hid T
            have hwn : IntKind.i64.wrap ((k : Int) + (n : Int)) = (k : Int) + (n : Int) := by rw [wrap_small _ (by omega) (by omega)]
            have g1 : ¬ (k : Int) < 0 := by omega
            have g2 : (k : Int) ≤ (k : Int) + n := by omega
            have g3 : (k : Int) + n ≤ (c : Int) := by omega
            have g4 : ¬ c = k := by omega
            clear e1 e2 e3 hv hc
            go_wp2_with fail
            refine T.out.mono ?_
            rintro e w2 ⟨rfl, b2⟩
            have o2 := HK.out.2.1.below b2
            have B2 := HK.out.1.trans (b2.mono HK.out.1.size)
            obtain ⟨v3, w3, hr, o3, -, b3⟩ := app_row kt8 o2 (slice_of (HA.out.1.below B2) (k := k) (n := n) (by omega)) (by have := HK.out.2.2.1; rw [List.length_take, List.length_drop]; omega) B2.size
            rw [show ((l.drop k).take n).length = k + n - k by rw [List.length_take, List.length_drop]; omega] at hr
            have HR := Lib.hid (And.intro hr (And.intro o3 (B2.trans b3)))
            clear b2 o2 B2 hr o3 b3 hg
            go_wp2_with (at_builtin; go_loud (refine Lib.wpList_append_run _ rfl _ _ 22 22 rfl u8 (.slice (some ⟨g, off + k, none⟩) (k + n - k) (c - k)) rfl rfl v3 w3 HR.out.1 ?_))
            go_roundw
            case rel =>
              refine ⟨k + n, _, rfl, by omega, by omega, Lib.hid ⟨HR.out.2.2, HR.out.2.1, ?_, HV.out⟩⟩
              have := HK.out.2.2.1
              rw [List.length_append, List.length_take, List.length_drop]
              omega
            case measure => (simp only [intOf]; omega)
    · have f1 : ¬ (k : Int) < (l.length : Int) := by omega
      have d1 : decide ((k : Int) < (l.length : Int)) = false := by rw [decide_eq_false_iff_not]; exact f1
      have hv := HK.out.2.2.2
      rw [List.drop_eq_nil_of_le (by omega), str_end] at hv
      have HV := Lib.hid hv
      clear hv
      go_wp2_with fail
      refine bodyPost_ret (v := (.tuple #[.string { data := #[] }, .int .i64 0, .int .i64 4, .int .i64 i])) (by simp [results, Tryd.results22, go_sem]) rfl ?_
      rw [← HV.out]
      exact ⟨rfl, HK.out.1⟩
end Go.Proofs.YtgnnkfdpfmlajaaDoor
