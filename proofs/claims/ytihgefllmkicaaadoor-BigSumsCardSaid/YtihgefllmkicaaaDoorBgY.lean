/- Contracts: decimal digits, four at a time. Conditions: the text is one of digits. -/
import Derived.Test.YtihgefllmkicaaaDoorBgX
import Derived.Lib.ConvBytes
namespace Go.Proofs.YtihgefllmkicaaaDoor
open Go.RowKit Bg
set_option linter.unusedVariables false
set_option linter.unusedSimpArgs false


/-- A text's bytes, in new memory. -/
theorem conv_bytes (w : World) (s : ByteArray) (hs : s.size ≤ 1000000000) : ∃ c w', (convert 9 67 (.string s)).run Tryd.prog w = .ok (.slice (some ⟨w.heap.size, 0, none⟩) s.size c) w' ∧ Arg .u8 w' (some ⟨w.heap.size, 0, none⟩) c (byL s) ∧ Below w.heap.size w w' := by
  have hr := Lib.run_convert_string_bytes w 9 67 5 s Tryd.underlying9 Tryd.underlying67 Tryd.underlying5
  refine ⟨_, _, hr, ⟨fun h => (by cases h), by rw [byL_len]; exact grownCap_ge _ _ _ _, by have := grownCap_le_maxLen w s.size 0 5 (by unfold maxLen; omega); unfold maxLen at this; omega, fun i hi => ⟨w.heap.size, 0, rfl, ?_⟩⟩, ?_⟩
  · rw [byL_len] at hi
    rw [Nat.zero_add, Lib.bytesWorld_cell w 5 s i hi, byL_get s hi]
    have hl : i < s.data.toList.length := by rw [Array.length_toList]; exact hi
    rw [List.getD_eq_getElem?_getD, List.getElem?_eq_getElem hl]
    rfl
  · refine ⟨rfl, rfl, rfl, by rw [Lib.bytesWorld_size]; omega, fun k hk => Lib.bytesWorld_at_old _ _ _ _ hk⟩
theorem byL_extract (s : ByteArray) {a b : Nat} (hb : b ≤ s.size) : byL (s.extract a b) = ((byL s).drop a).take (b - a) := by
  unfold byL
  rw [ByteArray.data_extract, Array.toList_extract, List.map_take, List.map_drop]
theorem ok_all {l : List Int} (h : allDig l = true) (k : Nat) (hk : k < l.length) : 48 ≤ l.getD k 0 ∧ l.getD k 0 ≤ 57 := by
  unfold allDig at h
  rw [List.all_eq_true] at h
  have h1 := h (l.getD k 0) (by rw [List.getD_eq_getElem?_getD, List.getElem?_eq_getElem hk]; exact List.getElem_mem hk)
  unfold okDig at h1
  rw [decide_eq_true_eq] at h1
  exact h1
theorem all_mem {l : List Int} (h : allDig l = true) : ∀ c, c ∈ l → okDig c = true := by
  unfold allDig at h
  exact List.all_eq_true.1 h
theorem all_sub {l : List Int} (h : allDig l = true) (a n : Nat) : allDig ((l.drop a).take n) = true := by
  unfold allDig
  rw [List.all_eq_true]
  exact fun c hc => all_mem h c (List.mem_of_mem_drop (List.mem_of_mem_take hc))
theorem take_snoc (l : List Int) (k : Nat) (hk : k < l.length) : l.take (k + 1) = l.take k ++ [l.getD k 0] := by
  rw [List.take_add_one, List.getElem?_eq_getElem hk, List.getD_eq_getElem?_getD, List.getElem?_eq_getElem hk]
  rfl
theorem group_step {L x D : List Int} {en m : Nat} (hle : en ≤ L.length) (hm : m = en - 4) (hx : x = (L.drop m).take (en - m)) (he : (en : Int) = L.length - 4 * D.length) (hv : val 10000 D = decv (L.drop en)) : val 10000 (D ++ [decv x]) = decv (L.drop m) := by
  have e1 : L.drop m = x ++ L.drop en := by
    rw [hx]
    have h := (List.take_append_drop (en - m) (L.drop m)).symm
    rw [List.drop_drop, show m + (en - m) = en by omega] at h
    exact h
  have e2 : (10 : Int) ^ (L.drop en).length = 10000 ^ D.length := by
    rw [List.length_drop, show L.length - en = 4 * D.length by omega, Int.pow_mul]
    rfl
  rw [val_snoc, e1, decv_app, e2, hv, Int.mul_comm]
  omega
set_option maxRecDepth 100000 in
set_option maxHeartbeats 4000000 in
theorem grouped_at (s : ByteArray) (hs : s.size ≤ 1000000) (hd : allDig (byL s) = true) (w : World) : Calls Tryd.prog 48 #[.string s] w fun e w' => ∃ v D, e = .returned v ∧ Own 52 .u16 w.heap.size w' v D ∧ Dig 10000 D ∧ val 10000 D = decv (byL s) ∧ D.length ≤ s.size ∧ (0 < s.size → 0 < D.length) ∧ Below w.heap.size w w' := by
  have HD := Lib.hid hd
  clear hd
  go_enter Tryd.func48, Tryd.ntmps48
  go_wp2_with fail
  go_loopw [3, 4] (fun v t wr => ∃ (e : Int) (D : List Int), t = .int .i64 e ∧ Hid (e = s.size - 4 * D.length ∧ -4 < e ∧ Dig 10000 D ∧ val 10000 D = decv ((byL s).drop e.toNat) ∧ Own 52 .u16 w.heap.size wr v D ∧ Below w.heap.size w wr)) (fun _ t _ => (intOf t).toNat)
  case atStart => exact ⟨s.size, [], rfl, by simp, by omega, Dig.nil, by rw [List.drop_eq_nil_of_le (by rw [byL_len]; omega)]; rfl, Own.nil _ _ _ _, Below.refl _ _⟩
  case round =>
    obtain ⟨e, D, rfl, hX⟩ := hrel
    obtain ⟨v3, hv3⟩ : ∃ v3, v3 = u3 := ⟨_, rfl⟩
    rw [← hv3] at hX ⊢
    clear hv3
    by_cases h0 : 0 < e
    · have d1 : decide (e > 0) = true := by rw [decide_eq_true_eq]; omega
      obtain ⟨en, hen⟩ : ∃ en : Nat, e = en := ⟨e.toNat, by omega⟩
      subst hen
      have hle : en ≤ s.size := by have := hX.out.1; omega
      obtain ⟨m, hm⟩ : ∃ m, m = en - 4 := ⟨_, rfl⟩
      have hxl : (s.extract m en).size = en - m := by rw [ByteArray.size_extract]; omega
      obtain ⟨cx, w1, hcv, ax, hb1⟩ := conv_bytes wr (s.extract m en) (by omega)
      have hxb := byL_extract s (a := m) hle
      have had := all_sub HD.out m (en - m)
      rw [← hxb] at had
      have hbl := byL_len (s.extract m en)
      have HX1 := Lib.hid (And.intro ax (And.intro hb1 (And.intro hxb had)))
      have hX' := Lib.hid (And.intro (hX.out.2.2.2.2.1.below hb1) (hX.out.2.2.2.2.2.trans (hb1.mono hX.out.2.2.2.2.2.size)))
      rw [hxl] at hcv hbl
      obtain ⟨x, hx⟩ : ∃ x, x = s.extract m en := ⟨_, rfl⟩
      rw [← hx] at hcv HX1 hbl
      have f0 : en ≤ s.size := hle
      have f1 : (m : Int) ≤ en := by omega
      have HCV := Lib.hid (And.intro hcv (And.intro hbl (And.intro hm hx)))
      clear hcv ax hb1 hxb had hbl hxl
      have hdx := decv_bound (byL x) (all_mem HX1.out.2.2.2)
      have hx4 : (byL x).length ≤ 4 := by rw [HCV.out.2.1]; omega
      have hp4 := pow_le (show (1 : Int) ≤ 10 by decide) hx4
      have hp5 : (10 : Int) ^ 4 = 10000 := by decide
      have hg : 0 ≤ decv (byL x) ∧ decv (byL x) < 10000 := by omega
      obtain ⟨v', w', hr', ho', hb'⟩ := app_two kt16 (x := decv (byL x)) hX'.out.1 (by have := hX.out.1; omega) hX'.out.2.size
      have hst := group_step (L := byL s) (x := byL x) (D := D) (en := en) (m := m) (by rw [byL_len]; exact hle) hm HX1.out.2.2.1 (by rw [byL_len]; exact hX.out.1) (by have h := hX.out.2.2.2.1; rw [Int.toNat_natCast] at h; exact h)
      have HR := Lib.hid (And.intro hr' (And.intro ho' (And.intro (hX'.out.2.trans hb') (And.intro hg hst))))
      clear hdx hx4 hp4 hp5 hg hr' ho' hb' hst
      go_upto_region 6 with fail
      go_cut [20, 21, 22] (fun a b c wx => a = .slice (some ⟨wr.heap.size, 0, none⟩) (en - m) cx ∧ b = .int .i64 ((en - m : Nat) : Int) ∧ c = .int .i64 0 ∧ w1 = wx)
      case first =>
        by_cases h4 : 4 ≤ en
        · have e2 : 0 ≤ (en : Int) - 4 := by omega
          have e3 : (en : Int) - 4 ≤ en := by omega
          have hcv : (convert 9 67 (.string (s.extract (en - 4) en))).run Tryd.prog wr = .ok (.slice (some ⟨wr.heap.size, 0, none⟩) (en - m) cx) w1 := by
            rw [show s.extract (en - 4) en = x from by rw [← HCV.out.2.2.1]; exact HCV.out.2.2.2.symm]; exact HCV.out.1
          clear hx hm
          go_wp2_with fail
          go_meet
          case rel => exact ⟨rfl, rfl, rfl, rfl⟩
        · have hm0 : m = 0 := by omega
          have e2 : ¬ (0 ≤ (en : Int) - 4) := by omega
          have hcv : (convert 9 67 (.string (s.extract 0 en))).run Tryd.prog wr = .ok (.slice (some ⟨wr.heap.size, 0, none⟩) (en - m) cx) w1 := by
            rw [show s.extract 0 en = x from by have := HCV.out.2.2.2; rw [hm0] at this; exact this.symm]; exact HCV.out.1
          clear hx hm hm0
          go_wp2_with fail
          go_meet
          case rel => exact ⟨rfl, rfl, rfl, rfl⟩
      case rest =>
        obtain ⟨rfl, rfl, rfl, rfl⟩ := hcut
        clear hx hm
        go_wp2_with fail
        go_loopw [5, 22] (fun d t wr2 => ∃ k : Nat, t = .int .i64 k ∧ k ≤ en - m ∧ d = .int .u16 (decv ((byL x).take k)) ∧ Hid (w1 = wr2)) (fun _ t _ => en - m - (intOf t).toNat)
        case atStart => exact ⟨0, rfl, Nat.zero_le _, rfl, rfl⟩
        case round =>
          obtain ⟨k, rfl, hk, rfl, hw⟩ := hrel
          have hw' := hw.out
          subst hw'
          by_cases hlt : k < en - m
          · have ck := HX1.out.1.some_at k (by rw [HCV.out.2.1]; exact hlt)
            rw [Nat.zero_add] at ck
            have dk := ok_all HX1.out.2.2.2 k (by rw [HCV.out.2.1]; exact hlt)
            have hs1 := take_snoc (byL x) k (by rw [HCV.out.2.1]; exact hlt)
            have hb1 := decv_bound ((byL x).take k) (fun c hc => all_mem HX1.out.2.2.2 c (List.mem_of_mem_take hc))
            have hlk : ((byL x).take k).length = k := by rw [List.length_take, HCV.out.2.1]; omega
            rw [hlk] at hb1
            have hm4 : en - m ≤ 4 := by have := HCV.out.2.2.1; omega
            have hp := pow_le (show (1 : Int) ≤ 10 by decide) (show k ≤ 3 by omega)
            have hp2 : (10 : Int) ^ 3 = 1000 := by decide
            have hdv := decv_snoc ((byL x).take k) ((byL x).getD k 0)
            rw [← hs1] at hdv
            obtain ⟨c, hc⟩ : ∃ c, c = (byL x).getD k 0 := ⟨_, rfl⟩
            obtain ⟨d, hd⟩ : ∃ d, d = decv ((byL x).take k) := ⟨_, rfl⟩
            rw [← hc] at ck dk hdv
            rw [← hd] at hb1 hdv ⊢
            have dlt : d < 1000 := by omega
            have d0 : 0 ≤ d := hb1.1
            have q1 : decide ((k : Int) < ((en - m : Nat) : Int)) = true := by rw [decide_eq_true_eq]; omega
            have q2 : (k : Int) < ((en - m : Nat) : Int) := by omega
            have q3 : k < en - m := hlt
            have HDV := Lib.hid (And.intro hdv (And.intro dk (And.intro dlt d0)))
            clear hc hd hs1 hb1 hlk hp hp2 hdv hw dk dlt d0
            go_wp2_with fail
            rw [show IntKind.u16.wrap (IntKind.u16.wrap (d * 10) + (c - 48) % 256) = d * 10 + (c - 48) from by have := HDV.out.2; rw [IntKind.wrap_u16, IntKind.wrap_u16]; omega]
            go_roundw
            case rel => exact ⟨k + 1, by go_num, hlt, by rw [HDV.out.1], by first | exact (rfl : w1 = w1) | exact True.intro⟩
            case measure => simp [intOf]; omega
          · have hz : k = en - m := by omega
            subst hz
            have q1 : decide (((en - m : Nat) : Int) < ((en - m : Nat) : Int)) = false := by simp
            rw [List.take_of_length_le (by rw [HCV.out.2.1]; exact Nat.le_refl _)]
            go_wp2_with (at_builtin; refine Lib.wpList_append_run _ rfl _ _ 22 22 rfl v3 (.slice (some ⟨w1.heap.size, 0, none⟩) 1 1) rfl rfl v' w' HR.out.1 ?_)
            go_roundw
            case rel =>
              refine ⟨(en : Int) - 4, D ++ [decv (byL x)], rfl, ?_⟩
              refine ⟨by rw [List.length_append]; have := hX.out.1; simp; omega, by omega, hX.out.2.2.1.app (Dig.one HR.out.2.2.2.1), ?_, HR.out.2.1, HR.out.2.2.1⟩
              rw [HR.out.2.2.2.2, HCV.out.2.2.1, show ((en : Int) - 4).toNat = en - 4 by omega]
            case measure => simp [intOf]; omega
    · have d1 : decide (e > 0) = false := by rw [decide_eq_false_iff_not]; omega
      go_wp2_with fail
      go_ret
      have h1 := hX.out
      refine ⟨_, rfl, D, h1.2.2.2.2.1, h1.2.2.1, ?_, by omega, by omega, h1.2.2.2.2.2⟩
      rw [h1.2.2.2.1, show e.toNat = 0 by omega, List.drop_zero]
end Go.Proofs.YtihgefllmkicaaaDoor
