/- Contracts: the document's tests of bytes, runs, hex numbers, comments, chars and integers. Conditions: none. -/
import Derived.Test.YtgnnkfdpfmlajaaDoorUtG
import Derived.Test.YtgnnkfdpfmlajaaDoorLxZa
namespace Go.Proofs.YtgnnkfdpfmlajaaDoor
open Go.RowKit Bg Lx
set_option linter.unusedVariables false
set_option linter.unusedSimpArgs false


theorem blank_at (c : Int) (w : World) : Calls Tryd.prog 18 #[.int .u8 c] w fun e w' => e = .returned (.bool (blankB c)) ∧ w = w' := by
  go_enter Tryd.func18, Tryd.ntmps18
  go_wp2_with (fail)
  all_goals go_ret
  all_goals refine ⟨retB ?_, rfl⟩
  all_goals rw [Bool.eq_iff_iff]
  all_goals simp only [blankB, Bool.or_eq_true, Bool.and_eq_true, decide_eq_true_eq, beq_iff_eq, true_iff, Bool.false_eq_true, false_iff]
  all_goals omega

theorem digit_at (c : Int) (w : World) : Calls Tryd.prog 35 #[.int .u8 c] w fun e w' => e = .returned (.bool (digitB c)) ∧ w = w' := by
  go_enter Tryd.func35, Tryd.ntmps35
  go_wp2_with (fail)
  all_goals go_ret
  all_goals refine ⟨retB ?_, rfl⟩
  all_goals rw [Bool.eq_iff_iff]
  all_goals simp only [digitB, Bool.or_eq_true, Bool.and_eq_true, decide_eq_true_eq, beq_iff_eq, true_iff, Bool.false_eq_true, false_iff]
  all_goals omega

theorem delim_at (c : Int) (w : World) : Calls Tryd.prog 28 #[.int .u8 c] w fun e w' => e = .returned (.bool (delimB c)) ∧ w = w' := by
  have T := Lib.hid (blank_at c w)
  obtain ⟨B, hB⟩ : ∃ B, B = blankB c := ⟨_, rfl⟩
  rw [← hB] at T
  have HB := Lib.hid hB
  clear hB
  cases B with
  | true =>
    go_enter Tryd.func28, Tryd.ntmps28
    go_wp2_with (go_at_call 18; refine T.out.mono ?_; rintro e w' ⟨rfl, rfl⟩)
    all_goals go_ret
    all_goals refine ⟨retB ?_, rfl⟩
    all_goals (unfold delimB; rw [← HB.out]; simp)
  | false =>
    go_enter Tryd.func28, Tryd.ntmps28
    go_wp2_with (go_at_call 18; refine T.out.mono ?_; rintro e w' ⟨rfl, rfl⟩)
    all_goals go_ret
    all_goals refine ⟨retB ?_, rfl⟩
    all_goals unfold delimB
    all_goals rw [← HB.out, Bool.eq_iff_iff]
    all_goals simp only [Bool.or_eq_true, Bool.and_eq_true, decide_eq_true_eq, beq_iff_eq, true_iff, Bool.false_eq_true, false_iff, false_or]
    all_goals omega
end Go.Proofs.YtgnnkfdpfmlajaaDoor
namespace Go.Proofs.YtgnnkfdpfmlajaaDoor
open Go.RowKit Bg Lx
set_option linter.unusedVariables false
set_option linter.unusedSimpArgs false


theorem byL_get (s : ByteArray) {k : Nat} (h : k < s.size) : (byL s).getD k 0 = (s[k].toNat : Int) := by
  have hl : k < s.data.toList.length := by rw [Array.length_toList]; exact h
  unfold byL
  rw [List.getD_eq_getElem?_getD, List.getElem?_map, List.getElem?_eq_getElem hl]
  rfl
theorem others_str : ({ data := #[33, 36, 37, 38, 42, 47, 58, 60, 61, 62, 63, 94, 95, 126, 43, 45, 46, 64] } : ByteArray) = strOfNums others := by rfl
theorem others_byts : Byts others := by
  intro x hx
  unfold others at hx
  simp at hx
  omega
set_option maxRecDepth 100000 in
set_option maxHeartbeats 8000000 in
theorem symbol_at (c : Int) (w : World) : Calls Tryd.prog 25 #[.int .u8 c] w fun e w' => e = .returned (.bool (symB c)) ∧ w = w' := by
  obtain ⟨s, hs⟩ : ∃ s, s = ({ data := #[33, 36, 37, 38, 42, 47, 58, 60, 61, 62, 63, 94, 95, 126, 43, 45, 46, 64] } : ByteArray) := ⟨_, rfl⟩
  have hby : byL s = others := by rw [hs, others_str]; exact byL_str others_byts
  have hsz : s.size = 18 := by rw [hs]; rfl
  have HS := Lib.hid (And.intro hby hsz)
  have T := Lib.hid (digit_at c w)
  obtain ⟨V, hV⟩ : ∃ V, V = symB c := ⟨_, rfl⟩
  rw [← hV]
  have HV := Lib.hid hV
  clear hV hby hsz
  go_enter Tryd.func25, Tryd.ntmps25
  go_upto_region 2 with fail
  rw [← hs]
  clear hs
  go_wp2_with fail
  go_loop [4] (fun t => ∃ i : Nat, t = .int .i64 i ∧ i ≤ s.size ∧ Hid (∀ j, j < i → others.getD j 0 ≠ c)) (fun t => s.size - (intOf t).toNat)
  case atStart => exact ⟨0, rfl, Nat.zero_le _, Lib.hid fun j hj => absurd hj (Nat.not_lt_zero _)⟩
  case round =>
    obtain ⟨i, rfl, hi, HI⟩ := hrel
    by_cases hlt : i < s.size
    · have d1 : decide ((i : Int) < (s.size : Int)) = true := by rw [decide_eq_true_eq]; omega
      have f1 : (i : Int) < (s.size : Int) := by omega
      have hg := byL_get s hlt
      rw [HS.out.1] at hg
      have hws : IntKind.i64.wrap ((i : Int) + 1) = (i : Int) + 1 := by rw [wrap_small _ (by omega) (by have := HS.out.2; omega)]
      by_cases hx : others.getD i 0 = c
      · have e1 : ((s[i].toNat : Int) == c) = true := by rw [beq_iff_eq, ← hg]; exact hx
        have e2 : (s[i].toNat : Int) = c := by rw [← hg]; exact hx
        have HX := Lib.hid (And.intro hg hx)
        clear hg hx
        go_wp2_with fail
        go_ret
        refine ⟨retB ?_, rfl⟩
        rw [HV.out]
        unfold symB
        have hm : others.contains c = true := by
          rw [List.contains_iff_mem, ← HX.out.2, List.getD_eq_getElem?_getD, List.getElem?_eq_getElem (by have := HS.out.2; show i < 18; omega)]
          exact List.getElem_mem _
        rw [hm]
        rfl
      · have e1 : ((s[i].toNat : Int) == c) = false := by rw [beq_eq_false_iff_ne, ← hg]; exact hx
        have e2 : ¬ (s[i].toNat : Int) = c := by rw [← hg]; exact hx
        have HX := Lib.hid hx
        clear hg hx
        go_wp2_with fail
        go_round
        case rel =>
          refine ⟨i + 1, rfl, hlt, Lib.hid fun j hj => ?_⟩
          by_cases hji : j = i
          · rw [hji]; exact HX.out
          · exact HI.out j (by omega)
        case measure => simp only [intOf]; omega
    · have d1 : decide ((i : Int) < (s.size : Int)) = false := by rw [decide_eq_false_iff_not]; omega
      have f1 : ¬ (i : Int) < (s.size : Int) := by omega
      have hno : others.contains c = false := by
        rw [Bool.eq_false_iff]
        intro hm
        rw [List.contains_iff_mem] at hm
        obtain ⟨j, hj, he⟩ := List.getElem_of_mem hm
        refine HI.out j (by have := HS.out.2; have : others.length = 18 := rfl; omega) ?_
        rw [List.getD_eq_getElem?_getD, List.getElem?_eq_getElem hj]
        exact he
      have hv : V = (digitB c || decide (97 ≤ c ∧ c ≤ 122) || decide (65 ≤ c ∧ c ≤ 90)) := by rw [HV.out]; unfold symB; rw [hno]; rfl
      have HV2 := Lib.hid hv
      obtain ⟨D, hD⟩ : ∃ D, D = digitB c := ⟨_, rfl⟩
      rw [← hD] at T HV2
      clear hv hD hno
      cases D with
      | true =>
        go_wp2_with (go_at_call 35; refine T.out.mono ?_; rintro e w' ⟨rfl, rfl⟩)
        all_goals go_ret
        all_goals refine ⟨retB ?_, rfl⟩
        all_goals (rw [HV2.out]; simp)
      | false =>
        go_wp2_with (go_at_call 35; refine T.out.mono ?_; rintro e w' ⟨rfl, rfl⟩)
        all_goals go_ret
        all_goals refine ⟨retB ?_, rfl⟩
        all_goals rw [HV2.out, Bool.eq_iff_iff]
        all_goals simp only [Bool.or_eq_true, Bool.and_eq_true, decide_eq_true_eq, beq_iff_eq, true_iff, Bool.false_eq_true, false_iff, false_or]
        all_goals omega
/-- Where a run ends, by places. -/
def runE (l : List Int) (i : Nat) : Nat := i + (run (l.drop i)).length
set_option maxRecDepth 100000 in
set_option maxHeartbeats 8000000 in
theorem run_at {w : World} {p : Option Addr} {c : Nat} {l : List Int} (a : Arg .u8 w p c l) (hl : l.length ≤ 20000000) (i : Nat) (hi : i ≤ l.length) :
    Calls Tryd.prog 26 #[.slice p l.length c, .int .i64 i] w fun e w' => e = .returned (.int .i64 (runE l i)) ∧ w = w' := by
  have hle := a.le
  have hmx := a.max
  have hat := Lib.hid (fun h => a.at h)
  obtain ⟨L, hL⟩ : ∃ L, L = l.length := ⟨_, rfl⟩
  have HL := Lib.hid hL
  rw [← hL] at hl hle hi hat ⊢
  obtain ⟨V, hV⟩ : ∃ V, V = runE l i := ⟨_, rfl⟩
  rw [← hV]
  have HV := Lib.hid hV
  clear a hL hV
  go_enter Tryd.func26, Tryd.ntmps26
  go_wp2_with fail
  go_loop [1] (fun t => ∃ k : Nat, t = .int .i64 k ∧ k ≤ L ∧ Hid (runE l k = V)) (fun t => L - (intOf t).toNat)
  case atStart => exact ⟨i, rfl, hi, Lib.hid HV.out.symm⟩
  case round =>
    obtain ⟨k, rfl, hk, HK⟩ := hrel
    by_cases hlt : k < L
    · have d1 : decide ((k : Int) < (L : Int)) = true := by rw [decide_eq_true_eq]; omega
      have f1 : (k : Int) < (L : Int) := by omega
      obtain ⟨b, off, hp, hcell⟩ := hat.out (by omega)
      subst hp
      have hc0 := hcell k hlt
      have T := symbol_at (l.getD k 0) w
      have hws : IntKind.i64.wrap ((k : Int) + 1) = (k : Int) + 1 := by rw [wrap_small _ (by omega) (by omega)]
      cases hS : symB (l.getD k 0) with
      | true =>
        rw [hS] at T
        have hstep : runE l (k + 1) = V := by
          rw [← HK.out]
          unfold runE
          rw [run_step (by have := HL.out; omega) hS]
          omega
        obtain ⟨x, hx⟩ : ∃ x, x = l.getD k 0 := ⟨_, rfl⟩
        rw [← hx] at hc0 T
        replace T := Lib.hid T
        have HX := Lib.hid hstep
        clear hcell hx hS hstep
        go_wp2_with (go_at_call 25; refine T.out.mono ?_; rintro e w' ⟨rfl, rfl⟩)
        go_round
        case rel => exact ⟨k + 1, rfl, by omega, HX⟩
        case measure => simp only [intOf]; omega
      | false =>
        rw [hS] at T
        have hstop : k = V := by
          rw [← HK.out]
          unfold runE
          rw [run_stop (by have := HL.out; omega) hS]
          rfl
        obtain ⟨x, hx⟩ : ∃ x, x = l.getD k 0 := ⟨_, rfl⟩
        rw [← hx] at hc0 T
        replace T := Lib.hid T
        have HX := Lib.hid hstop
        clear hcell hx hS hstop
        go_wp2_with (go_at_call 25; refine T.out.mono ?_; rintro e w' ⟨rfl, rfl⟩)
        go_ret
        rw [← HX.out]
        exact ⟨rfl, rfl⟩
    · have d1 : decide ((k : Int) < (L : Int)) = false := by rw [decide_eq_false_iff_not]; omega
      have f1 : ¬ (k : Int) < (L : Int) := by omega
      have hstop : k = V := by
        rw [← HK.out]
        unfold runE
        rw [run_over (by have := HL.out; omega)]
        rfl
      have HX := Lib.hid hstop
      clear hstop
      go_wp2_with fail
      go_ret
      rw [← HX.out]
      exact ⟨rfl, rfl⟩
end Go.Proofs.YtgnnkfdpfmlajaaDoor
namespace Go.Proofs.YtgnnkfdpfmlajaaDoor
open Go.RowKit Bg Lx
set_option linter.unusedVariables false
set_option linter.unusedSimpArgs false


theorem slice_of {w : World} {g off c : Nat} {l : List Int} (a : Arg .u8 w (some ⟨g, off, none⟩) c l) {k n : Nat} (h : k + n ≤ l.length) : Arg .u8 w (some ⟨g, off + k, none⟩) (c - k) ((l.drop k).take n) := by
  have h1 := (a.drop (n := k) (by omega)).take n
  have e : (Option.map (fun x : Addr => x.add k) (some ⟨g, off, none⟩)) = some ⟨g, off + k, none⟩ := congrArg some (add_at g off k)
  rw [← e]
  exact h1
set_option maxRecDepth 100000 in
set_option maxHeartbeats 8000000 in
theorem at_at {w : World} {p : Option Addr} {c : Nat} {l : List Int} (a : Arg .u8 w p c l) (hb : Byts l) (hl : l.length ≤ 20000000) (i : Nat) (hi : i ≤ l.length) {t : List Int} (ht : Byts t) (h0 : ¬ t = []) (htl : t.length ≤ 1000) :
    Calls Tryd.prog 20 #[.slice p l.length c, .int .i64 i, .string (strOfNums t)] w fun e w' => e = .returned (.bool (atS (l.drop i) t)) ∧ w = w' := by
  have hle := a.le
  have hmx := a.max
  have hz : (strOfNums t).size = t.length := str_size t
  have h1 := List.length_pos_iff.2 h0
  by_cases hin : i + t.length ≤ l.length
  · obtain ⟨g, off, rfl, -⟩ := a.at (by omega)
    have aK := slice_of a hin
    have hcv := conv_arg aK
    have hlen : ((l.drop i).take t.length).length = t.length := by rw [List.length_take, List.length_drop]; omega
    rw [hlen] at hcv
    have hbq := beq_bytes ((hb.drop i).take t.length) ht
    have hsp : atS (l.drop i) t = decide ((l.drop i).take t.length = t) := rfl
    obtain ⟨s, hs⟩ : ∃ s, s = strOfNums t := ⟨_, rfl⟩
    obtain ⟨u, hu⟩ : ∃ u, u = strOfNums ((l.drop i).take t.length) := ⟨_, rfl⟩
    rw [← hs] at hz hbq ⊢
    rw [← hu] at hbq hcv
    rw [hsp, ← hbq]
    rw [← hz] at hcv hin h1 htl
    obtain ⟨L, hL⟩ : ∃ L, L = l.length := ⟨_, rfl⟩
    rw [← hL] at hl hle hi hin ⊢
    clear a hb aK hlen hbq hsp hs hu hz hL ht h0
    have f1 : ¬ (L : Int) < (i : Int) + (s.size : Int) := by omega
    have f2 : ¬ (i : Int) < 0 := by omega
    have f3 : (i : Int) ≤ (i : Int) + (s.size : Int) := by omega
    have f4 : (i : Int) + (s.size : Int) ≤ (c : Int) := by omega
    have f5 : ¬ c = i := by omega
    go_enter Tryd.func20, Tryd.ntmps20
    go_wp2_with fail
    go_ret
    exact ⟨rfl, rfl⟩
  · have hsp : atS (l.drop i) t = false := by
      unfold atS
      rw [decide_eq_false_iff_not]
      intro e
      have := congrArg List.length e
      rw [List.length_take, List.length_drop] at this
      omega
    rw [hsp]
    obtain ⟨s, hs⟩ : ∃ s, s = strOfNums t := ⟨_, rfl⟩
    rw [← hs] at hz ⊢
    rw [← hz] at hin htl
    obtain ⟨L, hL⟩ : ∃ L, L = l.length := ⟨_, rfl⟩
    rw [← hL] at hl hle hi hin ⊢
    clear a hb hsp hs hz hL ht h0 h1
    have f1 : (L : Int) < (i : Int) + (s.size : Int) := by omega
    have f2 : ¬ (i : Int) < 0 := by omega
    go_enter Tryd.func20, Tryd.ntmps20
    go_wp2_with fail
    go_ret
    exact ⟨rfl, rfl⟩
theorem hexF_range : ∀ (t : List Int) (n : Int), 0 ≤ n ∧ n ≤ 1114112 → (hexF t n = -1 ∨ (0 ≤ hexF t n ∧ hexF t n ≤ 1114112))
  | [], n, h => Or.inr h
  | c :: cs, n, h => by
    unfold hexF
    split
    · exact Or.inl rfl
    · refine hexF_range cs _ ?_
      unfold cap
      split <;> omega
theorem getD_byL (s : ByteArray) {k : Nat} (h : k < s.size) : (byL s).drop k = (s[k].toNat : Int) :: (byL s).drop (k + 1) := by
  have hl : k < (byL s).length := by rw [byL_len]; exact h
  rw [List.drop_eq_getElem_cons hl]
  congr 1
  have := byL_get s h
  rw [List.getD_eq_getElem?_getD, List.getElem?_eq_getElem hl] at this
  exact this
set_option maxRecDepth 100000 in
set_option maxHeartbeats 40000000 in
theorem hex_at (s : ByteArray) (hs : s.size ≤ 20000000) (w : World) : Calls Tryd.prog 33 #[.string s] w fun e w' => e = .returned (.int .i64 (hexL (byL s))) ∧ w = w' := by
  obtain ⟨V, hV⟩ : ∃ V, V = hexL (byL s) := ⟨_, rfl⟩
  rw [← hV]
  have HV := Lib.hid hV
  clear hV
  by_cases h0 : s.size = 0
  · have he : V = -1 := by
      rw [HV.out]
      unfold hexL
      rw [if_pos (List.length_eq_zero_iff.1 (by rw [byL_len]; exact h0))]
    have HE := Lib.hid he
    have e1 : ((s.size : Int) == 0) = true := by rw [beq_iff_eq]; omega
    have e2 : (s.size : Int) = 0 := by omega
    clear he
    go_enter Tryd.func33, Tryd.ntmps33
    go_wp2_with fail
    go_ret
    rw [HE.out]
    exact ⟨rfl, rfl⟩
  · have he : V = (if isC (hexF (byL s) 0) then hexF (byL s) 0 else -1) := by
      rw [HV.out]
      unfold hexL
      rw [if_neg (fun e => h0 (by rw [← byL_len, e]; rfl))]
    have HE := Lib.hid he
    have e1 : ((s.size : Int) == 0) = false := by rw [beq_eq_false_iff_ne]; omega
    have e2 : ¬ (s.size : Int) = 0 := by omega
    clear he
    go_enter Tryd.func33, Tryd.ntmps33
    go_wp2_with fail
    clear e1 e2
    go_loop [3, 4] (fun v t => ∃ (n : Int) (i : Nat), v = .int .i64 n ∧ t = .int .i64 i ∧ i ≤ s.size ∧ 0 ≤ n ∧ n ≤ 1114112 ∧ Hid (hexF ((byL s).drop i) n = hexF (byL s) 0)) (fun _ t => s.size - (intOf t).toNat)
    case atStart => exact ⟨0, 0, rfl, rfl, Nat.zero_le _, by omega, by omega, Lib.hid rfl⟩
    case round =>
      obtain ⟨n, i, rfl, rfl, hi, hn0, hn1, HI⟩ := hrel
      by_cases hlt : i < s.size
      · have d1 : decide ((i : Int) < (s.size : Int)) = true := by rw [decide_eq_true_eq]; omega
        have f1 : (i : Int) < (s.size : Int) := by omega
        have hws : IntKind.i64.wrap ((i : Int) + 1) = (i : Int) + 1 := by rw [wrap_small _ (by omega) (by omega)]
        have hst := HI.out
        rw [getD_byL s hlt, hexF] at hst
        have hxb := UInt8.toNat_lt s[i]
        obtain ⟨x, hx⟩ : ∃ x, x = s[i].toNat := ⟨_, rfl⟩
        have hx' : s[i].toNat = x := hx.symm
        rw [← hx] at hst hxb
        clear hx
        rcases (show (0 ≤ x ∧ x ≤ 47) ∨ (48 ≤ x ∧ x ≤ 57) ∨ (58 ≤ x ∧ x ≤ 64) ∨ (65 ≤ x ∧ x ≤ 70) ∨ (71 ≤ x ∧ x ≤ 96) ∨ (97 ≤ x ∧ x ≤ 102) ∨ (103 ≤ x ∧ x ≤ 255) by omega) with hr | hr | hr | hr | hr | hr | hr
        · have c0 : decide ((48 : Int) ≤ (x : Int)) = false := by rw [decide_eq_false_iff_not]; omega
          have k0 : ¬ ((48 : Int) ≤ (x : Int)) := by omega
          have c1 : decide ((x : Int) ≤ 57) = true := by rw [decide_eq_true_eq]; omega
          have k1 : ((x : Int) ≤ 57) := by omega
          have c2 : decide ((97 : Int) ≤ (x : Int)) = false := by rw [decide_eq_false_iff_not]; omega
          have k2 : ¬ ((97 : Int) ≤ (x : Int)) := by omega
          have c3 : decide ((x : Int) ≤ 102) = true := by rw [decide_eq_true_eq]; omega
          have k3 : ((x : Int) ≤ 102) := by omega
          have c4 : decide ((65 : Int) ≤ (x : Int)) = false := by rw [decide_eq_false_iff_not]; omega
          have k4 : ¬ ((65 : Int) ≤ (x : Int)) := by omega
          have c5 : decide ((x : Int) ≤ 70) = true := by rw [decide_eq_true_eq]; omega
          have k5 : ((x : Int) ≤ 70) := by omega
          have hd : hexD (x : Int) = -1 := by unfold hexD; rw [if_neg (by omega), if_neg (by omega), if_neg (by omega)]
          rw [hd, if_pos (by decide)] at hst
          have HX := Lib.hid hst
          clear hst hd hr
          go_wp2_with fail
          go_ret
          rw [HE.out, ← HX.out]
          exact ⟨rfl, rfl⟩
        · have c0 : decide ((48 : Int) ≤ (x : Int)) = true := by rw [decide_eq_true_eq]; omega
          have k0 : ((48 : Int) ≤ (x : Int)) := by omega
          have c1 : decide ((x : Int) ≤ 57) = true := by rw [decide_eq_true_eq]; omega
          have k1 : ((x : Int) ≤ 57) := by omega
          have c2 : decide ((97 : Int) ≤ (x : Int)) = false := by rw [decide_eq_false_iff_not]; omega
          have k2 : ¬ ((97 : Int) ≤ (x : Int)) := by omega
          have c3 : decide ((x : Int) ≤ 102) = true := by rw [decide_eq_true_eq]; omega
          have k3 : ((x : Int) ≤ 102) := by omega
          have c4 : decide ((65 : Int) ≤ (x : Int)) = false := by rw [decide_eq_false_iff_not]; omega
          have k4 : ¬ ((65 : Int) ≤ (x : Int)) := by omega
          have c5 : decide ((x : Int) ≤ 70) = true := by rw [decide_eq_true_eq]; omega
          have k5 : ((x : Int) ≤ 70) := by omega
          have hd : hexD (x : Int) = (x : Int) - 48 := by unfold hexD; rw [if_pos (by omega)]
          rw [hd, if_neg (by omega)] at hst
          have m0 : ¬ (x : Int) - 48 < 0 := by omega
          have m1 : decide ((x : Int) - 48 < 0) = false := by rw [decide_eq_false_iff_not]; omega
          by_cases hc : 1114111 < 16 * n + ((x : Int) - 48)
          · have q1 : decide (1114111 < 16 * n + ((x : Int) - 48)) = true := by rw [decide_eq_true_eq]; exact hc
            unfold cap at hst
            rw [if_pos hc] at hst
            have HX := Lib.hid hst
            clear hst hd hr
            go_wp2_with fail
            go_round
            case rel => exact ⟨1114112, i + 1, rfl, rfl, hlt, by omega, by omega, HX⟩
            case measure => simp only [intOf]; omega
          · have q1 : decide (1114111 < 16 * n + ((x : Int) - 48)) = false := by rw [decide_eq_false_iff_not]; exact hc
            unfold cap at hst
            rw [if_neg hc] at hst
            have HX := Lib.hid hst
            clear hst hd hr
            go_wp2_with fail
            go_round
            case rel => exact ⟨16 * n + ((x : Int) - 48), i + 1, rfl, rfl, hlt, by omega, by omega, HX⟩
            case measure => simp only [intOf]; omega
        · have c0 : decide ((48 : Int) ≤ (x : Int)) = true := by rw [decide_eq_true_eq]; omega
          have k0 : ((48 : Int) ≤ (x : Int)) := by omega
          have c1 : decide ((x : Int) ≤ 57) = false := by rw [decide_eq_false_iff_not]; omega
          have k1 : ¬ ((x : Int) ≤ 57) := by omega
          have c2 : decide ((97 : Int) ≤ (x : Int)) = false := by rw [decide_eq_false_iff_not]; omega
          have k2 : ¬ ((97 : Int) ≤ (x : Int)) := by omega
          have c3 : decide ((x : Int) ≤ 102) = true := by rw [decide_eq_true_eq]; omega
          have k3 : ((x : Int) ≤ 102) := by omega
          have c4 : decide ((65 : Int) ≤ (x : Int)) = false := by rw [decide_eq_false_iff_not]; omega
          have k4 : ¬ ((65 : Int) ≤ (x : Int)) := by omega
          have c5 : decide ((x : Int) ≤ 70) = true := by rw [decide_eq_true_eq]; omega
          have k5 : ((x : Int) ≤ 70) := by omega
          have hd : hexD (x : Int) = -1 := by unfold hexD; rw [if_neg (by omega), if_neg (by omega), if_neg (by omega)]
          rw [hd, if_pos (by decide)] at hst
          have HX := Lib.hid hst
          clear hst hd hr
          go_wp2_with fail
          go_ret
          rw [HE.out, ← HX.out]
          exact ⟨rfl, rfl⟩
        · have c0 : decide ((48 : Int) ≤ (x : Int)) = true := by rw [decide_eq_true_eq]; omega
          have k0 : ((48 : Int) ≤ (x : Int)) := by omega
          have c1 : decide ((x : Int) ≤ 57) = false := by rw [decide_eq_false_iff_not]; omega
          have k1 : ¬ ((x : Int) ≤ 57) := by omega
          have c2 : decide ((97 : Int) ≤ (x : Int)) = false := by rw [decide_eq_false_iff_not]; omega
          have k2 : ¬ ((97 : Int) ≤ (x : Int)) := by omega
          have c3 : decide ((x : Int) ≤ 102) = true := by rw [decide_eq_true_eq]; omega
          have k3 : ((x : Int) ≤ 102) := by omega
          have c4 : decide ((65 : Int) ≤ (x : Int)) = true := by rw [decide_eq_true_eq]; omega
          have k4 : ((65 : Int) ≤ (x : Int)) := by omega
          have c5 : decide ((x : Int) ≤ 70) = true := by rw [decide_eq_true_eq]; omega
          have k5 : ((x : Int) ≤ 70) := by omega
          have hd : hexD (x : Int) = (x : Int) - 55 := by unfold hexD; rw [if_neg (by omega), if_neg (by omega), if_pos (by omega)]
          rw [hd, if_neg (by omega)] at hst
          have m0 : ¬ (x : Int) - 55 < 0 := by omega
          have m1 : decide ((x : Int) - 55 < 0) = false := by rw [decide_eq_false_iff_not]; omega
          by_cases hc : 1114111 < 16 * n + ((x : Int) - 55)
          · have q1 : decide (1114111 < 16 * n + ((x : Int) - 55)) = true := by rw [decide_eq_true_eq]; exact hc
            unfold cap at hst
            rw [if_pos hc] at hst
            have HX := Lib.hid hst
            clear hst hd hr
            go_wp2_with fail
            go_round
            case rel => exact ⟨1114112, i + 1, rfl, rfl, hlt, by omega, by omega, HX⟩
            case measure => simp only [intOf]; omega
          · have q1 : decide (1114111 < 16 * n + ((x : Int) - 55)) = false := by rw [decide_eq_false_iff_not]; exact hc
            unfold cap at hst
            rw [if_neg hc] at hst
            have HX := Lib.hid hst
            clear hst hd hr
            go_wp2_with fail
            go_round
            case rel => exact ⟨16 * n + ((x : Int) - 55), i + 1, rfl, rfl, hlt, by omega, by omega, HX⟩
            case measure => simp only [intOf]; omega
        · have c0 : decide ((48 : Int) ≤ (x : Int)) = true := by rw [decide_eq_true_eq]; omega
          have k0 : ((48 : Int) ≤ (x : Int)) := by omega
          have c1 : decide ((x : Int) ≤ 57) = false := by rw [decide_eq_false_iff_not]; omega
          have k1 : ¬ ((x : Int) ≤ 57) := by omega
          have c2 : decide ((97 : Int) ≤ (x : Int)) = false := by rw [decide_eq_false_iff_not]; omega
          have k2 : ¬ ((97 : Int) ≤ (x : Int)) := by omega
          have c3 : decide ((x : Int) ≤ 102) = true := by rw [decide_eq_true_eq]; omega
          have k3 : ((x : Int) ≤ 102) := by omega
          have c4 : decide ((65 : Int) ≤ (x : Int)) = true := by rw [decide_eq_true_eq]; omega
          have k4 : ((65 : Int) ≤ (x : Int)) := by omega
          have c5 : decide ((x : Int) ≤ 70) = false := by rw [decide_eq_false_iff_not]; omega
          have k5 : ¬ ((x : Int) ≤ 70) := by omega
          have hd : hexD (x : Int) = -1 := by unfold hexD; rw [if_neg (by omega), if_neg (by omega), if_neg (by omega)]
          rw [hd, if_pos (by decide)] at hst
          have HX := Lib.hid hst
          clear hst hd hr
          go_wp2_with fail
          go_ret
          rw [HE.out, ← HX.out]
          exact ⟨rfl, rfl⟩
        · have c0 : decide ((48 : Int) ≤ (x : Int)) = true := by rw [decide_eq_true_eq]; omega
          have k0 : ((48 : Int) ≤ (x : Int)) := by omega
          have c1 : decide ((x : Int) ≤ 57) = false := by rw [decide_eq_false_iff_not]; omega
          have k1 : ¬ ((x : Int) ≤ 57) := by omega
          have c2 : decide ((97 : Int) ≤ (x : Int)) = true := by rw [decide_eq_true_eq]; omega
          have k2 : ((97 : Int) ≤ (x : Int)) := by omega
          have c3 : decide ((x : Int) ≤ 102) = true := by rw [decide_eq_true_eq]; omega
          have k3 : ((x : Int) ≤ 102) := by omega
          have c4 : decide ((65 : Int) ≤ (x : Int)) = true := by rw [decide_eq_true_eq]; omega
          have k4 : ((65 : Int) ≤ (x : Int)) := by omega
          have c5 : decide ((x : Int) ≤ 70) = false := by rw [decide_eq_false_iff_not]; omega
          have k5 : ¬ ((x : Int) ≤ 70) := by omega
          have hd : hexD (x : Int) = (x : Int) - 87 := by unfold hexD; rw [if_neg (by omega), if_pos (by omega)]
          rw [hd, if_neg (by omega)] at hst
          have m0 : ¬ (x : Int) - 87 < 0 := by omega
          have m1 : decide ((x : Int) - 87 < 0) = false := by rw [decide_eq_false_iff_not]; omega
          by_cases hc : 1114111 < 16 * n + ((x : Int) - 87)
          · have q1 : decide (1114111 < 16 * n + ((x : Int) - 87)) = true := by rw [decide_eq_true_eq]; exact hc
            unfold cap at hst
            rw [if_pos hc] at hst
            have HX := Lib.hid hst
            clear hst hd hr
            go_wp2_with fail
            go_round
            case rel => exact ⟨1114112, i + 1, rfl, rfl, hlt, by omega, by omega, HX⟩
            case measure => simp only [intOf]; omega
          · have q1 : decide (1114111 < 16 * n + ((x : Int) - 87)) = false := by rw [decide_eq_false_iff_not]; exact hc
            unfold cap at hst
            rw [if_neg hc] at hst
            have HX := Lib.hid hst
            clear hst hd hr
            go_wp2_with fail
            go_round
            case rel => exact ⟨16 * n + ((x : Int) - 87), i + 1, rfl, rfl, hlt, by omega, by omega, HX⟩
            case measure => simp only [intOf]; omega
        · have c0 : decide ((48 : Int) ≤ (x : Int)) = true := by rw [decide_eq_true_eq]; omega
          have k0 : ((48 : Int) ≤ (x : Int)) := by omega
          have c1 : decide ((x : Int) ≤ 57) = false := by rw [decide_eq_false_iff_not]; omega
          have k1 : ¬ ((x : Int) ≤ 57) := by omega
          have c2 : decide ((97 : Int) ≤ (x : Int)) = true := by rw [decide_eq_true_eq]; omega
          have k2 : ((97 : Int) ≤ (x : Int)) := by omega
          have c3 : decide ((x : Int) ≤ 102) = false := by rw [decide_eq_false_iff_not]; omega
          have k3 : ¬ ((x : Int) ≤ 102) := by omega
          have c4 : decide ((65 : Int) ≤ (x : Int)) = true := by rw [decide_eq_true_eq]; omega
          have k4 : ((65 : Int) ≤ (x : Int)) := by omega
          have c5 : decide ((x : Int) ≤ 70) = false := by rw [decide_eq_false_iff_not]; omega
          have k5 : ¬ ((x : Int) ≤ 70) := by omega
          have hd : hexD (x : Int) = -1 := by unfold hexD; rw [if_neg (by omega), if_neg (by omega), if_neg (by omega)]
          rw [hd, if_pos (by decide)] at hst
          have HX := Lib.hid hst
          clear hst hd hr
          go_wp2_with fail
          go_ret
          rw [HE.out, ← HX.out]
          exact ⟨rfl, rfl⟩
      · have d1 : decide ((i : Int) < (s.size : Int)) = false := by rw [decide_eq_false_iff_not]; omega
        have f1 : ¬ (i : Int) < (s.size : Int) := by omega
        have hst := HI.out
        rw [List.drop_eq_nil_of_le (by rw [byL_len]; omega), hexF] at hst
        have he := HE.out
        rw [← hst] at he
        have T := ris_at n w
        cases hI : isC n with
        | true =>
          rw [hI] at T he
          have HX := Lib.hid he
          replace T := Lib.hid T
          clear he hst hI
          go_wp2_with (go_at_call 31; refine T.out.mono ?_; rintro e w' ⟨rfl, rfl⟩)
          go_ret
          rw [HX.out]
          exact ⟨rfl, rfl⟩
        | false =>
          rw [hI] at T he
          have HX := Lib.hid he
          replace T := Lib.hid T
          clear he hst hI
          go_wp2_with (go_at_call 31; refine T.out.mono ?_; rintro e w' ⟨rfl, rfl⟩)
          go_ret
          rw [HX.out]
          exact ⟨rfl, rfl⟩
end Go.Proofs.YtgnnkfdpfmlajaaDoor
namespace Go.Proofs.YtgnnkfdpfmlajaaDoor
open Go.RowKit Bg Lx
set_option linter.unusedVariables false
set_option linter.unusedSimpArgs false


/-- A comment, said of the place k of all bytes. -/
def cm (l : List Int) (f k : Nat) (d : Int) : Int × Int × Int := com f k (l.drop k) d
theorem cm_ne {l : List Int} {k : Nat} (h : k < l.length) : ¬ l.drop k = [] := fun e => by
  have := congrArg List.length e
  rw [List.length_drop] at this
  simp at this
  omega
theorem cm_end {l : List Int} {f k : Nat} {d : Int} (h : l.length ≤ k) : cm l f k d = (0, 4, (f : Int)) := by
  unfold cm
  rw [List.drop_eq_nil_of_le h, com]
  simp
theorem cm_deep {l : List Int} {f k : Nat} (h : k < l.length) (ho : atS (l.drop k) [35, 124] = true) : cm l f k 200 = (0, 5, (k : Int)) := by
  unfold cm
  rw [com, dif_neg (cm_ne h), if_pos ho, if_pos rfl]
theorem cm_open {l : List Int} {f k : Nat} {d : Int} (h : k < l.length) (ho : atS (l.drop k) [35, 124] = true) (hd : d ≠ 200) : cm l f k d = cm l f (k + 2) (d + 1) := by
  unfold cm
  rw [com, dif_neg (cm_ne h), if_pos ho, if_neg hd, List.drop_drop]
  rfl
theorem cm_done {l : List Int} {f k : Nat} {d : Int} (h : k < l.length) (ho : atS (l.drop k) [35, 124] = false) (hc : atS (l.drop k) [124, 35] = true) (hd : d - 1 = 0) : cm l f k d = ((k : Int) + 2, 0, 0) := by
  unfold cm
  rw [com, dif_neg (cm_ne h), if_neg (by rw [ho]; simp), if_pos hc, if_pos hd]
theorem cm_close {l : List Int} {f k : Nat} {d : Int} (h : k < l.length) (ho : atS (l.drop k) [35, 124] = false) (hc : atS (l.drop k) [124, 35] = true) (hd : ¬ d - 1 = 0) : cm l f k d = cm l f (k + 2) (d - 1) := by
  unfold cm
  rw [com, dif_neg (cm_ne h), if_neg (by rw [ho]; simp), if_pos hc, if_neg hd, List.drop_drop]
  rfl
theorem cm_none {l : List Int} {f k : Nat} {d : Int} (h : k < l.length) (ho : atS (l.drop k) [35, 124] = false) (hc : atS (l.drop k) [124, 35] = false) (e : chr (l.drop k) = none) : cm l f k d = (0, 4, (k : Int)) := by
  unfold cm
  rw [com, dif_neg (cm_ne h), if_neg (by rw [ho]; simp), if_neg (by rw [hc]; simp)]
  simp only [e]
theorem cm_some {l : List Int} {f k : Nat} {d c : Int} {n : Nat} (h : k < l.length) (hn : 1 ≤ n) (ho : atS (l.drop k) [35, 124] = false) (hc : atS (l.drop k) [124, 35] = false) (e : chr (l.drop k) = some (c, n)) : cm l f k d = cm l f (k + n) d := by
  unfold cm
  rw [com, dif_neg (cm_ne h), if_neg (by rw [ho]; simp), if_neg (by rw [hc]; simp)]
  simp only [e]
  rw [List.drop_drop]
  obtain ⟨m, rfl⟩ : ∃ m, n = m + 1 := ⟨n - 1, by omega⟩
  rfl
theorem wrap_signed (x : Int) (h0 : -1000000000 ≤ x) (h1 : x ≤ 1000000000) : IntKind.i64.wrap x = x := by
  have hb : IntKind.i64.bits = 64 := rfl
  simp only [IntKind.wrap, IntKind.signed, hb, if_true]
  have h2 : (2 : Int) ^ 64 = 18446744073709551616 := by decide
  have h3 : (2 : Int) ^ (64 - 1) = 9223372036854775808 := by decide
  rw [h2, h3]
  simp only [Bool.true_and, Bool.and_eq_true, decide_eq_true_eq, true_and, ge_iff_le, if_true]
  split <;> omega
theorem open_str : strOfNums [35, 124] = ({ data := #[35, 124] } : ByteArray) := by rfl
theorem close_str : strOfNums [124, 35] = ({ data := #[124, 35] } : ByteArray) := by rfl
theorem open_byts : Byts [35, 124] := by intro x hx; simp at hx; omega
theorem close_byts : Byts [124, 35] := by intro x hx; simp at hx; omega
/-- What a function of three whole numbers gives back. -/
def tri (V : Int × Int × Int) : Value := .tuple #[.int .i64 V.1, .int .i64 V.2.1, .int .i64 V.2.2]
set_option maxRecDepth 100000 in
set_option maxHeartbeats 40000000 in
theorem comment_at {w : World} {p : Option Addr} {c : Nat} {l : List Int} (a : Arg .u8 w p c l) (hb : Byts l) (hl : l.length ≤ 1000000) (f : Nat) (hf : f ≤ l.length) :
    Calls Tryd.prog 21 #[.slice p l.length c, .int .i64 f] w fun e w' => e = .returned (tri (com f f (l.drop f) 0)) ∧ Below w.heap.size w w' := by
  have HA := Lib.hid (And.intro @a.below (And.intro hb hl))
  obtain ⟨V, hV⟩ : ∃ V, V = cm l f f 0 := ⟨_, rfl⟩
  have hV' : com f f (l.drop f) 0 = V := hV.symm
  rw [hV']
  have HV := Lib.hid hV
  obtain ⟨L, hL⟩ : ∃ L, L = l.length := ⟨_, rfl⟩
  have HL := Lib.hid hL
  rw [← hL] at hl hf ⊢
  clear a hb hV hV' hL
  go_enter Tryd.func21, Tryd.ntmps21
  go_wp2_with fail
  go_loopw [1, 8] (fun v t wr => ∃ (k : Nat) (d : Int), v = .int .i64 (k : Int) ∧ t = .int .i64 d ∧ k ≤ L ∧ d ≤ 200 ∧ 0 ≤ d + (k : Int) ∧ Hid (Below w.heap.size w wr ∧ cm l f k d = V)) (fun v _ _ => L - (intOf v).toNat)
  case atStart => exact ⟨f, 0, rfl, rfl, hf, by omega, by omega, Lib.hid ⟨Below.refl _ _, HV.out.symm⟩⟩
  case round =>
    obtain ⟨k, d, rfl, rfl, hk, hd0, hd1, HI⟩ := hrel
    by_cases hlt : k < L
    · have d1 : decide ((k : Int) < (L : Int)) = true := by rw [decide_eq_true_eq]; omega
      have f1 : (k : Int) < (L : Int) := by omega
      have hkl : k < l.length := by rw [← HL.out]; exact hlt
      have aR := HA.out.1 _ HI.out.1
      have T1 := at_at aR HA.out.2.1 (by have := HA.out.2.2; omega) k (by omega) open_byts (by simp) (by simp)
      have T2 := at_at aR HA.out.2.1 (by have := HA.out.2.2; omega) k (by omega) close_byts (by simp) (by simp)
      have T3 := rget_at aR HA.out.2.1 HA.out.2.2 (k : Int)
      rw [open_str, ← HL.out] at T1
      rw [close_str, ← HL.out] at T2
      rw [← HL.out] at T3
      have hw2 : IntKind.i64.wrap ((k : Int) + 2) = (k : Int) + 2 := by rw [wrap_small _ (by omega) (by omega)]
      clear aR
      cases hO : atS (l.drop k) [35, 124] with
      | true =>
        rw [hO] at T1
        have hk2 := atS_len hO
        rw [List.length_drop, ← HL.out] at hk2
        simp only [List.length_cons, List.length_nil] at hk2
        replace T1 := Lib.hid T1
        by_cases h200 : d = 200
        · subst h200
          have hv := HI.out.2
          rw [cm_deep hkl hO] at hv
          have HX := Lib.hid hv
          clear T2 T3 hO hv
          go_wp2_with (go_at_call 20; refine T1.out.mono ?_; rintro e w' ⟨rfl, rfl⟩)
          go_ret3
          rw [← HX.out]
          exact ⟨rfl, HI.out.1⟩
        · have q1 : decide (d = 200) = false := by rw [decide_eq_false_iff_not]; exact h200
          have q2 : (d == 200) = false := by rw [beq_eq_false_iff_ne]; exact h200
          have hwd : IntKind.i64.wrap (d + 1) = d + 1 := wrap_signed _ (by omega) (by omega)
          have hv := HI.out.2
          rw [cm_open hkl hO h200] at hv
          have HX := Lib.hid hv
          clear T2 T3 hO hv
          go_wp2_with (go_at_call 20; refine T1.out.mono ?_; rintro e w' ⟨rfl, rfl⟩)
          go_roundw
          case rel => exact ⟨k + 2, d + 1, rfl, rfl, by omega, by omega, by omega, Lib.hid ⟨HI.out.1, HX.out⟩⟩
          case measure => (simp only [intOf]; omega)
      | false =>
        rw [hO] at T1
        replace T1 := Lib.hid T1
        cases hC : atS (l.drop k) [124, 35] with
        | true =>
          rw [hC] at T2
          have hk2 := atS_len hC
          rw [List.length_drop, ← HL.out] at hk2
          simp only [List.length_cons, List.length_nil] at hk2
          replace T2 := Lib.hid T2
          have hwd : IntKind.i64.wrap (d - 1) = d - 1 := wrap_signed _ (by omega) (by omega)
          by_cases h1 : d - 1 = 0
          · have q1 : decide (d - 1 = 0) = true := by rw [decide_eq_true_eq]; exact h1
            have q2 : (d - 1 == 0) = true := by rw [beq_iff_eq]; exact h1
            have hv := HI.out.2
            rw [cm_done hkl hO hC h1] at hv
            have HX := Lib.hid hv
            clear T3 hO hC hv
            go_wp2_with fail
            refine T1.out.mono ?_
            rintro e w' ⟨rfl, rfl⟩
            go_wp2_with fail
            refine T2.out.mono ?_
            rintro e w' ⟨rfl, rfl⟩
            go_wp2_with fail
            go_ret3
            rw [← HX.out]
            exact ⟨rfl, HI.out.1⟩
          · have q1 : decide (d - 1 = 0) = false := by rw [decide_eq_false_iff_not]; exact h1
            have q2 : (d - 1 == 0) = false := by rw [beq_eq_false_iff_ne]; exact h1
            have hv := HI.out.2
            rw [cm_close hkl hO hC h1] at hv
            have HX := Lib.hid hv
            clear T3 hO hC hv
            go_wp2_with fail
            refine T1.out.mono ?_
            rintro e w' ⟨rfl, rfl⟩
            go_wp2_with fail
            refine T2.out.mono ?_
            rintro e w' ⟨rfl, rfl⟩
            go_wp2_with fail
            go_roundw
            case rel => exact ⟨k + 2, d - 1, rfl, rfl, by omega, by omega, by omega, Lib.hid ⟨HI.out.1, HX.out⟩⟩
            case measure => (simp only [intOf]; omega)
        | false =>
          rw [hC] at T2
          replace T2 := Lib.hid T2
          cases hc : chr (l.drop k) with
          | none =>
            obtain ⟨e1, e2, e3⟩ := g_none hkl hc
            rw [e1, e2, e3] at T3
            replace T3 := Lib.hid T3
            have hv := HI.out.2
            rw [cm_none hkl hO hC hc] at hv
            have HX := Lib.hid hv
            clear hc e1 e2 e3 hO hC hv
            go_wp2_with fail
            refine T1.out.mono ?_
            rintro e w' ⟨rfl, rfl⟩
            go_wp2_with fail
            refine T2.out.mono ?_
            rintro e w' ⟨rfl, rfl⟩
            go_wp2_with fail
            refine T3.out.mono ?_
            rintro e w' ⟨rfl, BB⟩
            replace BB := Lib.hid BB
            go_wp2_with fail
            go_ret3
            rw [← HX.out]
            exact ⟨rfl, HI.out.1.trans (BB.out.mono HI.out.1.size)⟩
          | some x =>
            obtain ⟨ch, n⟩ := x
            obtain ⟨e1, e2, e3⟩ := g_some hkl hc
            rw [e1, e2, e3] at T3
            replace T3 := Lib.hid T3
            have hn := chr_lt (HA.out.2.1.drop k) hc
            rw [List.length_drop, ← HL.out] at hn
            have hv := HI.out.2
            rw [cm_some hkl hn.1 hO hC hc] at hv
            have HX := Lib.hid hv
            clear hc e1 e2 e3 hO hC hv
            have hwn : IntKind.i64.wrap ((k : Int) + (n : Int)) = (k : Int) + (n : Int) := by rw [wrap_small _ (by omega) (by omega)]
            go_wp2_with fail
            refine T1.out.mono ?_
            rintro e w' ⟨rfl, rfl⟩
            go_wp2_with fail
            refine T2.out.mono ?_
            rintro e w' ⟨rfl, rfl⟩
            go_wp2_with fail
            refine T3.out.mono ?_
            rintro e w' ⟨rfl, BB⟩
            replace BB := Lib.hid BB
            go_wp2_with fail
            go_roundw
            case rel => exact ⟨k + n, d, rfl, rfl, by omega, by omega, by omega, Lib.hid ⟨HI.out.1.trans (BB.out.mono HI.out.1.size), HX.out⟩⟩
            case measure => (simp only [intOf]; omega)
    · have d1 : decide ((k : Int) < (L : Int)) = false := by rw [decide_eq_false_iff_not]; omega
      have f1 : ¬ (k : Int) < (L : Int) := by omega
      have hv := HI.out.2
      rw [cm_end (by rw [← HL.out]; omega)] at hv
      have HX := Lib.hid hv
      clear hv
      go_wp2_with fail
      go_ret3
      rw [← HX.out]
      exact ⟨rfl, HI.out.1⟩
end Go.Proofs.YtgnnkfdpfmlajaaDoor
namespace Go.Proofs.YtgnnkfdpfmlajaaDoor
open Go.RowKit Bg Lx
set_option linter.unusedVariables false
set_option linter.unusedSimpArgs false


theorem run_le (r : List Int) : (run r).length ≤ r.length := (List.takeWhile_prefix _).length_le
theorem run_is (r : List Int) : run r = r.take (run r).length := (List.prefix_iff_eq_take.1 (List.takeWhile_prefix _))
def spB : ByteArray := { data := #[115, 112, 97, 99, 101] }
def nlB : ByteArray := { data := #[110, 101, 119, 108, 105, 110, 101] }
def tbB : ByteArray := { data := #[116, 97, 98] }
theorem sp_str : spB = strOfNums [115, 112, 97, 99, 101] := by rfl
theorem nl_str : nlB = strOfNums [110, 101, 119, 108, 105, 110, 101] := by rfl
theorem tb_str : tbB = strOfNums [116, 97, 98] := by rfl
/-- What the document's char gives: the char and its end, or that there is none. -/
def ChIs (f : Nat) (o : Option (Int × Nat)) (x y : Int) (b : Bool) : Prop := match o with
  | none => b = false
  | some (c, n) => b = true ∧ x = c ∧ y = (f : Int) + 2 + n
set_option maxRecDepth 100000 in
set_option maxHeartbeats 40000000 in
theorem char_at {w : World} {p : Option Addr} {c : Nat} {l : List Int} (a : Arg .u8 w p c l) (hb : Byts l) (hl : l.length ≤ 1000000) (f : Nat) (hf : f + 2 ≤ l.length) :
    Calls Tryd.prog 34 #[.slice p l.length c, .int .i64 f] w fun e w' => ∃ x y b, e = .returned (.tuple #[.int .i64 x, .int .i64 y, .bool b]) ∧ ChIs f (chl (l.drop (f + 2))) x y b ∧ Below w.heap.size w w' := by
  have T3 := rget_at a hb hl ((f : Int) + 2)
  have hle := a.le
  have hmx := a.max
  have hw2 : IntKind.i64.wrap ((f : Int) + 2) = (f : Int) + 2 := by rw [wrap_small _ (by omega) (by omega)]
  cases hc : chr (l.drop (f + 2)) with
  | none =>
    have hg : gC l ((f : Int) + 2) = 0 ∧ gN l ((f : Int) + 2) = 0 ∧ gE l ((f : Int) + 2) ≠ 0 := by
      by_cases h : f + 2 < l.length
      · have := g_none (k := f + 2) h hc
        rw [show ((f + 2 : Nat) : Int) = (f : Int) + 2 by omega] at this
        omega
      · have := g_out (l := l) (a := (f : Int) + 2) (by omega)
        omega
    have hch : chl (l.drop (f + 2)) = none := by unfold chl; simp only [hc]
    rw [hch]
    obtain ⟨E, hE⟩ : ∃ E, E = gE l ((f : Int) + 2) := ⟨_, rfl⟩
    rw [hg.1, hg.2.1, ← hE] at T3
    have q0 : ¬ E = 0 := by rw [hE]; exact hg.2.2
    have q1 : (E == 0) = false := by rw [beq_eq_false_iff_ne]; exact q0
    have q2 : (E != 0) = true := by rw [bne_iff_ne]; exact q0
    replace T3 := Lib.hid T3
    clear a hb hc hg hch hE
    obtain ⟨L, hL⟩ : ∃ L, L = l.length := ⟨_, rfl⟩
    rw [← hL] at T3 hl hle hf ⊢
    clear hL
    go_enter Tryd.func34, Tryd.ntmps34
    go_wp2_with (go_at_call 19; refine T3.out.mono ?_; rintro e w' ⟨rfl, BB⟩; replace BB := Lib.hid BB)
    go_ret3
    exact ⟨_, _, _, rfl, rfl, BB.out⟩
  | some v =>
    obtain ⟨ch, n⟩ := v
    have hlt : f + 2 < l.length := by
      rcases Nat.lt_or_ge (f + 2) l.length with h | h
      · exact h
      · rw [List.drop_eq_nil_of_le h, chr_nil] at hc
        cases hc
    obtain ⟨e1, e2, e3⟩ := g_some (k := f + 2) hlt hc
    rw [show ((f + 2 : Nat) : Int) = (f : Int) + 2 by omega] at e1 e2 e3
    rw [e1, e2, e3] at T3
    have hn := chr_lt (hb.drop _) hc
    rw [List.length_drop] at hn
    obtain ⟨g, off, rfl, -⟩ := a.at (by omega)
    have HA := Lib.hid (And.intro @a.below (And.intro hb hl))
    obtain ⟨m, hm⟩ : ∃ m, m = (run (l.drop (f + 2 + n))).length := ⟨_, rfl⟩
    have hmr := run_le (l.drop (f + 2 + n))
    rw [← hm, List.length_drop] at hmr
    have hch : chl (l.drop (f + 2)) = if m = 0 then some (ch, n) else if (l.drop (f + 2)).take (n + m) = [115, 112, 97, 99, 101] then some (32, n + m) else if (l.drop (f + 2)).take (n + m) = [110, 101, 119, 108, 105, 110, 101] then some (10, n + m) else if (l.drop (f + 2)).take (n + m) = [116, 97, 98] then some (9, n + m) else if ch = 120 ∧ 0 ≤ hexL ((l.drop (f + 2 + n)).take m) then some (hexL ((l.drop (f + 2 + n)).take m), n + m) else none := by
      have hr : run ((l.drop (f + 2)).drop n) = (l.drop (f + 2 + n)).take m := by rw [List.drop_drop, hm]; exact run_is _
      have hrl : (run ((l.drop (f + 2)).drop n)).length = m := by rw [List.drop_drop, hm]
      have hz : (run ((l.drop (f + 2)).drop n) = []) = (m = 0) := by rw [← hrl, List.length_eq_zero_iff]
      unfold chl
      simp only [hc]
      simp only [hz, hrl]
      rw [hr]
    have hrE : runE l (f + 2 + n) = f + 2 + n + m := by unfold runE; rw [← hm]
    obtain ⟨A, hA⟩ : ∃ A, A = (l.drop (f + 2)).take (n + m) := ⟨_, rfl⟩
    obtain ⟨X, hX⟩ : ∃ X, X = (l.drop (f + 2 + n)).take m := ⟨_, rfl⟩
    have hAb : Byts A := by rw [hA]; exact (hb.drop _).take _
    have hXb : Byts X := by rw [hX]; exact (hb.drop _).take _
    have hAl : A.length = n + m := by rw [hA, List.length_take, List.length_drop]; omega
    have hXl : X.length = m := by rw [hX, List.length_take, List.length_drop]; omega
    have hCV : ∀ w', Below w.heap.size w w' → (convert 22 9 (.slice (some ⟨g, off + (f + 2), none⟩) (f + 2 + n + m - (f + 2)) (c - (f + 2)))).run Tryd.prog w' = .ok (.string (strOfNums A)) w' ∧ (convert 22 9 (.slice (some ⟨g, off + (f + 2 + n), none⟩) m (c - (f + 2 + n)))).run Tryd.prog w' = .ok (.string (strOfNums X)) w' := by
      intro w' BB
      have a1 := conv_arg (slice_of (HA.out.1 w' BB) (k := f + 2) (n := n + m) (by omega))
      have a2 := conv_arg (slice_of (HA.out.1 w' BB) (k := f + 2 + n) (n := m) (by omega))
      rw [← hA, hAl] at a1
      rw [← hX, hXl] at a2
      rw [show f + 2 + n + m - (f + 2) = n + m by omega]
      exact ⟨a1, a2⟩
    rw [← hA, ← hX] at hch
    have t1 := beq_bytes hAb (b := [115, 112, 97, 99, 101]) (by intro x hx; simp at hx; omega)
    have t2 := beq_bytes hAb (b := [110, 101, 119, 108, 105, 110, 101]) (by intro x hx; simp at hx; omega)
    have t3 := beq_bytes hAb (b := [116, 97, 98]) (by intro x hx; simp at hx; omega)
    rw [← sp_str] at t1
    rw [← nl_str] at t2
    rw [← tb_str] at t3
    have TX := fun w' => hex_at (strOfNums X) (by rw [str_size, hXl]; omega) w'
    rw [byL_str hXb] at TX
    obtain ⟨u, hu⟩ : ∃ u, u = strOfNums A := ⟨_, rfl⟩
    obtain ⟨v, hv⟩ : ∃ v, v = strOfNums X := ⟨_, rfl⟩
    obtain ⟨N, hN⟩ : ∃ N, N = hexL X := ⟨_, rfl⟩
    rw [← hu] at t1 t2 t3
    rw [← hv, ← hN] at TX
    rw [← hu, ← hv] at hCV
    rw [← hN] at hch
    have TR := fun w' (BB : Below w.heap.size w w') => run_at (HA.out.1 w' BB) (by have := HA.out.2.2; omega) (f + 2 + n) (by omega)
    rw [hrE] at TR
    rw [show ((f + 2 + n : Nat) : Int) = (f : Int) + 2 + n by omega, show ((f + 2 + n + m : Nat) : Int) = (f : Int) + 2 + n + m by omega] at TR
    have HC := Lib.hid hCV
    replace T3 := Lib.hid T3
    replace TR := Lib.hid TR
    replace TX := Lib.hid TX
    have HX := Lib.hid hch
    obtain ⟨o, ho⟩ : ∃ o, o = chl (l.drop (f + 2)) := ⟨_, rfl⟩
    rw [← ho] at hch ⊢
    replace hch := Lib.hid hch
    obtain ⟨L, hL⟩ : ∃ L, L = l.length := ⟨_, rfl⟩
    rw [← hL] at T3 hl hle hf hlt hn hmr ⊢
    rw [← hL] at TR
    have hwn : IntKind.i64.wrap ((f : Int) + 2 + (n : Int)) = (f : Int) + 2 + (n : Int) := by rw [wrap_small _ (by omega) (by omega)]
    clear a hb hc e1 e2 e3 HX hm hrE hA hX hAb hXb hAl hXl hCV hu hv hN hL ho HA
    have f1 : ¬ (f : Int) + 2 < 0 := by omega
    have f2 : ¬ (f : Int) + 2 + n < 0 := by omega
    have f3 : (f : Int) + 2 ≤ (f : Int) + 2 + n + m := by omega
    have f4 : (f : Int) + 2 + n + m ≤ (c : Int) := by omega
    have f5 : (f : Int) + 2 + n ≤ (f : Int) + 2 + n + m := by omega
    have f6 : ¬ c = f + 2 := by omega
    go_enter Tryd.func34, Tryd.ntmps34
    go_wp2_with fail
    refine T3.out.mono ?_
    rintro e w' ⟨rfl, BB⟩
    have R := Lib.hid (TR.out w' BB)
    have Q := HC.out w' BB
    replace BB := Lib.hid BB
    obtain ⟨Q1, Q2⟩ := Q
    rw [show spB.toList = ([115, 112, 97, 99, 101] : List UInt8) by unfold spB; rw [ByteArray.toList_eq]] at t1
    rw [show nlB.toList = ([110, 101, 119, 108, 105, 110, 101] : List UInt8) by unfold nlB; rw [ByteArray.toList_eq]] at t2
    rw [show tbB.toList = ([116, 97, 98] : List UInt8) by unfold tbB; rw [ByteArray.toList_eq]] at t3
    by_cases h0 : m = 0
    · have q0 : ((f : Int) + 2 + n + m == (f : Int) + 2 + n) = true := by rw [beq_iff_eq]; omega
      have q1 : decide ((f : Int) + 2 + n + m = (f : Int) + 2 + n) = true := by rw [decide_eq_true_eq]; omega
      have H0 := Lib.hid h0
      clear h0
      go_wp2_with (first | (go_at_call 26; refine R.out.mono ?_; rintro e w2 ⟨rfl, rfl⟩) | (go_at_call 33; refine (TX.out _).mono ?_; rintro e w2 ⟨rfl, rfl⟩))
      go_ret3
      have ho := hch.out
      rw [if_pos H0.out] at ho
      rw [ho]
      exact ⟨_, _, _, rfl, ⟨rfl, rfl, by have := H0.out; omega⟩, BB.out⟩
    have q0 : ((f : Int) + 2 + n + m == (f : Int) + 2 + n) = false := by rw [beq_eq_false_iff_ne]; omega
    have q1 : decide ((f : Int) + 2 + n + m = (f : Int) + 2 + n) = false := by rw [decide_eq_false_iff_not]; omega
    have q2 : ¬ (f : Int) + 2 + n + m = (f : Int) + 2 + n := by omega
    by_cases h1 : A = [115, 112, 97, 99, 101]
    · rw [decide_eq_true h1] at t1
      go_wp2_with (first | (go_at_call 26; refine R.out.mono ?_; rintro e w2 ⟨rfl, rfl⟩) | (go_at_call 33; refine (TX.out _).mono ?_; rintro e w2 ⟨rfl, rfl⟩))
      go_ret3
      have ho := hch.out
      rw [if_neg h0, if_pos h1] at ho
      rw [ho]
      exact ⟨_, _, _, rfl, ⟨rfl, rfl, by omega⟩, BB.out⟩
    rw [decide_eq_false h1] at t1
    by_cases h2 : A = [110, 101, 119, 108, 105, 110, 101]
    · rw [decide_eq_true h2] at t2
      go_wp2_with (first | (go_at_call 26; refine R.out.mono ?_; rintro e w2 ⟨rfl, rfl⟩) | (go_at_call 33; refine (TX.out _).mono ?_; rintro e w2 ⟨rfl, rfl⟩))
      go_ret3
      have ho := hch.out
      rw [if_neg h0, if_neg h1, if_pos h2] at ho
      rw [ho]
      exact ⟨_, _, _, rfl, ⟨rfl, rfl, by omega⟩, BB.out⟩
    rw [decide_eq_false h2] at t2
    by_cases h3 : A = [116, 97, 98]
    · rw [decide_eq_true h3] at t3
      go_wp2_with (first | (go_at_call 26; refine R.out.mono ?_; rintro e w2 ⟨rfl, rfl⟩) | (go_at_call 33; refine (TX.out _).mono ?_; rintro e w2 ⟨rfl, rfl⟩))
      go_ret3
      have ho := hch.out
      rw [if_neg h0, if_neg h1, if_neg h2, if_pos h3] at ho
      rw [ho]
      exact ⟨_, _, _, rfl, ⟨rfl, rfl, by omega⟩, BB.out⟩
    rw [decide_eq_false h3] at t3
    have ho := hch.out
    rw [if_neg h0, if_neg h1, if_neg h2, if_neg h3] at ho
    replace ho := Lib.hid ho
    by_cases hx : ch = 120
    · by_cases hN : 0 ≤ N
      · have r0 : (ch == 120) = true := by rw [beq_iff_eq]; exact hx
        have r1 : decide (ch = 120) = true := by rw [decide_eq_true_eq]; exact hx
        have r2 : decide (0 ≤ N) = true := by rw [decide_eq_true_eq]; exact hN
        have r3 : decide (N ≥ 0) = true := r2
        go_wp2_with (first | (go_at_call 26; refine R.out.mono ?_; rintro e w2 ⟨rfl, rfl⟩) | (go_at_call 33; refine (TX.out _).mono ?_; rintro e w2 ⟨rfl, rfl⟩))
        go_ret3
        have ho := ho.out
        rw [if_pos ⟨hx, hN⟩] at ho
        rw [ho]
        exact ⟨_, _, _, rfl, ⟨rfl, rfl, by omega⟩, BB.out⟩
      · have r0 : (ch == 120) = true := by rw [beq_iff_eq]; exact hx
        have r1 : decide (ch = 120) = true := by rw [decide_eq_true_eq]; exact hx
        have r2 : decide (0 ≤ N) = false := by rw [decide_eq_false_iff_not]; exact hN
        have r3 : decide (N ≥ 0) = false := r2
        go_wp2_with (first | (go_at_call 26; refine R.out.mono ?_; rintro e w2 ⟨rfl, rfl⟩) | (go_at_call 33; refine (TX.out _).mono ?_; rintro e w2 ⟨rfl, rfl⟩))
        go_ret3
        have ho := ho.out
        rw [if_neg (fun h => by have := h.2; omega)] at ho
        rw [ho]
        exact ⟨_, _, _, rfl, rfl, BB.out⟩
    · have r0 : (ch == 120) = false := by rw [beq_eq_false_iff_ne]; exact hx
      have r1 : decide (ch = 120) = false := by rw [decide_eq_false_iff_not]; exact hx
      go_wp2_with (first | (go_at_call 26; refine R.out.mono ?_; rintro e w2 ⟨rfl, rfl⟩) | (go_at_call 33; refine (TX.out _).mono ?_; rintro e w2 ⟨rfl, rfl⟩))
      go_ret3
      have ho := ho.out
      rw [if_neg (fun h => hx h.1)] at ho
      rw [ho]
      exact ⟨_, _, _, rfl, rfl, BB.out⟩
end Go.Proofs.YtgnnkfdpfmlajaaDoor
namespace Go.Proofs.YtgnnkfdpfmlajaaDoor
open Go.RowKit Bg Lx
set_option linter.unusedVariables false
set_option linter.unusedSimpArgs false


/-- What the document's test of integers gives. -/
def InIs (o : Option (List Int)) (t : ByteArray) (b : Bool) : Prop := match o with
  | none => b = false
  | some x => b = true ∧ byL t = x
def InRet (s : ByteArray) (e : Ending) : Prop := ∃ t b, e = .returned (.tuple #[.string t, .bool b]) ∧ InIs (int (byL s)) t b
theorem byL_app (a b : ByteArray) : byL (a ++ b) = byL a ++ byL b := by
  unfold byL
  rw [ByteArray.data_append, Array.toList_append, List.map_append]
theorem byL_extract (s : ByteArray) (i : Nat) : byL (s.extract i s.size) = (byL s).drop i := by
  unfold byL
  rw [ByteArray.data_extract, Array.toList_extract, List.extract_eq_take_drop, List.take_of_length_le (by rw [List.length_drop, Array.length_toList]; exact Nat.le_refl _), List.map_drop]
theorem byL_nought (a : ByteArray) : (a.toList == [48]) = decide (byL a = [48]) := by
  rw [Bool.eq_iff_iff, beq_iff_eq, decide_eq_true_eq, ByteArray.toList_eq]
  unfold byL
  constructor
  · intro h
    rw [h]
    rfl
  · intro h
    match hd : a.data.toList with
    | [] => rw [hd] at h; cases h
    | [c] =>
      rw [hd] at h
      simp only [List.map_cons, List.map_nil, List.cons.injEq, and_true] at h
      have : c = 48 := UInt8.toNat_inj.1 (by show c.toNat = 48; omega)
      rw [this]
    | c :: d :: r => rw [hd] at h; have := congrArg List.length h; simp at this
theorem lead_step {l : List Int} {i : Nat} (h : i + 1 < l.length) (hz : l.getD i 0 = 48) : lead (l.drop i) = lead (l.drop (i + 1)) := by
  rw [List.drop_eq_getElem_cons (show i < l.length by omega), List.drop_eq_getElem_cons h]
  rw [List.getD_eq_getElem?_getD, List.getElem?_eq_getElem (show i < l.length by omega)] at hz
  simp only [Option.getD_some] at hz
  rw [lead, if_pos hz]
theorem lead_stop {l : List Int} {i : Nat} (h : i + 1 < l.length) (hz : l.getD i 0 ≠ 48) : lead (l.drop i) = l.drop i := by
  rw [List.drop_eq_getElem_cons (show i < l.length by omega), List.drop_eq_getElem_cons h]
  rw [List.getD_eq_getElem?_getD, List.getElem?_eq_getElem (show i < l.length by omega)] at hz
  simp only [Option.getD_some] at hz
  rw [lead, if_neg hz]
theorem lead_last {l : List Int} {i : Nat} (h : i + 1 = l.length) : lead (l.drop i) = l.drop i := by
  rw [List.drop_eq_getElem_cons (show i < l.length by omega), List.drop_eq_nil_of_le (by omega)]
  rfl
theorem all_drop {l : List Int} {i : Nat} (h : ∀ j, i ≤ j → j < l.length → digitB (l.getD j 0) = true) : (l.drop i).all digitB = true := by
  rw [List.all_eq_true]
  intro x hx
  obtain ⟨j, hj, rfl⟩ := List.getElem_of_mem hx
  rw [List.length_drop] at hj
  have := h (i + j) (by omega) (by omega)
  rw [List.getD_eq_getElem?_getD, List.getElem?_eq_getElem (show i + j < l.length by omega)] at this
  rw [List.getElem_drop]
  exact this
theorem all_not {l : List Int} {i j : Nat} (h : i ≤ j) (hj : j < l.length) (hd : digitB (l.getD j 0) = false) : (l.drop i).all digitB = false := by
  rw [List.all_eq_false]
  refine ⟨l.getD j 0, ?_, by rw [hd]; simp⟩
  rw [List.getD_eq_getElem?_getD, List.getElem?_eq_getElem hj]
  have : j - i < (l.drop i).length := by rw [List.length_drop]; omega
  have e : (l.drop i)[j - i] = l[j] := by rw [List.getElem_drop]; congr 1; omega
  show l[j] ∈ l.drop i
  rw [← e]
  exact List.getElem_mem _
/-- An integer, its digits from the place i on. -/
theorem int_from {s : List Int} {i : Nat} (hi : (i = 1 ∧ (s.getD 0 0 = 43 ∨ s.getD 0 0 = 45)) ∨ (i = 0 ∧ ¬ (s.getD 0 0 = 43 ∨ s.getD 0 0 = 45))) : int s = if s.drop i = [] then none else if (s.drop i).all digitB then some (if s.getD 0 0 = 45 ∧ lead (s.drop i) ≠ [48] then 45 :: lead (s.drop i) else lead (s.drop i)) else none := by
  unfold int
  rcases hi with ⟨rfl, h⟩ | ⟨rfl, h⟩
  · simp only [if_pos h]
  · simp only [if_neg h, List.drop_zero]

set_option maxRecDepth 100000 in
set_option maxHeartbeats 40000000 in
theorem integer_at (s : ByteArray) (hs : s.size ≤ 1000000) (h0 : 0 < s.size) (w : World) : Calls Tryd.prog 36 #[.string s] w fun e w' => InRet s e ∧ w = w' := by
  have hg := byL_get s h0
  have hxb := UInt8.toNat_lt s[0]
  obtain ⟨x, hx⟩ : ∃ x, x = s[0].toNat := ⟨_, rfl⟩
  have hx' : s[0].toNat = x := hx.symm
  rw [← hx] at hg hxb
  clear hx
  have f0 : (0 : Int) < (s.size : Int) := by omega
  have HG := Lib.hid hg
  clear hg
  go_enter Tryd.func36, Tryd.ntmps36
  rcases (show x = 43 ∨ x = 45 ∨ (x ≠ 43 ∧ x ≠ 45) by omega) with rfl | rfl | ⟨n1, n2⟩
  · have hin := int_from (s := byL s) (i := 1) (Or.inl ⟨rfl, by rw [HG.out]; decide⟩)
    by_cases h1 : s.size = 1
    · rw [if_pos (List.drop_eq_nil_of_le (by rw [byL_len]; omega))] at hin
      have HS := Lib.hid hin
      clear hin
      have q1 : ((1 : Int) == (s.size : Int)) = true := by rw [beq_iff_eq]; omega
      go_wp2_with fail
      go_ret2
      refine ⟨⟨_, _, rfl, ?_⟩, rfl⟩
      rw [HS.out]
      rfl
    have q1 : ((1 : Int) == (s.size : Int)) = false := by rw [beq_eq_false_iff_ne]; omega
    rw [if_neg (fun e => by have := congrArg List.length e; rw [List.length_drop, byL_len] at this; simp only [List.length_nil] at this; omega)] at hin
    have HS := Lib.hid hin
    clear hin
    go_wp2_with fail
    go_loop [5] (fun v => ∃ k : Nat, v = .int .i64 k ∧ 1 ≤ k ∧ k ≤ s.size ∧ Hid (∀ j, 1 ≤ j → j < k → digitB ((byL s).getD j 0) = true)) (fun v => s.size - (intOf v).toNat)
    case atStart => exact ⟨1, rfl, Nat.le_refl _, by omega, Lib.hid fun j a b => absurd b (by omega)⟩
    case round =>
      obtain ⟨k, rfl, hk0, hk, HK⟩ := hrel
      by_cases hlt : k < s.size
      · have d1 : decide ((k : Int) < (s.size : Int)) = true := by rw [decide_eq_true_eq]; omega
        have f1 : (k : Int) < (s.size : Int) := by omega
        have hgk := byL_get s hlt
        have T := digit_at (s[k].toNat : Int) w
        have hws : IntKind.i64.wrap ((k : Int) + 1) = (k : Int) + 1 := by rw [wrap_small _ (by omega) (by omega)]
        obtain ⟨y, hy⟩ : ∃ y, y = s[k].toNat := ⟨_, rfl⟩
        have hy' : s[k].toNat = y := hy.symm
        rw [← hy] at hgk T
        clear hy
        cases hD : digitB (y : Int) with
        | true =>
          rw [hD] at T
          rw [← hgk] at hD
          replace T := Lib.hid T
          have HD := Lib.hid hD
          clear hD hgk
          go_wp2_with (go_at_call 35; refine T.out.mono ?_; rintro e w' ⟨rfl, rfl⟩)
          go_round
          case rel =>
            refine ⟨k + 1, rfl, by omega, by omega, Lib.hid fun j a b => ?_⟩
            rcases Nat.lt_or_ge j k with h | h
            · exact HK.out j a h
            · rw [show j = k by omega]; exact HD.out
          case measure => (simp only [intOf]; omega)
        | false =>
          rw [hD] at T
          rw [← hgk] at hD
          replace T := Lib.hid T
          have HD := Lib.hid hD
          clear hD hgk
          go_wp2_with (go_at_call 35; refine T.out.mono ?_; rintro e w' ⟨rfl, rfl⟩)
          go_ret2
          refine ⟨⟨_, _, rfl, ?_⟩, rfl⟩
          have hi := HS.out
          rw [all_not hk0 (by rw [byL_len]; exact hlt) HD.out, if_neg (by simp)] at hi
          rw [hi]
          rfl
      · have d1 : decide ((k : Int) < (s.size : Int)) = false := by rw [decide_eq_false_iff_not]; omega
        have f1 : ¬ (k : Int) < (s.size : Int) := by omega
        have hal : ((byL s).drop 1).all digitB = true := all_drop (fun j a b => HK.out j a (by rw [byL_len] at b; omega))
        have hi := HS.out
        rw [hal, if_pos rfl] at hi
        have HT := Lib.hid hi
        clear hal hi
        have hw1 : IntKind.i64.wrap ((s.size : Int) - 1) = (s.size : Int) - 1 := by rw [wrap_small _ (by omega) (by omega)]
        go_wp2_with fail
        clear d1 f1 hk0 hk HK hlt
        go_loop [4] (fun v => ∃ i : Nat, v = .int .i64 i ∧ 1 ≤ i ∧ i < s.size ∧ Hid (lead ((byL s).drop i) = lead ((byL s).drop 1))) (fun v => s.size - (intOf v).toNat)
        case atStart => exact ⟨1, rfl, Nat.le_refl _, by omega, Lib.hid rfl⟩
        case round =>
          obtain ⟨i, rfl, hi0, hi, HI⟩ := hrel
          have hws : IntKind.i64.wrap ((i : Int) + 1) = (i : Int) + 1 := by rw [wrap_small _ (by omega) (by omega)]
          have f1 : (i : Int) < (s.size : Int) := by omega
          by_cases hlt : i + 1 < s.size
          · have d1 : decide ((i : Int) < (s.size : Int) - 1) = true := by rw [decide_eq_true_eq]; omega
            have f2 : (i : Int) < (s.size : Int) - 1 := by omega
            have hgk := byL_get s hi
            obtain ⟨y, hy⟩ : ∃ y, y = s[i].toNat := ⟨_, rfl⟩
            have hy' : s[i].toNat = y := hy.symm
            rw [← hy] at hgk
            clear hy
            by_cases h48 : y = 48
            · subst h48
              have hl := HI.out
              rw [lead_step (by rw [byL_len]; exact hlt) (by rw [hgk]; rfl)] at hl
              have HN := Lib.hid hl
              clear hl hgk
              go_wp2_with fail
              go_round
              case rel => exact ⟨i + 1, rfl, by omega, by omega, HN⟩
              case measure => (simp only [intOf]; omega)
            · have q0 : ¬ (y : Int) = 48 := by omega
              have q1 : ((y : Int) == 48) = false := by rw [beq_eq_false_iff_ne]; exact q0
              have hl := HI.out
              rw [lead_stop (by rw [byL_len]; exact hlt) (by rw [hgk]; omega)] at hl
              have HL := Lib.hid hl
              clear hl
              go_wp2_with fail
              go_ret2
              refine ⟨⟨_, _, rfl, ?_⟩, rfl⟩
              rw [HT.out, if_neg (fun h => by have := h.1; rw [HG.out] at this; omega)]
              exact ⟨rfl, by rw [byL_extract]; exact HL.out⟩
          · have d1 : decide ((i : Int) < (s.size : Int) - 1) = false := by rw [decide_eq_false_iff_not]; omega
            have f2 : ¬ (i : Int) < (s.size : Int) - 1 := by omega
            have hl := HI.out
            rw [lead_last (by rw [byL_len]; omega)] at hl
            have HL := Lib.hid hl
            clear hl
            go_wp2_with fail
            go_ret2
            refine ⟨⟨_, _, rfl, ?_⟩, rfl⟩
            rw [HT.out, if_neg (fun h => by have := h.1; rw [HG.out] at this; omega)]
            exact ⟨rfl, by rw [byL_extract]; exact HL.out⟩
  · have hin := int_from (s := byL s) (i := 1) (Or.inl ⟨rfl, by rw [HG.out]; decide⟩)
    by_cases h1 : s.size = 1
    · rw [if_pos (List.drop_eq_nil_of_le (by rw [byL_len]; omega))] at hin
      have HS := Lib.hid hin
      clear hin
      have q1 : ((1 : Int) == (s.size : Int)) = true := by rw [beq_iff_eq]; omega
      go_wp2_with fail
      go_ret2
      refine ⟨⟨_, _, rfl, ?_⟩, rfl⟩
      rw [HS.out]
      rfl
    have q1 : ((1 : Int) == (s.size : Int)) = false := by rw [beq_eq_false_iff_ne]; omega
    rw [if_neg (fun e => by have := congrArg List.length e; rw [List.length_drop, byL_len] at this; simp only [List.length_nil] at this; omega)] at hin
    have HS := Lib.hid hin
    clear hin
    go_wp2_with fail
    go_loop [5] (fun v => ∃ k : Nat, v = .int .i64 k ∧ 1 ≤ k ∧ k ≤ s.size ∧ Hid (∀ j, 1 ≤ j → j < k → digitB ((byL s).getD j 0) = true)) (fun v => s.size - (intOf v).toNat)
    case atStart => exact ⟨1, rfl, Nat.le_refl _, by omega, Lib.hid fun j a b => absurd b (by omega)⟩
    case round =>
      obtain ⟨k, rfl, hk0, hk, HK⟩ := hrel
      by_cases hlt : k < s.size
      · have d1 : decide ((k : Int) < (s.size : Int)) = true := by rw [decide_eq_true_eq]; omega
        have f1 : (k : Int) < (s.size : Int) := by omega
        have hgk := byL_get s hlt
        have T := digit_at (s[k].toNat : Int) w
        have hws : IntKind.i64.wrap ((k : Int) + 1) = (k : Int) + 1 := by rw [wrap_small _ (by omega) (by omega)]
        obtain ⟨y, hy⟩ : ∃ y, y = s[k].toNat := ⟨_, rfl⟩
        have hy' : s[k].toNat = y := hy.symm
        rw [← hy] at hgk T
        clear hy
        cases hD : digitB (y : Int) with
        | true =>
          rw [hD] at T
          rw [← hgk] at hD
          replace T := Lib.hid T
          have HD := Lib.hid hD
          clear hD hgk
          go_wp2_with (go_at_call 35; refine T.out.mono ?_; rintro e w' ⟨rfl, rfl⟩)
          go_round
          case rel =>
            refine ⟨k + 1, rfl, by omega, by omega, Lib.hid fun j a b => ?_⟩
            rcases Nat.lt_or_ge j k with h | h
            · exact HK.out j a h
            · rw [show j = k by omega]; exact HD.out
          case measure => (simp only [intOf]; omega)
        | false =>
          rw [hD] at T
          rw [← hgk] at hD
          replace T := Lib.hid T
          have HD := Lib.hid hD
          clear hD hgk
          go_wp2_with (go_at_call 35; refine T.out.mono ?_; rintro e w' ⟨rfl, rfl⟩)
          go_ret2
          refine ⟨⟨_, _, rfl, ?_⟩, rfl⟩
          have hi := HS.out
          rw [all_not hk0 (by rw [byL_len]; exact hlt) HD.out, if_neg (by simp)] at hi
          rw [hi]
          rfl
      · have d1 : decide ((k : Int) < (s.size : Int)) = false := by rw [decide_eq_false_iff_not]; omega
        have f1 : ¬ (k : Int) < (s.size : Int) := by omega
        have hal : ((byL s).drop 1).all digitB = true := all_drop (fun j a b => HK.out j a (by rw [byL_len] at b; omega))
        have hi := HS.out
        rw [hal, if_pos rfl] at hi
        have HT := Lib.hid hi
        clear hal hi
        have hw1 : IntKind.i64.wrap ((s.size : Int) - 1) = (s.size : Int) - 1 := by rw [wrap_small _ (by omega) (by omega)]
        go_wp2_with fail
        clear d1 f1 hk0 hk HK hlt
        go_loop [4] (fun v => ∃ i : Nat, v = .int .i64 i ∧ 1 ≤ i ∧ i < s.size ∧ Hid (lead ((byL s).drop i) = lead ((byL s).drop 1))) (fun v => s.size - (intOf v).toNat)
        case atStart => exact ⟨1, rfl, Nat.le_refl _, by omega, Lib.hid rfl⟩
        case round =>
          obtain ⟨i, rfl, hi0, hi, HI⟩ := hrel
          have hws : IntKind.i64.wrap ((i : Int) + 1) = (i : Int) + 1 := by rw [wrap_small _ (by omega) (by omega)]
          have f1 : (i : Int) < (s.size : Int) := by omega
          by_cases hlt : i + 1 < s.size
          · have d1 : decide ((i : Int) < (s.size : Int) - 1) = true := by rw [decide_eq_true_eq]; omega
            have f2 : (i : Int) < (s.size : Int) - 1 := by omega
            have hgk := byL_get s hi
            obtain ⟨y, hy⟩ : ∃ y, y = s[i].toNat := ⟨_, rfl⟩
            have hy' : s[i].toNat = y := hy.symm
            rw [← hy] at hgk
            clear hy
            by_cases h48 : y = 48
            · subst h48
              have hl := HI.out
              rw [lead_step (by rw [byL_len]; exact hlt) (by rw [hgk]; rfl)] at hl
              have HN := Lib.hid hl
              clear hl hgk
              go_wp2_with fail
              go_round
              case rel => exact ⟨i + 1, rfl, by omega, by omega, HN⟩
              case measure => (simp only [intOf]; omega)
            · have q0 : ¬ (y : Int) = 48 := by omega
              have q1 : ((y : Int) == 48) = false := by rw [beq_eq_false_iff_ne]; exact q0
              have hl := HI.out
              rw [lead_stop (by rw [byL_len]; exact hlt) (by rw [hgk]; omega)] at hl
              have HL := Lib.hid hl
              clear hl
              have hz := byL_nought (s.extract i s.size)
              rw [byL_extract, HL.out] at hz
              by_cases h9 : lead ((byL s).drop 1) = [48]
              · rw [decide_eq_true h9] at hz
                go_wp2_with fail
                go_ret2
                refine ⟨⟨_, _, rfl, ?_⟩, rfl⟩
                rw [HT.out, if_neg (fun h => h.2 h9)]
                exact ⟨rfl, by rw [byL_extract]; exact HL.out⟩
              · rw [decide_eq_false h9] at hz
                go_wp2_with fail
                go_ret2
                refine ⟨⟨_, _, rfl, ?_⟩, rfl⟩
                rw [HT.out, if_pos ⟨by rw [HG.out]; rfl, h9⟩]
                refine ⟨rfl, ?_⟩
                rw [byL_app, byL_extract, HL.out]
                rfl
          · have d1 : decide ((i : Int) < (s.size : Int) - 1) = false := by rw [decide_eq_false_iff_not]; omega
            have f2 : ¬ (i : Int) < (s.size : Int) - 1 := by omega
            have hl := HI.out
            rw [lead_last (by rw [byL_len]; omega)] at hl
            have HL := Lib.hid hl
            clear hl
            have hz := byL_nought (s.extract i s.size)
            rw [byL_extract, HL.out] at hz
            by_cases h9 : lead ((byL s).drop 1) = [48]
            · rw [decide_eq_true h9] at hz
              go_wp2_with fail
              go_ret2
              refine ⟨⟨_, _, rfl, ?_⟩, rfl⟩
              rw [HT.out, if_neg (fun h => h.2 h9)]
              exact ⟨rfl, by rw [byL_extract]; exact HL.out⟩
            · rw [decide_eq_false h9] at hz
              go_wp2_with fail
              go_ret2
              refine ⟨⟨_, _, rfl, ?_⟩, rfl⟩
              rw [HT.out, if_pos ⟨by rw [HG.out]; rfl, h9⟩]
              refine ⟨rfl, ?_⟩
              rw [byL_app, byL_extract, HL.out]
              rfl
  · have hin := int_from (s := byL s) (i := 0) (Or.inr ⟨rfl, by rw [HG.out]; omega⟩)
    have n3 : ¬ (x : Int) = 43 := by omega
    have n4 : ¬ (x : Int) = 45 := by omega
    have n5 : ((x : Int) == 43) = false := by rw [beq_eq_false_iff_ne]; exact n3
    have n6 : ((x : Int) == 45) = false := by rw [beq_eq_false_iff_ne]; exact n4
    rw [if_neg (fun e => by have := congrArg List.length e; rw [List.length_drop, byL_len] at this; simp only [List.length_nil] at this; omega)] at hin
    have HS := Lib.hid hin
    clear hin
    have q1 : ((0 : Int) == (s.size : Int)) = false := by rw [beq_eq_false_iff_ne]; omega
    go_wp2_with fail
    go_loop [5] (fun v => ∃ k : Nat, v = .int .i64 k ∧ 0 ≤ k ∧ k ≤ s.size ∧ Hid (∀ j, 0 ≤ j → j < k → digitB ((byL s).getD j 0) = true)) (fun v => s.size - (intOf v).toNat)
    case atStart => exact ⟨0, rfl, Nat.le_refl _, by omega, Lib.hid fun j a b => absurd b (by omega)⟩
    case round =>
      obtain ⟨k, rfl, hk0, hk, HK⟩ := hrel
      by_cases hlt : k < s.size
      · have d1 : decide ((k : Int) < (s.size : Int)) = true := by rw [decide_eq_true_eq]; omega
        have f1 : (k : Int) < (s.size : Int) := by omega
        have hgk := byL_get s hlt
        have T := digit_at (s[k].toNat : Int) w
        have hws : IntKind.i64.wrap ((k : Int) + 1) = (k : Int) + 1 := by rw [wrap_small _ (by omega) (by omega)]
        obtain ⟨y, hy⟩ : ∃ y, y = s[k].toNat := ⟨_, rfl⟩
        have hy' : s[k].toNat = y := hy.symm
        rw [← hy] at hgk T
        clear hy
        cases hD : digitB (y : Int) with
        | true =>
          rw [hD] at T
          rw [← hgk] at hD
          replace T := Lib.hid T
          have HD := Lib.hid hD
          clear hD hgk
          go_wp2_with (go_at_call 35; refine T.out.mono ?_; rintro e w' ⟨rfl, rfl⟩)
          go_round
          case rel =>
            refine ⟨k + 1, rfl, by omega, by omega, Lib.hid fun j a b => ?_⟩
            rcases Nat.lt_or_ge j k with h | h
            · exact HK.out j a h
            · rw [show j = k by omega]; exact HD.out
          case measure => (simp only [intOf]; omega)
        | false =>
          rw [hD] at T
          rw [← hgk] at hD
          replace T := Lib.hid T
          have HD := Lib.hid hD
          clear hD hgk
          go_wp2_with (go_at_call 35; refine T.out.mono ?_; rintro e w' ⟨rfl, rfl⟩)
          go_ret2
          refine ⟨⟨_, _, rfl, ?_⟩, rfl⟩
          have hi := HS.out
          rw [all_not hk0 (by rw [byL_len]; exact hlt) HD.out, if_neg (by simp)] at hi
          rw [hi]
          rfl
      · have d1 : decide ((k : Int) < (s.size : Int)) = false := by rw [decide_eq_false_iff_not]; omega
        have f1 : ¬ (k : Int) < (s.size : Int) := by omega
        have hal : ((byL s).drop 0).all digitB = true := all_drop (fun j a b => HK.out j a (by rw [byL_len] at b; omega))
        have hi := HS.out
        rw [hal, if_pos rfl] at hi
        have HT := Lib.hid hi
        clear hal hi
        have hw1 : IntKind.i64.wrap ((s.size : Int) - 1) = (s.size : Int) - 1 := by rw [wrap_small _ (by omega) (by omega)]
        go_wp2_with fail
        clear d1 f1 hk0 hk HK hlt
        go_loop [4] (fun v => ∃ i : Nat, v = .int .i64 i ∧ 0 ≤ i ∧ i < s.size ∧ Hid (lead ((byL s).drop i) = lead ((byL s).drop 0))) (fun v => s.size - (intOf v).toNat)
        case atStart => exact ⟨0, rfl, Nat.le_refl _, by omega, Lib.hid rfl⟩
        case round =>
          obtain ⟨i, rfl, hi0, hi, HI⟩ := hrel
          have hws : IntKind.i64.wrap ((i : Int) + 1) = (i : Int) + 1 := by rw [wrap_small _ (by omega) (by omega)]
          have f1 : (i : Int) < (s.size : Int) := by omega
          by_cases hlt : i + 1 < s.size
          · have d1 : decide ((i : Int) < (s.size : Int) - 1) = true := by rw [decide_eq_true_eq]; omega
            have f2 : (i : Int) < (s.size : Int) - 1 := by omega
            have hgk := byL_get s hi
            obtain ⟨y, hy⟩ : ∃ y, y = s[i].toNat := ⟨_, rfl⟩
            have hy' : s[i].toNat = y := hy.symm
            rw [← hy] at hgk
            clear hy
            by_cases h48 : y = 48
            · subst h48
              have hl := HI.out
              rw [lead_step (by rw [byL_len]; exact hlt) (by rw [hgk]; rfl)] at hl
              have HN := Lib.hid hl
              clear hl hgk
              go_wp2_with fail
              go_round
              case rel => exact ⟨i + 1, rfl, by omega, by omega, HN⟩
              case measure => (simp only [intOf]; omega)
            · have q0 : ¬ (y : Int) = 48 := by omega
              have q1 : ((y : Int) == 48) = false := by rw [beq_eq_false_iff_ne]; exact q0
              have hl := HI.out
              rw [lead_stop (by rw [byL_len]; exact hlt) (by rw [hgk]; omega)] at hl
              have HL := Lib.hid hl
              clear hl
              go_wp2_with fail
              go_ret2
              refine ⟨⟨_, _, rfl, ?_⟩, rfl⟩
              rw [HT.out, if_neg (fun h => by have := h.1; rw [HG.out] at this; omega)]
              exact ⟨rfl, by rw [byL_extract]; exact HL.out⟩
          · have d1 : decide ((i : Int) < (s.size : Int) - 1) = false := by rw [decide_eq_false_iff_not]; omega
            have f2 : ¬ (i : Int) < (s.size : Int) - 1 := by omega
            have hl := HI.out
            rw [lead_last (by rw [byL_len]; omega)] at hl
            have HL := Lib.hid hl
            clear hl
            go_wp2_with fail
            go_ret2
            refine ⟨⟨_, _, rfl, ?_⟩, rfl⟩
            rw [HT.out, if_neg (fun h => by have := h.1; rw [HG.out] at this; omega)]
            exact ⟨rfl, by rw [byL_extract]; exact HL.out⟩
end Go.Proofs.YtgnnkfdpfmlajaaDoor
