/- Contracts: hex numbers. Conditions: none. -/
import Derived.Test.YtgnnkfdpfmlajaaDoorLxX
namespace Go.Proofs.YtgnnkfdpfmlajaaDoor
open Go.RowKit Bg Lx
set_option linter.unusedVariables false
set_option linter.unusedSimpArgs false

/-- What a hex number's reading gives. -/
def HexIs (o : Option Int) (e : Ending) : Prop := match o with
  | some v => e = .returned (.tuple #[.int .i32 v, .bool true])
  | none => ∃ x : Int, e = .returned (.tuple #[.int .i32 x, .bool false])
theorem hexIs_no {o : Option Int} {x : Int} (h : o = none) : HexIs o (.returned (.tuple #[.int .i32 x, .bool false])) := by rw [h]; exact ⟨x, rfl⟩
theorem hexIs_yes {o : Option Int} {x : Int} (h : o = some x) : HexIs o (.returned (.tuple #[.int .i32 x, .bool true])) := by rw [h]; rfl
theorem drop_cons {r : List Int} {j : Nat} (h : j < r.length) : r.drop j = r.getD j 0 :: r.drop (j + 1) := by
  rw [List.drop_eq_getElem_cons h, List.getD_eq_getElem?_getD, List.getElem?_eq_getElem h]
  rfl
set_option maxRecDepth 100000 in
set_option maxHeartbeats 8000000 in
theorem phex_at {w : World} {q : Option Addr} {c : Nat} {r : List Int} (a : Arg .u8 w q c r) (hb : Byts r) (hl : r.length ≤ 1000000) :
    Calls Tryd.prog 69 #[.slice q r.length c] w fun e w' => HexIs (hexO r) e ∧ w = w' := by
  by_cases h0 : r = []
  · subst h0
    have e : hexO [] = none := rfl
    rw [e]
    go_enter Tryd.func69, Tryd.ntmps69
    go_wp2_with fail
    go_ret2
    exact ⟨hexIs_no rfl, rfl⟩
  have hp := List.length_pos_iff.2 h0
  obtain ⟨b, off, rfl, hcell⟩ := a.at hp
  have hO := hexO_eq r
  obtain ⟨V, hV⟩ : ∃ V, V = hexO r := ⟨_, rfl⟩
  rw [← hV] at hO ⊢
  have hO2 : V = if isC (hexF r 0) = true then some (hexF r 0) else none := by
    rw [hO]
    by_cases hh : isC (hexF r 0) = true
    · rw [if_pos ⟨h0, hh⟩, if_pos hh]
    · rw [if_neg (fun x => hh x.2), if_neg hh]
  have HA := Lib.hid (And.intro hO2 (And.intro hb (And.intro a @hcell)))
  obtain ⟨L, hL⟩ : ∃ L, L = r.length := ⟨_, rfl⟩
  have HL := Lib.hid hL
  rw [← hL] at hl hp ⊢
  have g0 : ((L : Int) == 0) = false := by rw [beq_eq_false_iff_ne]; omega
  have g1 : ¬ (L : Int) = 0 := by omega
  clear hO hO2 hV a hb hL h0 hcell
  go_enter Tryd.func69, Tryd.ntmps69
  go_wp2_with fail
  go_loop [4, 6, 7, 13] (fun v _ _ t => ∃ (n : Int) (j : Nat), v = .int .i64 n ∧ t = .int .i64 j ∧ 0 ≤ n ∧ n ≤ 1114111 ∧ j ≤ L ∧ Hid (hexF (r.drop j) n = hexF r 0)) (fun _ _ _ t => L - (intOf t).toNat)
  case atStart => exact ⟨0, 0, rfl, rfl, by omega, by omega, Nat.zero_le _, Lib.hid rfl⟩
  case round =>
    obtain ⟨n, j, rfl, rfl, n0, n1, hj, HK⟩ := hrel
    by_cases hlt : j < L
    · have f1 : (j : Int) < (L : Int) := by omega
      have d1 : decide ((j : Int) < (L : Int)) = true := by rw [decide_eq_true_eq]; exact f1
      have hg := HA.out.2.2.2 j (by rw [← HL.out]; exact hlt)
      have hx := HA.out.2.1.getD j
      have hd := drop_cons (r := r) (j := j) (by rw [← HL.out]; exact hlt)
      have hk := HK.out
      rw [hd] at hk
      obtain ⟨x, hxe⟩ : ∃ x, x = r.getD j 0 := ⟨_, rfl⟩
      rw [← hxe] at hg hx hk
      have T := phexd_at x hx w
      have b1 := hexD_lt x
      have b0 : -1 ≤ hexD x := by unfold hexD; split <;> (try split) <;> (try split) <;> omega
      have HK2 := Lib.hid hk
      obtain ⟨v, hv⟩ : ∃ v, v = hexD x := ⟨_, rfl⟩
      rw [← hv] at T b0 b1
      replace T := Lib.hid T
      have HV := Lib.hid hv
      have w1 : IntKind.i64.wrap (n * 16) = n * 16 := wrap_signed _ (by omega) (by omega)
      have w2 : IntKind.i64.wrap (n * 16 + v) = n * 16 + v := wrap_signed _ (by omega) (by omega)
      have w3 : IntKind.i64.wrap ((j : Int) + 1) = (j : Int) + 1 := by rw [wrap_small _ (by omega) (by omega)]
      clear hxe hd hk hv hx
      by_cases hneg : v < 0
      · have e1 : decide (v < 0) = true := by rw [decide_eq_true_eq]; exact hneg
        go_wp2_with (go_at_call 78; refine T.out.mono ?_; rintro e w' ⟨rfl, rfl⟩)
        go_ret2
        refine ⟨hexIs_no ?_, rfl⟩
        have h1 := HK2.out
        rw [hexF_neg (by rw [← HV.out]; exact hneg)] at h1
        rw [HA.out.1, ← h1]
        decide
      · have e1 : decide (v < 0) = false := by rw [decide_eq_false_iff_not]; exact hneg
        by_cases hbig : 1114111 < n * 16 + v
        · have e2 : decide (1114111 < n * 16 + v) = true := by rw [decide_eq_true_eq]; exact hbig
          go_wp2_with (go_at_call 78; refine T.out.mono ?_; rintro e w' ⟨rfl, rfl⟩)
          go_ret2
          refine ⟨hexIs_no ?_, rfl⟩
          have h1 := HK2.out
          have h2 := hexF_over (c := x) (t := r.drop (j + 1)) (n := n) (by rw [← HV.out]; omega) (by rw [← HV.out]; omega)
          rw [h1] at h2
          rw [HA.out.1, h2]
          rfl
        · have e2 : decide (1114111 < n * 16 + v) = false := by rw [decide_eq_false_iff_not]; exact hbig
          go_wp2_with (go_at_call 78; refine T.out.mono ?_; rintro e w' ⟨rfl, rfl⟩)
          go_round
          case rel =>
            refine ⟨n * 16 + v, j + 1, rfl, rfl, by omega, by omega, by omega, Lib.hid ?_⟩
            have h1 := HK2.out
            rw [hexF_step (by rw [← HV.out]; omega) (by rw [← HV.out]; omega), ← HV.out] at h1
            rw [← h1]
            congr 1
            omega
          case measure => (simp only [intOf]; omega)
    · have f1 : ¬ (j : Int) < (L : Int) := by omega
      have d1 : decide ((j : Int) < (L : Int)) = false := by rw [decide_eq_false_iff_not]; exact f1
      have hk := HK.out
      rw [List.drop_eq_nil_of_le (by rw [← HL.out]; omega)] at hk
      have HK2 := Lib.hid hk
      have T := Lib.hid (is_at n w)
      have hw := wrap32_id (c := n) (by omega)
      clear hk
      go_wp2_with (go_at_call 79; refine T.out.mono ?_; rintro e w' ⟨rfl, rfl⟩)
      go_ret2
      have h1 := HK2.out
      have h2 : hexF r 0 = n := h1.symm
      refine ⟨?_, rfl⟩
      rw [HA.out.1, h2]
      cases hC : isC n with
      | true => exact hexIs_yes (by rw [if_pos rfl])
      | false => exact hexIs_no (by rw [if_neg (by decide)])
end Go.Proofs.YtgnnkfdpfmlajaaDoor
