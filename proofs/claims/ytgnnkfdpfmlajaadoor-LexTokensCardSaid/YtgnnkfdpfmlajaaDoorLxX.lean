/- Contracts: runs cut out. Conditions: none. -/
import Derived.Test.YtgnnkfdpfmlajaaDoorLxW
import Derived.Test.YtgnnkfdpfmlajaaDoorLxZb
namespace Go.Proofs.YtgnnkfdpfmlajaaDoor
open Go.RowKit Bg Lx
set_option linter.unusedVariables false
set_option linter.unusedSimpArgs false

def RunIs (l : List Int) (k : Nat) (w : World) (e : Ending) : Prop := ∃ q c', e = .returned (.slice q (run (l.drop k)).length c') ∧ Arg .u8 w q c' (run (l.drop k))
theorem run_take (l : List Int) (k : Nat) : run (l.drop k) = (l.drop k).take (run (l.drop k)).length := run_is _
set_option maxRecDepth 100000 in
set_option maxHeartbeats 8000000 in
theorem prun_at {s : Sit} {k0 : Nat} {ts : List Tk} {w : World} (h : St s k0 ts w) (k : Nat) (hk : k ≤ s.l.length) :
    Calls Tryd.prog 55 #[.pointer (some ⟨s.b, 0, none⟩), .int .i64 (k : Int)] w fun e w' => RunIs s.l k w e ∧ w = w' := by
  have c0 := h.cell.1
  have hlen := h.len
  have a := h.src
  have hle := a.le
  have hmx := a.max
  by_cases hkl : k < s.l.length
  · obtain ⟨g, off, hp, hcell⟩ := a.at (by omega)
    rw [hp] at c0 a
    have HA := Lib.hid (And.intro a (And.intro h.byts @hcell))
    obtain ⟨V, hV⟩ : ∃ V, V = runE s.l k := ⟨_, rfl⟩
    have hV1 : k ≤ V ∧ V ≤ s.l.length := by
      have := run_le (s.l.drop k)
      rw [List.length_drop] at this
      rw [hV]; unfold runE
      omega
    have HV := Lib.hid hV
    obtain ⟨L, hL⟩ : ∃ L, L = s.l.length := ⟨_, rfl⟩
    have HL := Lib.hid hL
    obtain ⟨B, hB⟩ : ∃ B, B = s.b := ⟨_, rfl⟩
    rw [← hL] at c0 hlen hk hle hkl hV1
    rw [← hB] at c0 ⊢
    obtain ⟨c, hc⟩ : ∃ c, c = s.c := ⟨_, rfl⟩
    have HC := Lib.hid hc
    rw [← hc] at c0 hle hmx
    clear a hp hcell hV hL hB hc h
    go_enter Tryd.func55, Tryd.ntmps55
    go_wp2_with fail
    go_loop [5] (fun t => ∃ j : Nat, t = .int .i64 j ∧ k ≤ j ∧ j ≤ L ∧ Hid (runE s.l j = V)) (fun t => L - (intOf t).toNat)
    case atStart => exact ⟨k, rfl, Nat.le_refl _, hk, Lib.hid HV.out.symm⟩
    case round =>
      obtain ⟨j, rfl, hj0, hj, HK⟩ := hrel
      by_cases hlt : j < L
      · have d1 : decide ((j : Int) < (L : Int)) = true := by rw [decide_eq_true_eq]; omega
        have f1 : (j : Int) < (L : Int) := by omega
        have hg0 := HA.out.2.2 j (by rw [← HL.out]; exact hlt)
        have T := psym_at (s.l.getD j 0) (HA.out.2.1.getD j) w
        have hws : IntKind.i64.wrap ((j : Int) + 1) = (j : Int) + 1 := by rw [wrap_small _ (by omega) (by omega)]
        cases hS : symB (s.l.getD j 0) with
        | true =>
          rw [hS] at T
          have hstep : runE s.l (j + 1) = V := by
            rw [← HK.out]
            unfold runE
            rw [run_step (by have := HL.out; omega) hS]
            omega
          obtain ⟨x, hx⟩ : ∃ x, x = s.l.getD j 0 := ⟨_, rfl⟩
          rw [← hx] at hg0 T
          replace T := Lib.hid T
          have HX := Lib.hid hstep
          clear hx hS hstep
          go_wp2_with (go_at_call 42; refine T.out.mono ?_; rintro e w' ⟨rfl, rfl⟩)
          go_round
          case rel => exact ⟨j + 1, rfl, by omega, by omega, HX⟩
          case measure => simp only [intOf]; omega
        | false =>
          rw [hS] at T
          have hstop : j = V := by
            rw [← HK.out]
            unfold runE
            rw [run_stop (by have := HL.out; omega) hS]
            rfl
          obtain ⟨x, hx⟩ : ∃ x, x = s.l.getD j 0 := ⟨_, rfl⟩
          rw [← hx] at hg0 T
          replace T := Lib.hid T
          have HX := Lib.hid hstop
          clear hx hS hstop
          have f5 : ¬ c = k := by omega
          have f6 : (k : Int) ≤ (j : Int) := by omega
          have f7 : (j : Int) ≤ (c : Int) := by omega
          go_wp2_with (go_at_call 42; refine T.out.mono ?_; rintro e w' ⟨rfl, rfl⟩)
          go_ret
          have e1 : j - k = (run (s.l.drop k)).length := by
            have := HV.out
            unfold runE at this
            have := HX.out
            omega
          rw [e1]
          refine ⟨⟨_, _, rfl, ?_⟩, rfl⟩
          have := slice_of HA.out.1 (k := k) (n := (run (s.l.drop k)).length) (by have := HL.out; omega)
          rw [← run_take] at this
          rw [HC.out]
          exact this
      · have d1 : decide ((j : Int) < (L : Int)) = false := by rw [decide_eq_false_iff_not]; omega
        have f1 : ¬ (j : Int) < (L : Int) := by omega
        have hstop : j = V := by
          rw [← HK.out]
          unfold runE
          rw [run_over (by have := HL.out; omega)]
          rfl
        have HX := Lib.hid hstop
        have f5 : ¬ c = k := by omega
        have f6 : (k : Int) ≤ (j : Int) := by omega
        have f7 : (j : Int) ≤ (c : Int) := by omega
        clear hstop
        go_wp2_with fail
        go_ret
        have e1 : j - k = (run (s.l.drop k)).length := by
          have := HV.out
          unfold runE at this
          have := HX.out
          omega
        rw [e1]
        refine ⟨⟨_, _, rfl, ?_⟩, rfl⟩
        have := slice_of HA.out.1 (k := k) (n := (run (s.l.drop k)).length) (by have := HL.out; omega)
        rw [← run_take] at this
        rw [HC.out]
        exact this
  · have hr : run (s.l.drop k) = [] := run_over (by omega)
    unfold RunIs
    rw [hr]
    have e0 : k = s.l.length := by omega
    subst e0
    have HA := Lib.hid a
    obtain ⟨L, hL⟩ : ∃ L, L = s.l.length := ⟨_, rfl⟩
    have HL := Lib.hid hL
    obtain ⟨B, hB⟩ : ∃ B, B = s.b := ⟨_, rfl⟩
    rw [← hL] at c0 hlen hle ⊢
    rw [← hB] at c0 ⊢
    have hnil := a.nil
    obtain ⟨c, hc⟩ : ∃ c, c = s.c := ⟨_, rfl⟩
    obtain ⟨p, hp⟩ : ∃ p, p = s.p := ⟨_, rfl⟩
    rw [← hc] at c0 hle hmx hnil
    rw [← hp] at c0 hnil
    have f7 : (L : Int) ≤ (c : Int) := by omega
    have AN : ∀ q c', (q = none → c' = 0) → c' ≤ 9223372036854775807 → Arg .u8 w q c' [] := fun q c' h1 h2 => ⟨fun h => ⟨rfl, h1 h⟩, Nat.zero_le _, h2, fun i hi => absurd hi (Nat.not_lt_zero _)⟩
    replace AN := Lib.hid AN
    have hnil' : p = none → c = 0 := fun h => (hnil h).2
    have HN := Lib.hid hnil'
    clear a hL hB h hc hp HA hr hkl hnil hnil'
    go_enter Tryd.func55, Tryd.ntmps55
    go_wp2_with fail
    go_loop [5] (fun t => t = .int .i64 L) (fun t => 0)
    case atStart => exact rfl
    case round =>
      subst hrel
      by_cases hcL : c = L
      · subst hcL
        go_wp2_with fail
        go_ret
        exact ⟨⟨_, _, rfl, AN.out _ _ (fun _ => rfl) (by decide)⟩, rfl⟩
      · cases p with
        | none => exact absurd (by have := HN.out rfl; omega) hcL
        | some ad =>
          go_wp2_with fail
          go_ret
          exact ⟨⟨_, _, rfl, AN.out _ _ (fun h => (by cases h)) (by omega)⟩, rfl⟩
end Go.Proofs.YtgnnkfdpfmlajaaDoor
