/- Contracts: a source that may end in a line's comment. Conditions: none. -/
import Derived.Test.YtgnnkfdpfmlajaaDoorLxBt
namespace Go.Proofs.YtgnnkfdpfmlajaaDoor
open Go.RowKit Bg Lx
set_option linter.unusedVariables false
set_option linter.unusedSimpArgs false

/-- The last line's ;, from a place back. -/
theorem open_step {l : List Int} {j : Nat} (h : j < l.length) : openLine (l.take (j + 1)) = if l.getD j 0 = 10 then false else (decide (l.getD j 0 = 59) || openLine (l.take j)) := by
  unfold openLine
  have hg : l[j] = l.getD j 0 := by rw [List.getD_eq_getElem?_getD, List.getElem?_eq_getElem h]; rfl
  rw [List.take_succ_eq_append_getElem h, List.reverse_append, List.reverse_singleton, List.singleton_append, List.takeWhile_cons, hg]
  by_cases h10 : l.getD j 0 = 10
  · rw [if_pos h10, if_neg (by rw [h10]; decide)]
    rfl
  · rw [if_neg h10, if_pos (decide_eq_true h10), List.contains_cons]
    congr 1
    rw [Bool.eq_iff_iff, beq_iff_eq, decide_eq_true_eq]
    exact eq_comm
theorem open_nil : openLine [] = false := rfl
set_option maxRecDepth 100000 in
set_option maxHeartbeats 8000000 in
theorem comment_of {w : World} {p : Option Addr} {c : Nat} {l : List Int} (a : Arg .u8 w p c l) (hb : Byts l) (hl : l.length ≤ 1000000) :
    Calls Tryd.prog 16 #[.slice p l.length c] w fun e w' => e = .returned (.bool (openLine l)) ∧ w = w' := by
  have hat := Lib.hid (fun h => a.at h)
  have HA := Lib.hid (And.intro hb a.le)
  obtain ⟨V, hV⟩ : ∃ V, V = openLine l := ⟨_, rfl⟩
  rw [← hV]
  have HV := Lib.hid hV
  obtain ⟨L, hL⟩ : ∃ L, L = l.length := ⟨_, rfl⟩
  have HL := Lib.hid hL
  rw [← hL] at hl hat ⊢
  have hw0 : IntKind.i64.wrap ((L : Int) - 1) = (L : Int) - 1 := wrap_signed _ (by omega) (by omega)
  clear a hb hV hL
  go_enter Tryd.func16, Tryd.ntmps16
  go_wp2_with fail
  clear hw0
  go_loop [3] (fun t => ∃ j : Nat, t = .int .i64 ((j : Int) - 1) ∧ j ≤ L ∧ Hid (openLine (l.take j) = V)) (fun t => (intOf t + 1).toNat)
  case atStart => exact ⟨L, rfl, Nat.le_refl _, Lib.hid (by rw [HV.out, List.take_of_length_le (by rw [← HL.out]; exact Nat.le_refl _)])⟩
  case round =>
    obtain ⟨j, rfl, hj, HK⟩ := hrel
    rcases Nat.eq_zero_or_pos j with h0 | h0
    · subst h0
      have hk := HK.out
      rw [List.take_zero, open_nil] at hk
      have HK2 := Lib.hid hk
      clear hk
      rw [show ((0 : Nat) : Int) - 1 = -1 from rfl]
      go_wp2_with fail
      go_ret
      exact ⟨retB HK2.out, rfl⟩
    · obtain ⟨i, rfl⟩ : ∃ i, j = i + 1 := ⟨j - 1, by omega⟩
      rw [show ((i + 1 : Nat) : Int) - 1 = (i : Int) by omega]
      obtain ⟨b, off, hp, hcell⟩ := hat.out (by omega)
      subst hp
      have hg := hcell i (by omega)
      have hst := open_step (l := l) (j := i) (by rw [← HL.out]; omega)
      have hk := HK.out
      rw [hst] at hk
      obtain ⟨x, hx⟩ : ∃ x, x = l.getD i 0 := ⟨_, rfl⟩
      rw [← hx] at hg hk
      have f1 : (i : Int) < (L : Int) := by omega
      have f2 : 0 ≤ (i : Int) := by omega
      have e2 : decide (0 ≤ (i : Int)) = true := by rw [decide_eq_true_eq]; exact f2
      have hws : IntKind.i64.wrap ((i : Int) - 1) = (i : Int) - 1 := wrap_signed _ (by omega) (by omega)
      clear hcell hst hx
      by_cases h10 : x = 10
      · rw [if_pos h10] at hk
        have HK2 := Lib.hid hk
        subst h10
        clear hk
        go_wp2_with fail
        go_ret
        exact ⟨retB HK2.out, rfl⟩
      · rw [if_neg h10] at hk
        have e10 : (x == 10) = false := by rw [beq_eq_false_iff_ne]; exact h10
        have g10 : (x != 10) = true := by rw [bne, e10]; rfl
        by_cases h59 : x = 59
        · rw [decide_eq_true h59, Bool.true_or] at hk
          have HK2 := Lib.hid hk
          subst h59
          clear hk
          go_wp2_with fail
          go_ret
          exact ⟨retB HK2.out, rfl⟩
        · rw [decide_eq_false h59, Bool.false_or] at hk
          have e59 : (x == 59) = false := by rw [beq_eq_false_iff_ne]; exact h59
          have HK2 := Lib.hid hk
          clear hk
          go_wp2_with fail
          go_round
          case rel => exact ⟨i, rfl, by omega, HK2⟩
          case measure => (simp only [intOf]; omega)
end Go.Proofs.YtgnnkfdpfmlajaaDoor
