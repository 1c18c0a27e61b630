/- Contracts: the document's number of a word. Conditions: the text is short. -/
import Derived.Test.YtmgheeldoadnhaaDoorRefB
import Derived.Test.YtmgheeldoadnhaaDoorSpecJ
namespace Go.Proofs.YtmgheeldoadnhaaDoor
open Go.RowKit

theorem numStep_yes (n : Nat) (c : UInt8) (h0 : 48 ≤ c.toNat) (h1 : c.toNat ≤ 57) : numStep n c = 10 * n + (c.toNat - 48) := by unfold numStep; rw [if_pos ⟨h0, h1⟩]
theorem numStep_no (n : Nat) (c : UInt8) (h : ¬ (48 ≤ c.toNat ∧ c.toNat ≤ 57)) : numStep n c = n := by unfold numStep; rw [if_neg h]
theorem numF_bd (l : List UInt8) (k : Nat) (hk : k ≤ 9) : numF l k ≤ 999999999 := by
  have := numF_lt l k
  have e : 10 ^ k ≤ 10 ^ 9 := Nat.pow_le_pow_right (by decide) hk
  have e9 : (10 : Nat) ^ 9 = 1000000000 := by decide
  omega
theorem numF_end (l : List UInt8) (k : Nat) (h : k = l.length ∨ k = 9) (hk : k ≤ 9) : numF l k = numF l 9 := by
  rcases h with h | h
  · rw [numF_all l k (by omega), numF_all l 9 (by omega)]
  · rw [h]

theorem num_head {s : ByteArray} {l : List UInt8} (h : l = s.data.toList) (hp : 0 < s.size) : numL l = if s[0].toNat = 45 then -(numF l 9 : Int) else numF l 9 := by
  unfold numL
  have e : l.head? = some s[0] := by
    subst h
    have := drop_byte s 0 hp
    rw [List.drop_zero] at this
    rw [this]; rfl
  rw [e]
  by_cases h45 : s[0] = 45
  · rw [if_pos (by rw [h45]), if_pos (by rw [h45]; rfl)]
  · have h2 : ¬ s[0].toNat = 45 := fun h => h45 (UInt8.toNat_inj.1 h)
    rw [if_neg (by simpa using h45), if_neg h2]

set_option maxRecDepth 100000 in
set_option maxHeartbeats 1000000 in
theorem number_any (s : ByteArray) (w : World) (hs : s.size ≤ 60) :
    Calls Tryd.prog 51 #[.string s] w fun e w' => e = .returned (.int .i64 (numL s.data.toList)) ∧ w = w' := by
  obtain ⟨l, hl⟩ : ∃ l, l = s.data.toList := ⟨_, rfl⟩
  have hn : s.size = l.length := by rw [hl, Array.length_toList]; rfl
  have HL := Lib.hid (And.intro hl hn)
  rw [← hl]
  clear hl hn
  go_enter Tryd.func51, Tryd.ntmps51
  go_wp2_with fail
  go_loop [3, 4] (fun n i => ∃ k : Nat, k ≤ s.size ∧ k ≤ 9 ∧ i = .int .i64 k ∧ n = .int .i64 (numF l k)) (fun _ i => s.size - (intOf i).toNat)
  case atStart => exact ⟨0, Nat.zero_le _, by decide, rfl, rfl⟩
  case round =>
    obtain ⟨k, hk, hk9, rfl, rfl⟩ := hrel
    have hbd := numF_bd l k hk9
    by_cases hlt : k < s.size
    · by_cases h9 : k < 9
      · have hkl : k < l.length := by rw [← HL.out.2]; exact hlt
        have hsc : s[k] = l[k] := by
          have := HL.out.1
          subst this
          rfl
        have HS := Lib.hid (And.intro (numF_succ l k hkl) hsc)
        clear hsc
        have hc := s[k].toNat_lt
        go_wp2_with fail
        all_goals
          go_round
          case rel =>
            refine ⟨k + 1, by omega, by omega, by go_num, ?_⟩
            rw [HS.out.1, ← HS.out.2]
            first
              | (rw [numStep_no _ _ (by omega)])
              | (rw [numStep_yes _ _ (by omega) (by omega)]; go_num)
          case measure => simp [intOf]; omega
      · have HE := Lib.hid (numF_end l k (by omega) hk9)
        have hpos : 0 < s.size := by omega
        have HD : Hid (numL l = if s[0].toNat = 45 then -(numF l k : Int) else numF l k) := by
          unfold Hid; rw [HE.out]; exact num_head HL.out.1 hpos
        clear HE
        go_wp2_with fail
        all_goals
          go_ret
          refine ⟨ret_int ?_, rfl⟩
          rw [HD.out]
          simp only [beq_iff_eq, beq_eq_false_iff_ne, ne_eq] at *
          first | (rw [if_pos (by omega)]) | (rw [if_neg (by omega)])
    · have HE := Lib.hid (numF_end l k (by have := HL.out.2; omega) hk9)
      by_cases hpos : 0 < s.size
      · have HD : Hid (numL l = if s[0].toNat = 45 then -(numF l k : Int) else numF l k) := by
          unfold Hid; rw [HE.out]; exact num_head HL.out.1 hpos
        clear HE
        go_wp2_with fail
        all_goals
          go_ret
          refine ⟨ret_int ?_, rfl⟩
          rw [HD.out]
          simp only [beq_iff_eq, beq_eq_false_iff_ne, ne_eq] at *
          first | (rw [if_pos (by omega)]) | (rw [if_neg (by omega)])
      · have HD : Hid (numL l = numF l k) := by
          unfold Hid; rw [HE.out]
          have : l = [] := List.length_eq_zero_iff.1 (by have := HL.out.2; omega)
          subst this; rfl
        clear HE
        go_wp2_with fail
        all_goals
          go_ret
          exact ⟨ret_int HD.out.symm, rfl⟩
end Go.Proofs.YtmgheeldoadnhaaDoor
