/- Contracts: large. Conditions: the items lie as told. -/
import Derived.Test.YticleblhmkikaaaDoorAsX
namespace Go.Proofs.YticleblhmkikaaaDoor
open Go.RowKit Asm
set_option linter.unusedVariables false
set_option linter.unusedSimpArgs false

def LargeIs (n : Nat) (e : Ending) : Prop := ∃ b : Bool, e = .returned (.bool b) ∧ (b = true ∨ n ≤ 60)
set_option maxRecDepth 100000 in
set_option maxHeartbeats 2000000 in
theorem large_at {w : World} {p : Option Addr} {n c : Nat} {X : Nat → It} (h : Items w p n c X) :
    Calls Tryd.prog 7 #[.slice p n c] w fun e w' => LargeIs n e ∧ w = w' := by
  have hm : n ≤ 9223372036854775807 := Nat.le_trans h.le h.max
  have H := Lib.hid h
  clear h
  by_cases hn : n ≤ 60
  · have d0 : decide ((60 : Int) < (n : Int)) = false := by simp; omega
    have d0' : decide ((n : Int) > 60) = false := by simp; omega
    go_enter Tryd.func7, Tryd.ntmps7
    go_wp2_with fail
    go_loop [3, 4] (fun s i => ∃ (k : Nat) (z : Int), i = .int .i64 k ∧ k ≤ n ∧ s = .int .u64 z) (fun _ i => n - (intOf i).toNat)
    case atStart => exact ⟨0, 0, rfl, Nat.zero_le _, rfl⟩
    case round =>
      obtain ⟨k, z, rfl, hk, rfl⟩ := hrel
      by_cases hlt : k < n
      · have d1 : decide ((k : Int) < (n : Int)) = true := by simp; omega
        have ek : (k : Int) < (n : Int) := by omega
        obtain ⟨b, off, hp, k0, k1, k2, k3, k4, k5, k6, k7⟩ := H.out.at hlt
        rw [hp]
        have HP := Lib.hid hp
        clear hp k1 k2 k3 k4 k5 k6
        by_cases hk8 : (X k).kind = 8
        · have d2 : ((X k).kind == 8) = true := by simp [hk8]
          have HK := Lib.hid hk8
          clear hk8
          go_wp2_with fail
          go_round
          case rel => exact ⟨k + 1, _, by go_num, hlt, rfl⟩
          case measure => simp [intOf]; omega
        · have d2 : ((X k).kind == 8) = false := by simp [hk8]
          have HK := Lib.hid hk8
          clear hk8
          go_wp2_with fail
          go_round
          case rel => exact ⟨k + 1, _, by go_num, hlt, rfl⟩
          case measure => simp [intOf]; omega
      · have hz : k = n := by omega
        subst hz
        have d1 : decide ((k : Int) < (k : Int)) = false := by simp
        by_cases h3 : (3000000 : Int) < z
        · have d3 : decide ((3000000 : Int) < z) = true := by simp [h3]
          have d3' : decide (z > 3000000) = true := by simp [h3]
          go_wp2_with fail
          go_ret
          exact ⟨⟨_, rfl, Or.inr hn⟩, rfl⟩
        · have d3 : decide ((3000000 : Int) < z) = false := by simp; omega
          have d3' : decide (z > 3000000) = false := by simp; omega
          go_wp2_with fail
          go_ret
          exact ⟨⟨_, rfl, Or.inr hn⟩, rfl⟩
  · have d0 : decide ((60 : Int) < (n : Int)) = true := by simp; omega
    have d0' : decide ((n : Int) > 60) = true := by simp; omega
    go_enter Tryd.func7, Tryd.ntmps7
    go_wp2_with fail
    go_ret
    exact ⟨⟨true, rfl, Or.inl rfl⟩, rfl⟩
end Go.Proofs.YticleblhmkikaaaDoor
