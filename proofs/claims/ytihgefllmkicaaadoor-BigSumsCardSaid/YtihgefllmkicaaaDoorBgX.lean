/- Contracts: texts of decimal digits. Conditions: none. -/
import Derived.Test.YtihgefllmkicaaaDoorBgL
import Derived.Laws.Strings3
import Derived.Lib.Strings
import Derived.Lib.AppendZeros
namespace Go.Proofs.YtihgefllmkicaaaDoor
open Go.RowKit Bg
set_option linter.unusedVariables false
set_option linter.unusedSimpArgs false


/-- The bytes of a text, as numbers. -/
def byL (s : ByteArray) : List Int := s.data.toList.map fun b => (b.toNat : Int)
theorem byL_len (s : ByteArray) : (byL s).length = s.size := by
  unfold byL
  rw [List.length_map, Array.length_toList]; rfl
theorem byL_get (s : ByteArray) {k : Nat} (h : k < s.size) : (byL s).getD k 0 = (s[k].toNat : Int) := by
  have hl : k < s.data.toList.length := by rw [Array.length_toList]; exact h
  unfold byL
  rw [List.getD_eq_getElem?_getD, List.getElem?_map, List.getElem?_eq_getElem hl]
  rfl
theorem byL_byte (s : ByteArray) (k : Nat) : 0 ≤ (byL s).getD k 0 ∧ (byL s).getD k 0 < 256 := by
  by_cases h : k < s.size
  · rw [byL_get s h]
    have := UInt8.toNat_lt s[k]
    omega
  · rw [List.getD_eq_getElem?_getD, List.getElem?_eq_none (by rw [byL_len]; omega)]
    decide
def okDig (x : Int) : Bool := decide (48 ≤ x ∧ x ≤ 57)
def allDig (l : List Int) : Bool := l.all okDig
def isDec (s : ByteArray) : Bool := decide (0 < s.size) && allDig (byL s)
theorem all_of {l : List Int} (h : ∀ k, k < l.length → okDig (l.getD k 0) = true) : allDig l = true := by
  unfold allDig
  rw [List.all_eq_true]
  intro x hx
  obtain ⟨k, hk, rfl⟩ := List.getElem_of_mem hx
  have := h k hk
  rw [List.getD_eq_getElem?_getD, List.getElem?_eq_getElem hk] at this
  exact this
theorem not_all {l : List Int} {k : Nat} (hk : k < l.length) (h : okDig (l.getD k 0) = false) : allDig l = false := by
  unfold allDig
  rw [Bool.eq_false_iff]
  intro ha
  rw [List.all_eq_true] at ha
  have := ha (l.getD k 0) (by rw [List.getD_eq_getElem?_getD, List.getElem?_eq_getElem hk]; exact List.getElem_mem hk)
  rw [h] at this
  cases this
set_option maxRecDepth 100000 in
set_option maxHeartbeats 2000000 in
theorem isDecimal_at (s : ByteArray) (hs : s.size ≤ 1000000000) (w : World) : Calls Tryd.prog 47 #[.string s] w fun e w' => e = .returned (.bool (isDec s)) ∧ w = w' := by
  go_enter Tryd.func47, Tryd.ntmps47
  go_wp2_with fail
  go_loop [6] (fun t => ∃ k : Nat, t = .int .i64 k ∧ k ≤ s.size ∧ Hid (∀ j, j < k → okDig ((byL s).getD j 0) = true)) (fun t => s.size - (intOf t).toNat)
  case atStart => exact ⟨0, rfl, Nat.zero_le _, fun j hj => absurd hj (Nat.not_lt_zero _)⟩
  case round =>
    obtain ⟨k, rfl, hk, hX⟩ := hrel
    by_cases hlt : k < s.size
    · have d1 : decide ((k : Int) < (s.size : Int)) = true := by rw [decide_eq_true_eq]; omega
      have f1 : (k : Int) < (s.size : Int) := by omega
      have hg := byL_get s hlt
      have HG := Lib.hid hg
      clear hg
      by_cases h48 : (s[k].toNat : Int) < 48
      · have q1 : decide ((s[k].toNat : Int) < 48) = true := decide_eq_true h48
        go_wp2_with fail
        go_ret
        refine ⟨retB ?_, rfl⟩
        symm
        unfold isDec
        rw [not_all (k := k) (by rw [byL_len]; exact hlt) (by rw [HG.out]; unfold okDig; rw [decide_eq_false_iff_not]; omega), Bool.and_false]
      · have q1 : decide ((s[k].toNat : Int) < 48) = false := decide_eq_false h48
        by_cases h57 : (s[k].toNat : Int) > 57
        · have q2 : decide ((s[k].toNat : Int) > 57) = true := decide_eq_true h57
          go_wp2_with fail
          go_ret
          refine ⟨retB ?_, rfl⟩
          symm
          unfold isDec
          rw [not_all (k := k) (by rw [byL_len]; exact hlt) (by rw [HG.out]; unfold okDig; rw [decide_eq_false_iff_not]; omega), Bool.and_false]
        · have q2 : decide ((s[k].toNat : Int) > 57) = false := decide_eq_false h57
          go_wp2_with fail
          go_round
          case rel =>
            refine ⟨k + 1, by go_num, hlt, fun j hj => ?_⟩
            by_cases hj2 : j < k
            · exact hX.out j hj2
            · have : j = k := by omega
              subst this
              rw [HG.out]
              unfold okDig
              rw [decide_eq_true_eq]; omega
          case measure => simp [intOf]; omega
    · have hz : k = s.size := by omega
      subst hz
      have d1 : decide ((s.size : Int) < (s.size : Int)) = false := by simp
      go_wp2_with fail
      go_ret
      refine ⟨retB ?_, rfl⟩
      have ha : allDig (byL s) = true := all_of (fun j hj => hX.out j (by rw [byL_len] at hj; exact hj))
      unfold isDec
      rw [ha, Bool.and_true]
      rw [Lib.toList_data]
      by_cases h0 : 0 < s.size
      · rw [decide_eq_true h0]
        have : s.data.toList ≠ [] := fun e => by
          have h1 : s.data.toList.length = s.size := by rw [Array.length_toList]; rfl
          rw [e] at h1
          have h2 : (0 : Nat) = s.size := h1
          omega
        cases hd : s.data.toList with
        | nil => exact absurd hd this
        | cons a r => rfl
      · rw [decide_eq_false h0]
        have h1 : s.data.toList.length = s.size := by rw [Array.length_toList]; rfl
        have : s.data.toList = [] := List.length_eq_zero_iff.1 (by omega)
        rw [this]; rfl

/-- The number that the bytes write. -/
def decv (l : List Int) : Int := l.foldl (fun d c => d * 10 + (c - 48)) 0
theorem decv_acc (l : List Int) : ∀ a, l.foldl (fun d c => d * 10 + (c - 48)) a = a * 10 ^ l.length + decv l := by
  induction l with
  | nil => intro a; show a = a * 10 ^ 0 + 0; simp
  | cons c r ih =>
    intro a
    show r.foldl _ (a * 10 + (c - 48)) = a * 10 ^ (r.length + 1) + r.foldl _ (0 * 10 + (c - 48))
    rw [ih, ih, Int.pow_succ, Int.add_mul, Int.add_mul, Int.zero_mul, Int.zero_mul, Int.mul_assoc, Int.mul_comm 10 (10 ^ r.length)]
    omega
theorem decv_app (l m : List Int) : decv (l ++ m) = decv l * 10 ^ m.length + decv m := by
  show (l ++ m).foldl _ 0 = _
  rw [List.foldl_append, decv_acc]
  rfl
theorem decv_snoc (l : List Int) (c : Int) : decv (l ++ [c]) = decv l * 10 + (c - 48) := by
  rw [decv_app]
  show decv l * 10 ^ 1 + (0 * 10 + (c - 48)) = _
  rw [Int.pow_succ, Int.pow_zero]
  omega
theorem decv_bound : ∀ (l : List Int), (∀ c, c ∈ l → okDig c = true) → 0 ≤ decv l ∧ decv l < 10 ^ l.length := by
  intro l
  induction l with
  | nil => intro _; exact ⟨Int.le_refl _, by show (0 : Int) < 10 ^ 0; decide⟩
  | cons c r ih =>
    intro h
    have h1 := ih (fun x hx => h x (List.mem_cons_of_mem _ hx))
    have h2 := h c (List.mem_cons_self ..)
    unfold okDig at h2
    rw [decide_eq_true_eq] at h2
    have e : decv (c :: r) = (c - 48) * 10 ^ r.length + decv r := by
      show r.foldl _ (0 * 10 + (c - 48)) = _
      rw [decv_acc, Int.zero_mul, Int.zero_add]
    have hp := pow_pos' (show (0 : Int) < 10 by decide) r.length
    have h3 : (c - 48) * 10 ^ r.length ≤ 9 * 10 ^ r.length := Int.mul_le_mul_of_nonneg_right (by omega) (Int.le_of_lt hp)
    have h4 : 0 ≤ (c - 48) * 10 ^ r.length := Int.mul_nonneg (by omega) (Int.le_of_lt hp)
    rw [e, List.length_cons, Int.pow_succ]
    omega
end Go.Proofs.YtihgefllmkicaaaDoor
