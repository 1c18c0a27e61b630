/- Plain: tallies (sums of so many of the first numbers, as the program keeps them). Conditions: none. -/
import Derived.Test.YtbplmbignalbgaaDoorAsA
import Derived.Laws.BitsAllLaws
import Derived.Test.YtbplmbignalbgaaDoorAsB
namespace Go.Proofs.YtbplmbignalbgaaDoor.Asm
open Go

/-- The least bit of a number below 1024. -/
def lb (i : Nat) : Nat := if i % 2 = 1 then 1 else if i % 4 = 2 then 2 else if i % 8 = 4 then 4 else if i % 16 = 8 then 8 else if i % 32 = 16 then 16 else if i % 64 = 32 then 32 else if i % 128 = 64 then 64 else if i % 256 = 128 then 128 else if i % 512 = 256 then 256 else 512
theorem lb_pos (i : Nat) : 1 ≤ lb i := by unfold lb; (repeat' split) <;> omega
theorem lb_le_all : ∀ i : Fin 1024, 0 < i.val → lb i.val ≤ i.val := by decide +kernel
theorem lb_le {i : Nat} (h : 0 < i) (h2 : i < 1024) : lb i ≤ i := lb_le_all ⟨i, h2⟩ h
theorem lb_gap_all : ∀ i : Fin 512, 0 < i.val → ∀ t, t < lb i.val → 0 < t → i.val ≤ i.val + t - lb (i.val + t) := by decide +kernel
theorem lb_small_all : ∀ i : Fin 512, 0 < i.val → lb i.val ≤ 256 := by decide +kernel
theorem lb_small {i : Nat} (h : 0 < i) (h2 : i < 512) : lb i ≤ 256 := lb_small_all ⟨i, h2⟩ h
theorem lb_gap {i t : Nat} (h : 0 < i) (h2 : i < 512) (ht : 0 < t) (h3 : t < lb i) : i ≤ i + t - lb (i + t) := lb_gap_all ⟨i, h2⟩ h t h3 ht
theorem lb_up_all : ∀ i : Fin 512, 0 < i.val → i.val + lb i.val - lb (i.val + lb i.val) ≤ i.val - lb i.val := by decide +kernel
theorem lb_up {i : Nat} (h : 0 < i) (h2 : i < 512) : i + lb i - lb (i + lb i) ≤ i - lb i := lb_up_all ⟨i, h2⟩ h
theorem lb_bits_all : ∀ i : Fin 512, 0 < i.val → bits .and .i64 (i.val : Int) (-(i.val : Int)) = lb i.val := by decide +kernel
theorem lb_bits {i : Nat} (h : 0 < i) (h2 : i < 512) : bits .and .i64 (i : Int) (-(i : Int)) = lb i := lb_bits_all ⟨i, h2⟩ h

def psum (x : Nat → Int) : Nat → Int
  | 0 => 0
  | k + 1 => psum x k + x k
theorem psum_upd (x : Nat → Int) (m : Nat) (v : Int) : ∀ i, psum (updF x m (x m + v)) i = psum x i + if m < i then v else 0
  | 0 => by simp [psum]
  | i + 1 => by
    have ih := psum_upd x m v i
    show psum (updF x m (x m + v)) i + updF x m (x m + v) i = psum x i + x i + _
    rw [ih]
    by_cases h : i = m
    · subst h; rw [updF_same, if_neg (by omega), if_pos (by omega)]; omega
    · rw [updF_other _ _ h]
      by_cases h2 : m < i
      · rw [if_pos h2, if_pos (by omega)]; omega
      · rw [if_neg h2, if_neg (by omega)]; omega
theorem psum_bound {x : Nat → Int} (h : ∀ k, 0 ≤ x k ∧ x k ≤ 3) : ∀ i, 0 ≤ psum x i ∧ psum x i ≤ 3 * i
  | 0 => by simp [psum]
  | i + 1 => by
    have := psum_bound h i
    have := h i
    show 0 ≤ psum x i + x i ∧ psum x i + x i ≤ _
    omega
theorem psum_zero (i : Nat) : psum (fun _ => 0) i = 0 := by
  induction i with
  | zero => rfl
  | succ i ih => show psum _ i + 0 = 0; rw [ih]; rfl
/-- What stands at place j of the tallies. -/
def fw (x : Nat → Int) (j : Nat) : Int := psum x j - psum x (j - lb j)
theorem fw_zero (j : Nat) : fw (fun _ => 0) j = 0 := by unfold fw; rw [psum_zero, psum_zero]; rfl
theorem fw_upd (x : Nat → Int) (m : Nat) (v : Int) (j : Nat) : fw (updF x m (x m + v)) j = fw x j + if j - lb j ≤ m ∧ m < j then v else 0 := by
  unfold fw
  rw [psum_upd, psum_upd]
  (repeat' split) <;> omega
theorem fw_bound {x : Nat → Int} (h : ∀ k, 0 ≤ x k ∧ x k ≤ 3) {j : Nat} (hj : j < 512) : -1600 ≤ fw x j ∧ fw x j ≤ 1600 := by
  unfold fw
  have := psum_bound h j
  have := psum_bound h (j - lb j)
  omega
/-- The places that have been counted up till i. -/
def mid (x : Nat → Int) (m : Nat) (v : Int) (i j : Nat) : Int := if j < i then fw (updF x m (x m + v)) j else fw x j
theorem mid_start (x : Nat → Int) (m : Nat) (v : Int) (j : Nat) : mid x m v (m + 1) j = fw x j := by
  unfold mid
  split
  · rw [fw_upd, if_neg (by omega)]; omega
  · rfl
theorem mid_end (x : Nat → Int) (m : Nat) (v : Int) {i j : Nat} (h : j < i) : mid x m v i j = fw (updF x m (x m + v)) j := by
  unfold mid; rw [if_pos h]
theorem mid_step (x : Nat → Int) (m : Nat) (v : Int) {i : Nat} (h0 : 0 < i) (h1 : i < 512) (h2 : i - lb i ≤ m) (h3 : m < i) (j : Nat) : updF (mid x m v i) i (mid x m v i i + v) j = mid x m v (i + lb i) j := by
  have hp := lb_pos i
  by_cases hj : j = i
  · subst hj
    rw [updF_same]
    unfold mid
    rw [if_neg (by omega), if_pos (by omega), fw_upd, if_pos ⟨h2, h3⟩]
  · rw [updF_other _ _ hj]
    unfold mid
    by_cases hl : j < i
    · rw [if_pos hl, if_pos (by omega)]
    · rw [if_neg hl]
      by_cases hu : j < i + lb i
      · rw [if_pos hu, fw_upd]
        have := lb_gap h0 h1 (t := j - i) (by omega) (by omega)
        rw [show i + (j - i) = j by omega] at this
        rw [if_neg (by omega)]; omega
      · rw [if_neg hu]
end Go.Proofs.YtbplmbignalbgaaDoor.Asm
