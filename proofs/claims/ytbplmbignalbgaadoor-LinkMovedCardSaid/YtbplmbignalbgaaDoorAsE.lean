/- Contracts: tallies. Conditions: they are at most 482, and lie as told. -/
import Derived.Test.YtbplmbignalbgaaDoorAsD
namespace Go.Proofs.YtbplmbignalbgaaDoor
open Go.RowKit Asm
set_option linter.unusedVariables false
set_option linter.unusedSimpArgs false

def ints (g : Nat → Int) (i : Nat) : Value := .int .i64 (g i)
theorem slice_at {w : World} {b t n : Nat} {g : Nat → Int} (h : w.heap[b]? = some (.cells (cellsF n (ints g)) t (0, 0))) (i : Nat) (hi : i < n) : w.cell? ⟨b, i, none⟩ = some (.int .i64 (g i)) := cellF h i hi

set_option maxRecDepth 100000 in
set_option maxHeartbeats 1000000 in
theorem before_at (T n cap i : Nat) (x : Nat → Int) (w : World) (h : w.heap[T]? = some (.cells (cellsF n (ints (fw x))) 3 (0, 0))) (hi : i < n) (hn : n ≤ 482) (hx : ∀ k, 0 ≤ x k ∧ x k ≤ 3) :
    Calls Tryd.prog 78 #[.slice (some ⟨T, 0, none⟩) n cap, .int .i64 i] w fun e w' => e = .returned (.int .i64 (psum x i)) ∧ w = w' := by
  have HX := Lib.hid hx
  clear hx
  go_enter Tryd.func78, Tryd.ntmps78
  go_wp2_with fail
  go_loop [1, 5] (fun s1 s5 => ∃ k : Nat, k ≤ i ∧ s1 = .int .i64 k ∧ s5 = .int .i64 (psum x i - psum x k)) (fun s1 _ => (intOf s1).toNat)
  case atStart => exact ⟨i, Nat.le_refl _, rfl, by rw [Int.sub_self]⟩
  case round =>
    obtain ⟨k, hk, rfl, rfl⟩ := hrel
    by_cases h0 : 0 < k
    · have hc := slice_at h k (by omega)
      have hb := lb_bits h0 (by omega)
      have hle := lb_le h0 (by omega)
      have hp := lb_pos k
      have d1 : decide (0 < (k : Int)) = true := by simp; omega
      have e1 : wrap64 (-(k : Int)) = -(k : Int) := by unfold wrap64; omega
      have e2 : wrap64 ((k : Int) - lb k) = ((k - lb k : Nat) : Int) := by unfold wrap64; omega
      have e3 : wrap64 (psum x i - psum x k + fw x k) = psum x i - psum x (k - lb k) := by
        have b1 := psum_bound HX.out i
        have b2 := psum_bound HX.out (k - lb k)
        unfold wrap64 fw
        omega
      have HH := Lib.hid (And.intro hle hp)
      clear hle hp h
      go_wp2_with fail
      go_round
      case rel => exact ⟨k - lb k, by omega, by rw [e2], by rw [e3]⟩
      case measure => rw [e2]; have := HH.out; simp [intOf]; omega
    · have hz : k = 0 := by omega
      subst hz
      go_wp2_with fail
      go_ret
      refine ⟨ret_int ?_, rfl⟩
      show psum x i - 0 = _
      omega

set_option maxRecDepth 100000 in
set_option maxHeartbeats 1000000 in
theorem add_at (T n cap m : Nat) (v : Int) (x : Nat → Int) (w : World) (h : w.heap[T]? = some (.cells (cellsF n (ints (fw x))) 3 (0, 0))) (hm : m < n) (hn : n ≤ 482) (hx : ∀ k, 0 ≤ x k ∧ x k ≤ 3) (hv : 0 ≤ v ∧ v ≤ 3) :
    Calls Tryd.prog 76 #[.slice (some ⟨T, 0, none⟩) n cap, .int .i64 m, .int .i64 v] w fun e w' => e = .returned (.tuple #[]) ∧ w'.heap[T]? = some (.cells (cellsF n (ints (fw (updF x m (x m + v))))) 3 (0, 0)) ∧ Chg (fun k => k = T) w w' := by
  have H0 : Hid (w.heap[T]? = some (.cells (cellsF n (ints (mid x m v (m + 1)))) 3 (0, 0)) ∧ Chg (fun k => k = T) w w) := by
    refine ⟨h.trans ?_, Chg.refl _ _⟩
    rw [cellsF_congr (g := ints (mid x m v (m + 1)))]
    intro i _
    unfold ints
    rw [mid_start]
  have HX := Lib.hid (And.intro hx hv)
  clear hx h hv
  have e0 : wrap64 ((m : Int) + 1) = ((m + 1 : Nat) : Int) := by unfold wrap64; omega
  go_enter Tryd.func76, Tryd.ntmps76
  go_wp2_with fail
  go_loopw [1] (fun s1 wr => ∃ i : Nat, s1 = .int .i64 i ∧ 0 < i ∧ i < 1024 ∧ (i < n → i - lb i ≤ m) ∧ m < i ∧ wr.heap[T]? = some (.cells (cellsF n (ints (mid x m v i))) 3 (0, 0)) ∧ Chg (fun k => k = T) w wr) (fun s1 _ => 1024 - (intOf s1).toNat)
  case atStart =>
    refine ⟨m + 1, by first | rfl | rw [e0], by omega, by omega, fun _ => ?_, by omega, H0.out⟩
    have := lb_pos (m + 1)
    omega
  case round =>
    obtain ⟨i, rfl, hi0, hi1, hl, hmi, hT, hC⟩ := hrel
    by_cases hlt : i < n
    · have d1 : decide ((i : Int) < (n : Int)) = true := by simp; omega
      have hc := slice_at hT i hlt
      have hf := freeF hT i
      have hb := lb_bits hi0 (by omega)
      have e1 : wrap64 (-(i : Int)) = -(i : Int) := by unfold wrap64; omega
      have e2 : wrap64 ((i : Int) + lb i) = ((i + lb i : Nat) : Int) := by have := lb_small hi0 (show i < 512 by omega); unfold wrap64; omega
      have e3 : wrap64 (mid x m v i i + v) = mid x m v i i + v := by
        have b1 := fw_bound HX.out.1 (j := i) (by omega)
        have b2 := HX.out.2
        have : mid x m v i i = fw x i := by unfold mid; rw [if_neg (by omega)]
        rw [this]
        unfold wrap64
        omega
      have HT := Lib.hid (And.intro hT (And.intro hC (hl hlt)))
      clear hT hC hl
      go_wp2_with fail
      go_roundw
      case rel =>
        obtain ⟨hT, hC, hl⟩ := HT.out
        have hp := lb_pos i
        have hs := lb_small hi0 (show i < 512 by omega)
        have hu := lb_up hi0 (show i < 512 by omega)
        refine ⟨i + lb i, by rw [e2], by omega, by omega, fun _ => by omega, by omega, ?_, hC.setCell _ _ (Or.inl rfl)⟩
        refine set_blockF hT hlt fun j hj => ?_
        show updF (ints (mid x m v i)) i (.int .i64 (mid x m v i i + v)) j = ints (mid x m v (i + lb i)) j
        have := mid_step x m v hi0 (show i < 512 by omega) hl hmi j
        unfold ints
        rw [← this]
        unfold updF
        split <;> rfl
      case measure =>
        have hp := lb_pos i
        rw [e2]; simp [intOf]; omega
    · have d1 : decide ((i : Int) < (n : Int)) = false := by simp; omega
      have HT := Lib.hid (And.intro hT hC)
      clear hT hC hl
      go_wp2_with fail
      go_returns
      obtain ⟨hT, hC⟩ := HT.out
      refine ⟨rfl, hT.trans ?_, hC⟩
      rw [cellsF_congr]
      intro j hj
      unfold ints
      rw [mid_end x m v (by omega)]
end Go.Proofs.YtbplmbignalbgaaDoor
