/- Contracts: the document's reading of a char. Conditions: none. -/
import Derived.Test.YtgnnkfdpfmlajaaDoorUtC
namespace Go.Proofs.YtgnnkfdpfmlajaaDoor
open Go.RowKit Bg
set_option linter.unusedVariables false
set_option linter.unusedSimpArgs false


def tMask (l : List Int) : Int := if l.length = 2 then l.getD 0 0 % 32 else if l.length = 3 then l.getD 0 0 % 16 else if l.length = 4 then l.getD 0 0 % 8 else l.getD 0 0
def tW (l : List Int) : Nat → Int
  | 0 => tMask l
  | i + 1 => 64 * tW l i + l.getD (i + 1) 0 % 64
/-- What bytes of a char's length tell. -/
def toldL (l : List Int) : Int := tW l (l.length - 1)
theorem Bg.Byts.getD {l : List Int} (h : Byts l) (i : Nat) : 0 ≤ l.getD i 0 ∧ l.getD i 0 < 256 := by
  rw [List.getD_eq_getElem?_getD]
  rcases Nat.lt_or_ge i l.length with hi | hi
  · rw [List.getElem?_eq_getElem hi]; exact h _ (List.getElem_mem hi)
  · rw [List.getElem?_eq_none hi]; decide
theorem tW_bounds {l : List Int} (h : Byts l) : ∀ i, i ≤ 3 → 0 ≤ tW l i ∧ tW l i < 256 * 64 ^ i
  | 0, _ => by
    have := h.getD 0
    unfold tW tMask
    split
    · omega
    · split
      · omega
      · split <;> omega
  | i + 1, hi => by
    have ih := tW_bounds h i (by omega)
    have := h.getD (i + 1)
    have e : (64 : Int) ^ (i + 1) = 64 ^ i * 64 := Int.pow_succ _ _
    unfold tW
    rw [e]
    omega
theorem tW_lt {l : List Int} (h : Byts l) {i : Nat} (hi : i ≤ 3) : 0 ≤ tW l i ∧ tW l i < 67108864 := by
  have h1 := tW_bounds h i hi
  rcases (show i = 0 ∨ i = 1 ∨ i = 2 ∨ i = 3 by omega) with rfl | rfl | rfl | rfl <;> simp at h1 <;> omega
theorem told_enc {c : Int} (h : isC c = true) : toldL (enc c) = c := by
  have hc := isC_iff.1 h
  rcases enc_cases h with ⟨h1, he⟩ | ⟨h1, h2, he⟩ | ⟨h1, h2, he⟩ | ⟨h1, he⟩
  · rw [he]; simp [toldL, tW, tMask]
  · rw [he]; simp [toldL, tW, tMask]; omega
  · rw [he]; simp [toldL, tW, tMask]; omega
  · rw [he]; simp [toldL, tW, tMask]; omega
set_option maxRecDepth 100000 in
set_option maxHeartbeats 8000000 in
theorem told_at {w : World} {p : Option Addr} {c : Nat} {l : List Int} (a : Arg .u8 w p c l) (hb : Byts l) (h1 : 1 ≤ l.length) (h4 : l.length ≤ 4) :
    Calls Tryd.prog 30 #[.slice p l.length c] w fun e w' => e = .returned (.int .i64 (toldL l)) ∧ w = w' := by
  obtain ⟨b, off, rfl, hc⟩ := a.at (by omega)
  have c0 := hc 0 (by omega)
  have hM : tW l 0 = tMask l := rfl
  have hL : toldL l = tW l (l.length - 1) := rfl
  have hS : Hid (∀ i, tW l (i + 1) = 64 * tW l i + l.getD (i + 1) 0 % 64) := Lib.hid fun i => rfl
  have hB : Hid (∀ i, i ≤ 3 → 0 ≤ tW l i ∧ tW l i < 67108864) := Lib.hid fun i hi => tW_lt hb hi
  have hX : Hid (∀ i, 0 ≤ l.getD i 0 ∧ l.getD i 0 < 256) := Lib.hid hb.getD
  have x0 := hb.getD 0
  obtain ⟨y0, hy0⟩ : ∃ y, y = l.getD 0 0 := ⟨_, rfl⟩
  unfold tMask at hM
  rw [← hy0] at hM c0 x0
  replace hc := Lib.hid hc
  clear hb a
  obtain ⟨m, hm⟩ : ∃ m, m = l.length := ⟨_, rfl⟩
  rw [← hm] at hc hM hL h1 h4 ⊢
  obtain ⟨T, hT⟩ : ∃ T, T = tW l := ⟨_, rfl⟩
  rw [← hT] at hM hL hS hB
  clear hy0 hT
  rw [Nat.add_zero] at c0
  have hm4 : m = 1 ∨ m = 2 ∨ m = 3 ∨ m = 4 := by omega
  rw [hL]
  clear hL hm
  rcases hm4 with rfl | rfl | rfl | rfl
  all_goals simp only [Nat.reduceEqDiff, if_true, if_false, Nat.reduceSub] at hM ⊢
  · go_enter Tryd.func30, Tryd.ntmps30
    go_wp2_with fail
    go_loop [4, 5] (fun t k => ∃ i : Nat, t = .int .i64 (T i) ∧ k = .int .i64 ((i + 1 : Nat) : Int) ∧ i + 1 ≤ 1) (fun t k => 1 - (intOf k).toNat)
    case atStart => exact ⟨0, by rw [hM], rfl, by omega⟩
    case round =>
      obtain ⟨i, rfl, rfl, hi⟩ := hrel
      by_cases hlt : i + 1 < 1
      · have d1 : decide (((i + 1 : Nat) : Int) < 1) = true := by rw [decide_eq_true_eq]; omega
        have f1 : ((i + 1 : Nat) : Int) < 1 := by omega
        have hcell := hc.out (i + 1) hlt
        have hx := hX.out (i + 1)
        obtain ⟨x, hxe⟩ : ∃ x, x = l.getD (i + 1) 0 := ⟨_, rfl⟩
        have hs := hS.out i
        rw [← hxe] at hcell hx hs
        have hb1 := hB.out i (by omega)
        have hb2 := hB.out (i + 1) (by omega)
        clear hxe
        obtain ⟨k, hk⟩ : ∃ k, k = i + 1 := ⟨_, rfl⟩
        have hk3 : k ≤ 3 := by omega
        obtain ⟨t0, ht0⟩ : ∃ t0, t0 = T i := ⟨_, rfl⟩
        have hs' : 64 * t0 + x % 64 = T k := by rw [ht0, hk, hs]
        rw [← hk] at hcell d1 f1 hb2 ⊢
        rw [← ht0] at hb1 ⊢
        have hT : Hid (64 * t0 + x % 64 = T k ∧ k = i + 1) := Lib.hid ⟨hs', hk⟩
        clear hs hs' hk ht0
        go_wp2_with fail
        go_round
        case rel =>
          obtain ⟨h1, h2⟩ := hT.out
          exact ⟨k, by rw [← h1], rfl, by omega⟩
        case measure => simp only [intOf]; omega
      · have hie : i = 1 - 1 := by omega
        have d1 : decide (((i + 1 : Nat) : Int) < 1) = false := by rw [decide_eq_false_iff_not]; omega
        have f1 : ¬ ((i + 1 : Nat) : Int) < 1 := by omega
        subst hie
        go_wp2_with fail
        go_ret
        exact ⟨rfl, rfl⟩
  · go_enter Tryd.func30, Tryd.ntmps30
    go_wp2_with fail
    go_loop [4, 5] (fun t k => ∃ i : Nat, t = .int .i64 (T i) ∧ k = .int .i64 ((i + 1 : Nat) : Int) ∧ i + 1 ≤ 2) (fun t k => 2 - (intOf k).toNat)
    case atStart => exact ⟨0, by rw [hM], rfl, by omega⟩
    case round =>
      obtain ⟨i, rfl, rfl, hi⟩ := hrel
      by_cases hlt : i + 1 < 2
      · have d1 : decide (((i + 1 : Nat) : Int) < 2) = true := by rw [decide_eq_true_eq]; omega
        have f1 : ((i + 1 : Nat) : Int) < 2 := by omega
        have hcell := hc.out (i + 1) hlt
        have hx := hX.out (i + 1)
        obtain ⟨x, hxe⟩ : ∃ x, x = l.getD (i + 1) 0 := ⟨_, rfl⟩
        have hs := hS.out i
        rw [← hxe] at hcell hx hs
        have hb1 := hB.out i (by omega)
        have hb2 := hB.out (i + 1) (by omega)
        clear hxe
        obtain ⟨k, hk⟩ : ∃ k, k = i + 1 := ⟨_, rfl⟩
        have hk3 : k ≤ 3 := by omega
        obtain ⟨t0, ht0⟩ : ∃ t0, t0 = T i := ⟨_, rfl⟩
        have hs' : 64 * t0 + x % 64 = T k := by rw [ht0, hk, hs]
        rw [← hk] at hcell d1 f1 hb2 ⊢
        rw [← ht0] at hb1 ⊢
        have hT : Hid (64 * t0 + x % 64 = T k ∧ k = i + 1) := Lib.hid ⟨hs', hk⟩
        clear hs hs' hk ht0
        go_wp2_with fail
        go_round
        case rel =>
          obtain ⟨h1, h2⟩ := hT.out
          exact ⟨k, by rw [← h1], rfl, by omega⟩
        case measure => simp only [intOf]; omega
      · have hie : i = 2 - 1 := by omega
        have d1 : decide (((i + 1 : Nat) : Int) < 2) = false := by rw [decide_eq_false_iff_not]; omega
        have f1 : ¬ ((i + 1 : Nat) : Int) < 2 := by omega
        subst hie
        go_wp2_with fail
        go_ret
        exact ⟨rfl, rfl⟩
  · go_enter Tryd.func30, Tryd.ntmps30
    go_wp2_with fail
    go_loop [4, 5] (fun t k => ∃ i : Nat, t = .int .i64 (T i) ∧ k = .int .i64 ((i + 1 : Nat) : Int) ∧ i + 1 ≤ 3) (fun t k => 3 - (intOf k).toNat)
    case atStart => exact ⟨0, by rw [hM], rfl, by omega⟩
    case round =>
      obtain ⟨i, rfl, rfl, hi⟩ := hrel
      by_cases hlt : i + 1 < 3
      · have d1 : decide (((i + 1 : Nat) : Int) < 3) = true := by rw [decide_eq_true_eq]; omega
        have f1 : ((i + 1 : Nat) : Int) < 3 := by omega
        have hcell := hc.out (i + 1) hlt
        have hx := hX.out (i + 1)
        obtain ⟨x, hxe⟩ : ∃ x, x = l.getD (i + 1) 0 := ⟨_, rfl⟩
        have hs := hS.out i
        rw [← hxe] at hcell hx hs
        have hb1 := hB.out i (by omega)
        have hb2 := hB.out (i + 1) (by omega)
        clear hxe
        obtain ⟨k, hk⟩ : ∃ k, k = i + 1 := ⟨_, rfl⟩
        have hk3 : k ≤ 3 := by omega
        obtain ⟨t0, ht0⟩ : ∃ t0, t0 = T i := ⟨_, rfl⟩
        have hs' : 64 * t0 + x % 64 = T k := by rw [ht0, hk, hs]
        rw [← hk] at hcell d1 f1 hb2 ⊢
        rw [← ht0] at hb1 ⊢
        have hT : Hid (64 * t0 + x % 64 = T k ∧ k = i + 1) := Lib.hid ⟨hs', hk⟩
        clear hs hs' hk ht0
        go_wp2_with fail
        go_round
        case rel =>
          obtain ⟨h1, h2⟩ := hT.out
          exact ⟨k, by rw [← h1], rfl, by omega⟩
        case measure => simp only [intOf]; omega
      · have hie : i = 3 - 1 := by omega
        have d1 : decide (((i + 1 : Nat) : Int) < 3) = false := by rw [decide_eq_false_iff_not]; omega
        have f1 : ¬ ((i + 1 : Nat) : Int) < 3 := by omega
        subst hie
        go_wp2_with fail
        go_ret
        exact ⟨rfl, rfl⟩
  · go_enter Tryd.func30, Tryd.ntmps30
    go_wp2_with fail
    go_loop [4, 5] (fun t k => ∃ i : Nat, t = .int .i64 (T i) ∧ k = .int .i64 ((i + 1 : Nat) : Int) ∧ i + 1 ≤ 4) (fun t k => 4 - (intOf k).toNat)
    case atStart => exact ⟨0, by rw [hM], rfl, by omega⟩
    case round =>
      obtain ⟨i, rfl, rfl, hi⟩ := hrel
      by_cases hlt : i + 1 < 4
      · have d1 : decide (((i + 1 : Nat) : Int) < 4) = true := by rw [decide_eq_true_eq]; omega
        have f1 : ((i + 1 : Nat) : Int) < 4 := by omega
        have hcell := hc.out (i + 1) hlt
        have hx := hX.out (i + 1)
        obtain ⟨x, hxe⟩ : ∃ x, x = l.getD (i + 1) 0 := ⟨_, rfl⟩
        have hs := hS.out i
        rw [← hxe] at hcell hx hs
        have hb1 := hB.out i (by omega)
        have hb2 := hB.out (i + 1) (by omega)
        clear hxe
        obtain ⟨k, hk⟩ : ∃ k, k = i + 1 := ⟨_, rfl⟩
        have hk3 : k ≤ 3 := by omega
        obtain ⟨t0, ht0⟩ : ∃ t0, t0 = T i := ⟨_, rfl⟩
        have hs' : 64 * t0 + x % 64 = T k := by rw [ht0, hk, hs]
        rw [← hk] at hcell d1 f1 hb2 ⊢
        rw [← ht0] at hb1 ⊢
        have hT : Hid (64 * t0 + x % 64 = T k ∧ k = i + 1) := Lib.hid ⟨hs', hk⟩
        clear hs hs' hk ht0
        go_wp2_with fail
        go_round
        case rel =>
          obtain ⟨h1, h2⟩ := hT.out
          exact ⟨k, by rw [← h1], rfl, by omega⟩
        case measure => simp only [intOf]; omega
      · have hie : i = 4 - 1 := by omega
        have d1 : decide (((i + 1 : Nat) : Int) < 4) = false := by rw [decide_eq_false_iff_not]; omega
        have f1 : ¬ ((i + 1 : Nat) : Int) < 4 := by omega
        subst hie
        go_wp2_with fail
        go_ret
        exact ⟨rfl, rfl⟩
end Go.Proofs.YtgnnkfdpfmlajaaDoor
