/- Contracts: the number of the highest digits; digits compared. Conditions: the digits lie as told. -/
import Derived.Test.YtihgefllmkicaaaDoorBgE
namespace Go.Proofs.YtihgefllmkicaaaDoor
open Go.RowKit Bg
set_option linter.unusedVariables false
set_option linter.unusedSimpArgs false


/-- The number of n digits from a place on downward. -/
def ld (l : List Int) (a : Int) : Nat → Int
  | 0 => 0
  | n + 1 => ld l a n * 65536 + if 0 ≤ a - n then l.getD (a - n).toNat 0 else 0
theorem ld_bound {l : List Int} (h : Dig 65536 l) (a : Int) : ∀ n, 0 ≤ ld l a n ∧ ld l a n < 65536 ^ n
  | 0 => ⟨Int.le_refl _, by show (0 : Int) < 1; decide⟩
  | n + 1 => by
    have ih := ld_bound h a n
    have hd := h.getD (by decide) (a - n).toNat
    show 0 ≤ ld l a n * 65536 + _ ∧ ld l a n * 65536 + _ < _
    rw [Int.pow_succ]
    split <;> omega
set_option maxRecDepth 100000 in
set_option maxHeartbeats 1000000 in
theorem leading_at {w : World} {p : Option Addr} {c : Nat} {l : List Int} {a : Int} {n : Nat} (h : Arg .u16 w p c l) (hd : Dig 65536 l) (ha : -1 ≤ a ∧ a < l.length) (hn : n ≤ 4) :
    Calls Tryd.prog 45 #[.slice p l.length c, .int .i64 a, .int .i64 n] w fun e w' => e = .returned (.int .u64 (ld l a n)) ∧ w = w' := by
  have hle := h.le
  have hmx := h.max
  have H := Lib.hid h
  have HD := Lib.hid hd
  clear h hd
  go_enter Tryd.func45, Tryd.ntmps45
  go_wp2_with fail
  go_loop [7, 10] (fun s t => ∃ k : Nat, t = .int .i64 k ∧ k ≤ n ∧ s = .int .u64 (ld l a k)) (fun _ t => n - (intOf t).toNat)
  case atStart => exact ⟨0, rfl, Nat.zero_le _, rfl⟩
  case round =>
    obtain ⟨k, rfl, hk, rfl⟩ := hrel
    by_cases hlt : k < n
    · have d1 : decide ((k : Int) < (n : Int)) = true := by rw [decide_eq_true_eq]; omega
      have b1 := ld_bound HD.out a k
      have b2 : ld l a k * 65536 < 18446744073709551616 := by
        have h4 : (65536 : Int) ^ k ≤ 65536 ^ 3 := pow_le (by decide) (by omega)
        have : (65536 : Int) ^ 3 = 281474976710656 := by decide
        omega
      have b0 : 0 ≤ ld l a k * 65536 := by omega
      obtain ⟨x, hx⟩ : ∃ x, x = ld l a k := ⟨_, rfl⟩
      rw [← hx] at b2 b0 ⊢
      have HX := Lib.hid (And.intro hx b1)
      clear hx b1
      by_cases h0 : 0 ≤ a - k
      · obtain ⟨m, hm⟩ : ∃ m : Nat, a - k = m := ⟨(a - k).toNat, by omega⟩
        obtain ⟨b, off, rfl, hc⟩ := H.out.at (by omega)
        have hcm := hc m (by omega)
        have hdm := HD.out.getD (by decide) m
        obtain ⟨d, hd⟩ : ∃ d, d = l.getD m 0 := ⟨_, rfl⟩
        rw [← hd] at hcm hdm
        have d2 : decide ((m : Int) ≥ 0) = true := by rw [decide_eq_true_eq]; omega
        have hml : (m : Int) < (l.length : Int) := by omega
        have HM := Lib.hid (And.intro hm (And.intro hd hdm))
        have e1 := hm
        have hdm1 := hdm.1
        have hdm2 := hdm.2
        have e3 : (x * 65536 + d) % 18446744073709551616 = x * 65536 + d := by omega
        clear hm hd hc hdm
        go_wp2_with fail
        go_round
        case rel =>
          refine ⟨k + 1, by go_num, by omega, ?_⟩
          show Value.int .u64 _ = Value.int .u64 (ld l a k * 65536 + _)
          rw [if_pos (by omega), HM.out.1, Int.toNat_natCast, ← HM.out.2.1, ← HX.out.1]
        case measure => simp [intOf]; omega
      · have d2 : decide (a - k ≥ 0) = false := by rw [decide_eq_false_iff_not]; omega
        go_wp2_with fail
        go_round
        case rel =>
          refine ⟨k + 1, by go_num, by omega, ?_⟩
          show Value.int .u64 _ = Value.int .u64 (ld l a k * 65536 + _)
          rw [if_neg h0, ← HX.out.1, Int.add_zero]
        case measure => simp [intOf]; omega
    · have hz : k = n := by omega
      subst hz
      have d1 : decide ((k : Int) < (k : Int)) = false := by simp
      go_wp2_with fail
      go_ret
      exact ⟨rfl, rfl⟩

/-! ### The order of two numbers, as a number -/
set_option maxHeartbeats 1000000 in
theorem cmpI_any (x y : Int) (w : World) : Calls Tryd.prog 66 #[.int .i64 x, .int .i64 y] w fun e w' => e = .returned (.int .i64 (sgn x y)) ∧ w = w' := by
  go_enter Tryd.func66, Tryd.ntmps66
  go_wp2_with (go_at_call 76; refine (show Calls Tryd.prog 76 _ _ fun e w' => e = .returned (.bool false) ∧ _ = w' from by (go_enter Tryd.func76, Tryd.ntmps76; go_wp2_with fail; go_ret; exact ⟨by simp, rfl⟩)).mono ?_; rintro e w' ⟨rfl, rfl⟩)
  all_goals
    go_ret
    refine ⟨ret_int ?_, rfl⟩
    unfold sgn
    (repeat' split) <;> omega
set_option maxHeartbeats 1000000 in
theorem cmpW_any (x y : Int) (w : World) : Calls Tryd.prog 67 #[.int .u16 x, .int .u16 y] w fun e w' => e = .returned (.int .i64 (sgn x y)) ∧ w = w' := by
  go_enter Tryd.func67, Tryd.ntmps67
  go_wp2_with (go_at_call 77; refine (show Calls Tryd.prog 77 _ _ fun e w' => e = .returned (.bool false) ∧ _ = w' from by (go_enter Tryd.func77, Tryd.ntmps77; go_wp2_with fail; go_ret; exact ⟨by simp, rfl⟩)).mono ?_; rintro e w' ⟨rfl, rfl⟩)
  all_goals
    go_ret
    refine ⟨ret_int ?_, rfl⟩
    unfold sgn
    (repeat' split) <;> omega


theorem below_drewN {B : Nat} {a w : World} (h : Below B a w) (n : Nat) : Below B a (w.drewN n) := by
  induction n with
  | zero => exact h
  | succ n ih => exact ih.drew
theorem drewN_cell (w : World) (n : Nat) (a : Addr) : (w.drewN n).cell? a = w.cell? a := by
  induction n with
  | zero => rfl
  | succ n ih => exact ih
/-- The places above a place are alike. -/
def upper (l m : List Int) (n : Nat) : Prop := ∀ j, l.length ≤ j + n → l.getD j 0 = m.getD j 0
set_option maxRecDepth 100000 in
set_option maxHeartbeats 2000000 in
theorem compare_at {w : World} {p q : Option Addr} {c d : Nat} {l m : List Int} (h : Arg .u16 w p c l) (k : Arg .u16 w q d m) (hl : Dig 65536 l) (hm : Dig 65536 m) (tl : Tidy l) (tm : Tidy m) :
    Calls Tryd.prog 51 #[.slice p l.length c, .slice q m.length d] w fun e w' => e = .returned (.int .i64 (sgn (val 65536 l) (val 65536 m))) ∧ Below w.heap.size w w' := by
  have hle := h.le
  have hmx := h.max
  have kle := k.le
  have kmx := k.max
  have H := Lib.hid (And.intro h k)
  have HD := Lib.hid (And.intro hl (And.intro hm (And.intro tl tm)))
  clear h k hl hm tl tm
  go_enter Tryd.func51, Tryd.ntmps51
  by_cases hne : l.length = m.length
  · have d1 : ((l.length : Int) != (m.length : Int)) = false := by simp [hne]
    have HN := Lib.hid hne
    clear hne
    go_wp2_with fail
    go_loopw [19] (fun s wr => ∃ n : Nat, s = .int .i64 n ∧ n ≤ l.length ∧ Hid (upper l m n) ∧ Below w.heap.size w wr) (fun s _ => l.length - (intOf s).toNat)
    case atStart => exact ⟨0, rfl, Nat.zero_le _, (fun j hj => by have hk := HN.out; simp [List.getD, List.getElem?_eq_none (show l.length ≤ j by omega), List.getElem?_eq_none (show m.length ≤ j by omega)]), Below.refl _ _⟩
    case round =>
      obtain ⟨n, rfl, hn, hu, hb⟩ := hrel
      by_cases hlt : n < l.length
      · obtain ⟨i, hi⟩ : ∃ i : Nat, l.length - 1 - n = i := ⟨_, rfl⟩
        have hil : i < l.length := by omega
        have him : i < m.length := by rw [← HN.out]; exact hil
        obtain ⟨b, off, rfl, hc⟩ := (H.out.1.below hb).at (by omega)
        obtain ⟨b', off', rfl, hc'⟩ := (H.out.2.below hb).at (by omega)
        have c1 := hc i hil
        have c2 := hc' i him
        obtain ⟨x, hx⟩ : ∃ x, x = l.getD i 0 := ⟨_, rfl⟩
        obtain ⟨y, hy⟩ : ∃ y, y = m.getD i 0 := ⟨_, rfl⟩
        rw [← hx] at c1
        rw [← hy] at c2
        have d2 : decide ((n : Int) < (l.length : Int)) = true := by rw [decide_eq_true_eq]; omega
        have e1 : (l.length : Int) - 1 - n = i := by omega
        have f1 : (i : Int) < (l.length : Int) := by omega
        have f2 : (i : Int) < (m.length : Int) := by omega
        have HX := Lib.hid (And.intro hx (And.intro hy (And.intro hi (And.intro hb hu))))
        clear hx hy hi hb hu hc hc'
        go_wp2_with fail
        go_quiet (fail)
        by_cases hxy : x = y
        · have d3 : (x != y) = false := by simp [hxy]
          have HXY := Lib.hid hxy
          clear hxy
          go_wp2_with fail
          go_roundw
          case rel =>
            refine ⟨n + 1, by go_num, by omega, (fun j hj => ?_), below_drewN HX.out.2.2.2.1 _⟩
            by_cases hj2 : l.length ≤ j + n
            · exact HX.out.2.2.2.2 j hj2
            · have : j = i := by have := HX.out.2.2.1; omega
              subst this
              rw [← HX.out.1, ← HX.out.2.1, HXY.out]
          case measure => simp [intOf]; omega
        · have d3 : (x != y) = true := by simp [hxy]
          have HXY := Lib.hid hxy
          clear hxy
          go_wp2_with fail
          have c3 := (drewN_cell wr nq _).trans c1
          have c4 := (drewN_cell wr nq _).trans c2
          have HB5 := Lib.hid (below_drewN HX.out.2.2.2.1 nq)
          obtain ⟨w5, hw5⟩ : ∃ w5, w5 = wr.drewN nq := ⟨_, rfl⟩
          rw [← hw5] at c3 c4 HB5 ⊢
          clear hw5 c1 c2
          go_quiet ((go_at_call 67; exact Calls.quiet_of_same ((cmpW_any x y _).mono fun _ _ h => ⟨h.1, h.2.symm⟩)))
          go_wp2_with fail
          go_ret
          refine ⟨ret_int ?_, below_drewN HB5.out _⟩
          have hs : ∀ j, i < j → l.getD j 0 = m.getD j 0 := fun j hj => HX.out.2.2.2.2 j (by have := HX.out.2.2.1; omega)
          have hx := HX.out.1
          have hy := HX.out.2.1
          rcases (show x < y ∨ y < x by have := HXY.out; omega) with hlt2 | hlt2
          · rw [sgn_lt hlt2, sgn_lt (val_order (by decide) HD.out.1 HD.out.2.1 HN.out hil hs (by rw [← hx, ← hy]; exact hlt2))]
          · rw [sgn_gt hlt2, sgn_gt (val_order (by decide) HD.out.2.1 HD.out.1 HN.out.symm him (fun j hj => (hs j hj).symm) (by rw [← hx, ← hy]; exact hlt2))]
      · have hz : n = l.length := by omega
        subst hz
        have d2 : decide ((l.length : Int) < (l.length : Int)) = false := by simp
        have HX := Lib.hid (And.intro hb hu)
        clear hb hu
        go_wp2_with fail
        go_ret
        refine ⟨ret_int ?_, HX.out.1⟩
        have : l = m := list_eq_of_getD HN.out (fun j hj => HX.out.2 j (by omega))
        rw [this, sgn_eq]
  · have d1 : ((l.length : Int) != (m.length : Int)) = true := by simp; omega
    go_wp2_with (go_at_call 66; refine (cmpI_any _ _ _).mono ?_; rintro e w' ⟨rfl, rfl⟩)
    go_ret
    refine ⟨ret_int ?_, Below.refl _ _⟩
    rcases (show l.length < m.length ∨ m.length < l.length by omega) with hlt | hlt
    · rw [sgn_lt (show (l.length : Int) < m.length by omega), sgn_lt (val_shorter (by decide) HD.out.1 HD.out.2.1 HD.out.2.2.2 hlt)]
    · rw [sgn_gt (show (m.length : Int) < l.length by omega), sgn_gt (val_shorter (by decide) HD.out.2.1 HD.out.1 HD.out.2.2.1 hlt)]
end Go.Proofs.YtihgefllmkicaaaDoor
