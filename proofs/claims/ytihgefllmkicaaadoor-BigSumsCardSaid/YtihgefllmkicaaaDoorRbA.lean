/- Contracts: the document's numbers: trimmed, made, times a small one, a digit. Conditions: the digits lie as told. -/
import Derived.Test.YtihgefllmkicaaaDoorBgG
import Derived.Lib.AppendZeros
namespace Go.Proofs.YtihgefllmkicaaaDoor
open Go.RowKit Bg
set_option linter.unusedVariables false
set_option linter.unusedSimpArgs false

set_option maxRecDepth 100000 in
set_option maxHeartbeats 1000000 in
theorem rtrim_at {w : World} {p : Option Addr} {c : Nat} {l : List Int} (h : Arg .i64 w p c l) :
    Calls Tryd.prog 60 #[.slice p l.length c] w fun e w' => e = .returned (.slice p (trimN l l.length) c) ∧ w = w' := by
  have hle := h.le
  have hmx := h.max
  have H := Lib.hid h
  clear h
  go_enter Tryd.func60, Tryd.ntmps60
  go_wp2_with fail
  go_loop [3] (fun s => ∃ n : Nat, s = .int .i64 n ∧ n ≤ l.length ∧ trimN l n = trimN l l.length) (fun s => (intOf s).toNat)
  case atStart => exact ⟨l.length, rfl, Nat.le_refl _, rfl⟩
  case round =>
    obtain ⟨n, rfl, hn, ht⟩ := hrel
    cases n with
    | zero =>
      have d1 : decide (((0 : Nat) : Int) > 0) = false := rfl
      have hp : p = none ∨ ∃ a, p = some a := by cases p; exact Or.inl rfl; exact Or.inr ⟨_, rfl⟩
      rcases hp with rfl | ⟨a, rfl⟩
      · have hl := H.out.nil rfl
        obtain ⟨rfl, rfl⟩ := hl
        go_wp2_with fail
        go_ret
        exact ⟨rfl, rfl⟩
      · have hc0 : (0 : Int) ≤ c := by omega
        have HT := Lib.hid ht
        clear ht
        go_wp2_with fail
        go_ret
        exact ⟨by rw [← HT.out]; rfl, rfl⟩
    | succ n =>
      obtain ⟨b, off, rfl, hc⟩ := H.out.at (by omega)
      have hcn := hc n (by omega)
      have e1 : ((n + 1 : Nat) : Int) - 1 = n := by omega
      have d1 : decide (((n + 1 : Nat) : Int) > 0) = true := by rw [decide_eq_true_eq]; omega
      have hin : (n : Int) < (l.length : Int) := by omega
      have ht' : (if l.getD n 0 = 0 then trimN l n else n + 1) = trimN l l.length := ht
      have HT := Lib.hid ht'
      clear ht ht' hc
      obtain ⟨d, hd⟩ : ∃ d, d = l.getD n 0 := ⟨_, rfl⟩
      rw [← hd] at hcn
      have HD := Lib.hid hd
      clear hd
      by_cases hz : d = 0
      · subst hz
        go_wp2_with fail
        go_round
        case rel => exact ⟨n, by go_num, by omega, by rw [← HT.out, if_pos HD.out.symm]⟩
        case measure => simp [intOf]
      · have dz : decide (d = 0) = false := by simp [hz]
        have hc0 : ((n + 1 : Nat) : Int) ≤ c := by omega
        go_wp2_with fail
        go_ret
        refine ⟨?_, rfl⟩
        rw [← HT.out, if_neg (by rw [← HD.out]; exact hz)]
        rfl


set_option maxHeartbeats 2000000 in
theorem made_at {w : World} {p : Option Addr} {c : Nat} {l : List Int} (neg : Bool) (h : Arg .i64 w p c l) :
    Calls Tryd.prog 49 #[.bool neg, .slice p l.length c] w fun e w' => e = .returned (.agg #[.bool (tneg neg l), .slice p (tdig l).length c]) ∧ Below w.heap.size w w' := by
  rw [tdig_len]
  have hb : Below w.heap.size w (w.alloc (.cells #[.bool false, .slice none 0 0] 28)) := (Below.refl _ _).alloc (Nat.le_refl _) _
  have T := Lib.hid (rtrim_at (h.below hb))
  clear h hb
  go_enter Tryd.func49, Tryd.ntmps49
  by_cases hn : 0 < trimN l l.length
  · have d1 : decide ((trimN l l.length : Int) > 0) = true := by rw [decide_eq_true_eq]; omega
    cases neg
    all_goals
      go_wp2_with fail
      refine T.out.mono ?_
      rintro e w' ⟨rfl, rfl⟩
      go_wp2_with fail
      go_returns
      exact ⟨by unfold tneg; simp [hn], (Below.refl _ _).alloc (Nat.le_refl _) _⟩
  · have d1 : decide ((trimN l l.length : Int) > 0) = false := by rw [decide_eq_false_iff_not]; omega
    cases neg
    all_goals
      go_wp2_with fail
      refine T.out.mono ?_
      rintro e w' ⟨rfl, rfl⟩
      go_wp2_with fail
      go_returns
      exact ⟨by unfold tneg; simp [hn], (Below.refl _ _).alloc (Nat.le_refl _) _⟩
set_option maxHeartbeats 2000000 in
theorem digit_at {w : World} {p : Option Addr} {c : Nat} {l : List Int} (k : Nat) (h : Arg .i64 w p c l) :
    Calls Tryd.prog 69 #[.slice p l.length c, .int .i64 k] w fun e w' => e = .returned (.int .i64 (l.getD k 0)) ∧ w = w' := by
  have hle := h.le
  have hmx := h.max
  go_enter Tryd.func69, Tryd.ntmps69
  by_cases hlt : k < l.length
  · obtain ⟨b, off, rfl, hc⟩ := h.at (by omega)
    have hck := hc k hlt
    have d1 : decide ((k : Int) < (l.length : Int)) = true := by rw [decide_eq_true_eq]; omega
    have f1 : (k : Int) < (l.length : Int) := by omega
    clear hc
    go_wp2_with fail
    go_ret
    exact ⟨ret_int (by simp [List.getD, List.getElem?_eq_getElem hlt]), rfl⟩
  · have d1 : decide ((k : Int) < (l.length : Int)) = false := by rw [decide_eq_false_iff_not]; omega
    go_wp2_with fail
    go_ret
    exact ⟨ret_int (by simp [List.getD, List.getElem?_eq_none (show l.length ≤ k by omega)]), rfl⟩
structure Tim (l : List Int) (y m0 : Int) (k : Nat) (m : Int) (D : List Int) : Prop where
  len : D.length = k
  dig : Dig 10 D
  carry : 0 ≤ m ∧ m ≤ 655360
  val : Bg.val 10 D + 10 ^ k * m = Bg.val 10 (l.take k) * y + m0
theorem Tim.next {l : List Int} {y m0 : Int} {k : Nat} {m : Int} {D : List Int} (h : Tim l y m0 k m D) (hl : Dig 10 l) (hy : 0 ≤ y ∧ y ≤ 65536) :
    (0 ≤ m + l.getD k 0 * y ∧ m + l.getD k 0 * y ≤ 1245184) ∧ Tim l y m0 (k + 1) ((m + l.getD k 0 * y) / 10) (D ++ [(m + l.getD k 0 * y) % 10]) := by
  have h1 := hl.getD (by decide) k
  have h2 : 0 ≤ l.getD k 0 * y := Int.mul_nonneg h1.1 hy.1
  have h3 : l.getD k 0 * y ≤ 9 * y := Int.mul_le_mul_of_nonneg_right (by omega) hy.1
  have hc := h.carry
  refine ⟨by omega, by rw [List.length_append, h.len]; rfl, h.dig.app (Dig.one (mod_dig (by decide) _)), by omega, ?_⟩
  have e := carry_step 10 D (m + l.getD k 0 * y)
  rw [h.len] at e
  rw [e, val_take_any, Int.add_mul, Int.mul_assoc, ← h.len, Int.mul_add]
  have e2 := h.val
  rw [← h.len] at e2
  omega
set_option maxRecDepth 100000 in
set_option maxHeartbeats 4000000 in
theorem rtimes_at {w : World} {p : Option Addr} {c : Nat} {l : List Int} {y m0 : Int} (h : Arg .i64 w p c l) (hl : Dig 10 l) (hy : 0 ≤ y ∧ y ≤ 65536) (hm : 0 ≤ m0 ∧ m0 ≤ 655360) (hn : l.length ≤ 10000000) :
    Calls Tryd.prog 58 #[.slice p l.length c, .int .i64 y, .int .i64 m0] w fun e w' => ∃ v D, e = .returned v ∧ Own 3 .i64 w.heap.size w' v D ∧ Dig 10 D ∧ D.length ≤ l.length + 7 ∧ val 10 D = val 10 l * y + m0 ∧ Below w.heap.size w w' := by
  have hle := h.le
  have hmx := h.max
  have H := Lib.hid (And.intro h (And.intro hl hy))
  have hy' := hy
  clear h hl hy
  go_enter Tryd.func58, Tryd.ntmps58
  go_wp2_with fail
  go_loopw [2, 7, 8] (fun s2 v s8 wr => ∃ (k : Nat) (m : Int) (D : List Int), s8 = .int .i64 k ∧ s2 = .int .i64 m ∧ k ≤ l.length ∧ Hid (Tim l y m0 k m D ∧ Own 3 .i64 w.heap.size wr v D ∧ Below w.heap.size w wr)) (fun _ _ s _ => l.length - (intOf s).toNat)
  case atStart => exact ⟨0, m0, [], rfl, rfl, Nat.zero_le _, ⟨rfl, Dig.nil, hm, by simp [val]⟩, Own.nil _ _ _ _, Below.refl _ _⟩
  case round =>
    obtain ⟨k, m, D, rfl, rfl, hk, hS⟩ := hrel
    obtain ⟨v7, hv7⟩ : ∃ v7, v7 = u7 := ⟨_, rfl⟩
    rw [← hv7] at hS ⊢
    clear hv7
    by_cases hlt : k < l.length
    · obtain ⟨b, off, rfl, -⟩ := H.out.1.at (by omega)
      have ck := (H.out.1.below hS.out.2.2).some_at k hlt
      have hnx := hS.out.1.next H.out.2.1 hy'
      have hd := H.out.2.1.getD (by decide) k
      have hc := hS.out.1.carry
      have hDl := hS.out.1.len
      obtain ⟨x, hx⟩ : ∃ x, x = l.getD k 0 := ⟨_, rfl⟩
      rw [← hx] at ck hnx hd
      obtain ⟨z, hz⟩ : ∃ z, z = m + x * y := ⟨_, rfl⟩
      rw [← hz] at hnx
      obtain ⟨v', w', hr', ho', hb'⟩ := app_two ktI (x := z % 10) hS.out.2.1 (by omega) hS.out.2.2.size
      have HR := Lib.hid hr'
      have HX := Lib.hid (And.intro hnx (And.intro ho' (hS.out.2.2.trans hb')))
      have p1 : 0 ≤ x * y := Int.mul_nonneg hd.1 hy'.1
      have p2 : x * y ≤ 9 * y := Int.mul_le_mul_of_nonneg_right (by omega) hy'.1
      have e1 : wrap64 (m + wrap64 (x * y)) = z := by rw [hz]; unfold wrap64; omega
      have e0 : wrap64 (x * y) = x * y := by unfold wrap64; omega
      have e2 : z.tmod 10 = z % 10 := Int.tmod_eq_emod_of_nonneg hnx.1.1
      have e3 : z.tdiv 10 = z / 10 := Int.tdiv_eq_ediv_of_nonneg hnx.1.1
      have e4 : wrap64 (m + x * y) = z := by rw [hz]; unfold wrap64; omega
      have d1 : decide ((k : Int) < (l.length : Int)) = true := by rw [decide_eq_true_eq]; omega
      have f1 : (k : Int) < (l.length : Int) := by omega
      have g1 : wrap64 (z / 10) = z / 10 := by unfold wrap64; omega
      clear hnx hr' ho' hb' hc hd p1 p2 hz hx
      go_wp2_with (at_builtin; refine Lib.wpList_append_run _ rfl _ _ 26 26 rfl v7 (.slice (some ⟨wr.heap.size, 0, none⟩) 1 1) rfl rfl v' w' HR.out ?_)
      go_roundw
      case rel => exact ⟨k + 1, z / 10, _, by go_num, by rw [g1], hlt, HX.out.1.2, HX.out.2.1, HX.out.2.2⟩
      case measure => simp [intOf]; omega
    · have hz : k = l.length := by omega
      subst hz
      have d1 : decide ((l.length : Int) < (l.length : Int)) = false := by simp
      go_wp2_with fail
      go_loopw [2, 7] (fun s2 v wr => ∃ (j : Nat) (m : Int) (D : List Int), s2 = .int .i64 m ∧ (0 ≤ m ∧ m ≤ 655360 ∧ m < 10 ^ j) ∧ j ≤ 7 ∧ D.length + j ≤ l.length + 7 ∧ Hid (Dig 10 D ∧ val 10 D + 10 ^ D.length * m = val 10 l * y + m0 ∧ Own 3 .i64 w.heap.size wr v D ∧ Below w.heap.size w wr)) (fun s _ _ => (intOf s).toNat)
      case atStart =>
        have hT := hS.out.1
        have hv := hT.val
        rw [List.take_length, ← hT.len] at hv
        exact ⟨7, m, D, rfl, ⟨hT.carry.1, hT.carry.2, Int.lt_of_le_of_lt hT.carry.2 (by decide)⟩, by omega, by rw [hT.len]; omega, hT.dig, hv, hS.out.2.1, hS.out.2.2⟩
      case round =>
        obtain ⟨j, m, D, rfl, hC, hj, hl, hS⟩ := hrel
        obtain ⟨v7, hv7⟩ : ∃ v7, v7 = u7 := ⟨_, rfl⟩
        rw [← hv7] at hS ⊢
        clear hv7
        by_cases h0 : 0 < m
        · obtain ⟨j, rfl⟩ : ∃ i, j = i + 1 := ⟨j - 1, by
            rcases Nat.eq_zero_or_pos j with h | h
            · subst h
              have : (10 : Int) ^ 0 = 1 := rfl
              omega
            · omega⟩
          have hq1 : m / 10 < 10 ^ j := by
            have h := hC.2.2
            rw [Int.pow_succ] at h
            omega
          have hv2 : val 10 (D ++ [m % 10]) + 10 ^ (D.length + 1) * (m / 10) = val 10 l * y + m0 := by
            rw [carry_step]; exact hS.out.2.1
          obtain ⟨v', w', hr', ho', hb'⟩ := app_two ktI (x := m % 10) hS.out.2.2.1 (by omega) hS.out.2.2.2.size
          have HX2 := Lib.hid (And.intro ho' (And.intro (hS.out.2.2.2.trans hb') (And.intro hv2 (And.intro (hS.out.1.app (Dig.one (mod_dig (by decide) m))) hq1))))
          have HR := Lib.hid hr'
          have e2 : m.tmod 10 = m % 10 := Int.tmod_eq_emod_of_nonneg hC.1
          have e3 : m.tdiv 10 = m / 10 := Int.tdiv_eq_ediv_of_nonneg hC.1
          have g1 : wrap64 (m / 10) = m / 10 := by unfold wrap64; omega
          have d2 : decide (m > 0) = true := by rw [decide_eq_true_eq]; omega
          clear ho' hb' hv2 hr' hq1
          go_wp2_with (at_builtin; refine Lib.wpList_append_run _ rfl _ _ 26 26 rfl v7 (.slice (some ⟨wr.heap.size, 0, none⟩) 1 1) rfl rfl v' w' HR.out ?_)
          go_roundw
          case rel => exact ⟨j, m / 10, D ++ [m % 10], by first | rfl | rw [g1], ⟨by omega, by omega, HX2.out.2.2.2.2⟩, by omega, by rw [List.length_append]; show D.length + 1 + j ≤ _; omega, HX2.out.2.2.2.1, by rw [List.length_append]; exact HX2.out.2.2.1, HX2.out.1, HX2.out.2.1⟩
          case measure => simp [intOf]; omega
        · have hz : m = 0 := by omega
          subst hz
          have d2 : decide ((0 : Int) > 0) = false := rfl
          have hv2 : val 10 D = val 10 l * y + m0 := by have hv := hS.out.2.1; rw [Int.mul_zero, Int.add_zero] at hv; exact hv
          have HV := Lib.hid hv2
          clear hv2
          go_wp2_with fail
          go_ret
          exact ⟨_, rfl, D, hS.out.2.2.1, hS.out.1, by omega, HV.out, hS.out.2.2.2⟩
end Go.Proofs.YtihgefllmkicaaaDoor
