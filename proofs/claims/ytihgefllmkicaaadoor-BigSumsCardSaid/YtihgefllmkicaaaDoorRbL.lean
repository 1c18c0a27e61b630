/- Contracts: the document's sum and difference of digits. Conditions: the digits lie as told. -/
import Derived.Test.YtihgefllmkicaaaDoorRbE
namespace Go.Proofs.YtihgefllmkicaaaDoor
open Go.RowKit Bg
set_option linter.unusedVariables false
set_option linter.unusedSimpArgs false

structure Summ (a b : List Int) (k : Nat) (c : Int) (D : List Int) : Prop where
  len : D.length = k
  dig : Dig 10 D
  carry : 0 ≤ c ∧ c ≤ 1
  val : Bg.val 10 D + 10 ^ k * c = Bg.val 10 (a.take k) + Bg.val 10 (b.take k)
theorem Summ.next {a b : List Int} {k : Nat} {c : Int} {D : List Int} (h : Summ a b k c D) (ha : Dig 10 a) (hb : Dig 10 b) :
    Summ a b (k + 1) ((c + a.getD k 0 + b.getD k 0) / 10) (D ++ [(c + a.getD k 0 + b.getD k 0) % 10]) := by
  have h1 := ha.getD (by decide) k
  have h2 := hb.getD (by decide) k
  have hc := h.carry
  refine ⟨by rw [List.length_append, h.len]; rfl, h.dig.app (Dig.one (mod_dig (by decide) _)), by omega, ?_⟩
  have e := carry_step 10 D (c + a.getD k 0 + b.getD k 0)
  rw [h.len] at e
  rw [e, val_take_any, val_take_any, ← h.len, Int.mul_add, Int.mul_add]
  have e2 := h.val
  rw [← h.len] at e2
  omega
set_option maxRecDepth 100000 in
set_option maxHeartbeats 4000000 in
theorem rsum_at {w : World} {p p' : Option Addr} {c c' : Nat} {a b : List Int} (h1 : Arg .i64 w p c a) (h2 : Arg .i64 w p' c' b) (d1 : Dig 10 a) (d2 : Dig 10 b) (n1 : a.length ≤ 10000000) (n2 : b.length ≤ 10000000) :
    Calls Tryd.prog 55 #[.slice p a.length c, .slice p' b.length c'] w fun e w' => ∃ v D, e = .returned v ∧ Own 3 .i64 w.heap.size w' v D ∧ Dig 10 D ∧ D.length ≤ max a.length b.length + 1 ∧ val 10 D = val 10 a + val 10 b ∧ Below w.heap.size w w' := by
  have le1 := h1.le
  have mx1 := h1.max
  have le2 := h2.le
  have mx2 := h2.max
  have H := Lib.hid (And.intro h1 (And.intro h2 (And.intro d1 d2)))
  clear h1 h2 d1 d2
  obtain ⟨M, hM⟩ : ∃ M, M = max a.length b.length := ⟨_, rfl⟩
  rw [← hM]
  have m1 : a.length ≤ M := by omega
  have m2 : b.length ≤ M := by omega
  have m3 : M ≤ a.length ∨ M ≤ b.length := by omega
  clear hM
  go_enter Tryd.func55, Tryd.ntmps55
  go_wp2_with fail
  go_loopw [5, 6, 7] (fun v s6 s7 wr => ∃ (k : Nat) (m : Int) (D : List Int), s7 = .int .i64 k ∧ s6 = .int .i64 m ∧ (k ≤ M ∨ k = M + 1 ∧ m = 0) ∧ Hid (Summ a b k m D ∧ Own 3 .i64 w.heap.size wr v D ∧ Below w.heap.size w wr)) (fun _ _ s _ => M + 1 - (intOf s).toNat)
  case atStart => exact ⟨0, 0, [], rfl, rfl, Or.inl (Nat.zero_le _), ⟨rfl, Dig.nil, by omega, by simp [val]⟩, Own.nil _ _ _ _, Below.refl _ _⟩
  case round =>
    obtain ⟨k, m, D, rfl, rfl, hk, hS⟩ := hrel
    obtain ⟨v7, hv7⟩ : ∃ v7, v7 = u5 := ⟨_, rfl⟩
    rw [← hv7] at hS ⊢
    clear hv7
    have hnx := hS.out.1.next H.out.2.2.1 H.out.2.2.2
    have hx := H.out.2.2.1.getD (by decide) k
    have hy := H.out.2.2.2.getD (by decide) k
    have hc := hS.out.1.carry
    have hDl := hS.out.1.len
    have hx0 : a.length ≤ k → a.getD k 0 = 0 := fun h => by simp [List.getD, List.getElem?_eq_none h]
    have hy0 : b.length ≤ k → b.getD k 0 = 0 := fun h => by simp [List.getD, List.getElem?_eq_none h]
    have A1 := Lib.hid (digit_at k (H.out.1.below hS.out.2.2))
    have A2 := Lib.hid (digit_at k (H.out.2.1.below hS.out.2.2))
    obtain ⟨x, hxe⟩ : ∃ x, x = a.getD k 0 := ⟨_, rfl⟩
    obtain ⟨y, hye⟩ : ∃ y, y = b.getD k 0 := ⟨_, rfl⟩
    rw [← hxe] at hnx hx hx0 A1
    rw [← hye] at hnx hy hy0 A2
    clear hxe hye
    by_cases hgo : k < a.length ∨ k < b.length ∨ 0 < m
    · have hkM : k ≤ M := by omega
      have hfin : k + 1 ≤ M ∨ k + 1 = M + 1 ∧ (m + x + y) / 10 = 0 := by
        rcases Nat.lt_or_ge k M with h | h
        · exact Or.inl h
        · refine Or.inr ⟨by omega, ?_⟩
          have q1 := hx0 (by omega)
          have q2 := hy0 (by omega)
          omega
      have z0 : 0 ≤ m + x + y := by omega
      obtain ⟨v', w', hr', ho', hb'⟩ := app_two ktI (x := (m + x + y) % 10) hS.out.2.1 (by omega) hS.out.2.2.size
      have HR := Lib.hid hr'
      have HX := Lib.hid (And.intro hnx (And.intro ho' (And.intro (hS.out.2.2.trans hb') (And.intro hfin hgo))))
      have e2 : (m + x + y).tmod 10 = (m + x + y) % 10 := Int.tmod_eq_emod_of_nonneg z0
      have e3 : (m + x + y).tdiv 10 = (m + x + y) / 10 := Int.tdiv_eq_ediv_of_nonneg z0
      have w1 : wrap64 (m + x) = m + x := by unfold wrap64; omega
      have w2 : wrap64 (m + x + y) = m + x + y := by unfold wrap64; omega
      have w3 : wrap64 ((m + x + y) / 10) = (m + x + y) / 10 := by unfold wrap64; omega
      clear hnx hr' ho' hb' hfin hx0 hy0 hk
      by_cases ha : k < a.length
      · have q1 : decide ((k : Int) < (a.length : Int)) = true := by rw [decide_eq_true_eq]; omega
        clear hgo
        go_wp2_with fail
        refine A1.out.mono ?_
        rintro e w' ⟨rfl, rfl⟩
        go_wp2_with fail
        refine A2.out.mono ?_
        rintro e w' ⟨rfl, rfl⟩
        go_wp2_with (at_builtin; refine Lib.wpList_append_run _ rfl _ _ 26 26 rfl v7 (.slice (some ⟨_, 0, none⟩) 1 1) rfl rfl v' _ HR.out ?_)
        go_roundw
        case rel => exact ⟨k + 1, (m + x + y) / 10, _, by go_num, by first | rfl | rw [w3], HX.out.2.2.2.1, HX.out.1, HX.out.2.1, HX.out.2.2.1⟩
        case measure => simp [intOf]; omega
      · have q1 : decide ((k : Int) < (a.length : Int)) = false := by rw [decide_eq_false_iff_not]; omega
        by_cases hb : k < b.length
        · have q2 : decide ((k : Int) < (b.length : Int)) = true := by rw [decide_eq_true_eq]; omega
          clear hgo
          go_wp2_with fail
          refine A1.out.mono ?_
          rintro e w' ⟨rfl, rfl⟩
          go_wp2_with fail
          refine A2.out.mono ?_
          rintro e w' ⟨rfl, rfl⟩
          go_wp2_with (at_builtin; refine Lib.wpList_append_run _ rfl _ _ 26 26 rfl v7 (.slice (some ⟨_, 0, none⟩) 1 1) rfl rfl v' _ HR.out ?_)
          go_roundw
          case rel => exact ⟨k + 1, (m + x + y) / 10, _, by go_num, by first | rfl | rw [w3], HX.out.2.2.2.1, HX.out.1, HX.out.2.1, HX.out.2.2.1⟩
          case measure => simp [intOf]; omega
        · have q2 : decide ((k : Int) < (b.length : Int)) = false := by rw [decide_eq_false_iff_not]; omega
          have q3 : decide (m > 0) = true := by rw [decide_eq_true_eq]; omega
          clear hgo
          go_wp2_with fail
          refine A1.out.mono ?_
          rintro e w' ⟨rfl, rfl⟩
          go_wp2_with fail
          refine A2.out.mono ?_
          rintro e w' ⟨rfl, rfl⟩
          go_wp2_with (at_builtin; refine Lib.wpList_append_run _ rfl _ _ 26 26 rfl v7 (.slice (some ⟨_, 0, none⟩) 1 1) rfl rfl v' _ HR.out ?_)
          go_roundw
          case rel => exact ⟨k + 1, (m + x + y) / 10, _, by go_num, by first | rfl | rw [w3], HX.out.2.2.2.1, HX.out.1, HX.out.2.1, HX.out.2.2.1⟩
          case measure => simp [intOf]; omega
    · have hm : m = 0 := by omega
      subst hm
      have q1 : decide ((k : Int) < (a.length : Int)) = false := by rw [decide_eq_false_iff_not]; omega
      have q2 : decide ((k : Int) < (b.length : Int)) = false := by rw [decide_eq_false_iff_not]; omega
      have q3 : decide ((0 : Int) > 0) = false := rfl
      have g1 : ¬ k < a.length := by omega
      have g2 : ¬ k < b.length := by omega
      have hv := hS.out.1.val
      rw [Int.mul_zero, Int.add_zero, List.take_of_length_le (by omega), List.take_of_length_le (by omega)] at hv
      have HV := Lib.hid (And.intro hv (And.intro hgo hk))
      clear hv hgo hk hnx hx0 hy0
      go_wp2_with fail
      go_ret
      exact ⟨_, rfl, D, hS.out.2.1, hS.out.1.dig, by have := HV.out.2.2; omega, HV.out.1, hS.out.2.2⟩

structure Less (a b : List Int) (k : Nat) (c : Int) (D : List Int) : Prop where
  len : D.length = k
  dig : Dig 10 D
  bor : 0 ≤ c ∧ c ≤ 1
  val : Bg.val 10 D - 10 ^ k * c = Bg.val 10 (a.take k) - Bg.val 10 (b.take k)
theorem Less.low {a b : List Int} {k : Nat} {c : Int} {D : List Int} (h : Less a b k c D) (ha : Dig 10 a) (hb : Dig 10 b) (hx : a.getD k 0 - b.getD k 0 - c < 0) :
    Less a b (k + 1) 1 (D ++ [a.getD k 0 - b.getD k 0 - c + 10]) := by
  have h1 := ha.getD (by decide) k
  have h2 := hb.getD (by decide) k
  have hc := h.bor
  refine ⟨by rw [List.length_append, h.len]; rfl, h.dig.app (Dig.one (by omega)), by omega, ?_⟩
  have e := borrow_step 10 D (a.getD k 0 - b.getD k 0 - c)
  rw [h.len] at e
  rw [Int.mul_one, e, val_take_any, val_take_any, Int.mul_sub, Int.mul_sub]
  have := h.val
  omega
theorem Less.high {a b : List Int} {k : Nat} {c : Int} {D : List Int} (h : Less a b k c D) (ha : Dig 10 a) (hb : Dig 10 b) (hx : ¬ a.getD k 0 - b.getD k 0 - c < 0) :
    Less a b (k + 1) 0 (D ++ [a.getD k 0 - b.getD k 0 - c]) := by
  have h1 := ha.getD (by decide) k
  have h2 := hb.getD (by decide) k
  have hc := h.bor
  refine ⟨by rw [List.length_append, h.len]; rfl, h.dig.app (Dig.one (by omega)), by omega, ?_⟩
  rw [Int.mul_zero, Int.sub_zero, val_snoc, h.len, val_take_any, val_take_any, Int.mul_sub, Int.mul_sub]
  have := h.val
  omega
theorem Less.done {a b : List Int} {c : Int} {D : List Int} (h : Less a b a.length c D) (hl : b.length ≤ a.length) (hv : Bg.val 10 b ≤ Bg.val 10 a) : Bg.val 10 D = Bg.val 10 a - Bg.val 10 b := by
  have h1 := h.val
  rw [List.take_of_length_le (Nat.le_refl _), List.take_of_length_le hl] at h1
  have h2 := val_lt (show (0 : Int) < 10 by decide) h.dig
  rw [h.len] at h2
  have hc := h.bor
  rcases (show c = 0 ∨ c = 1 by omega) with e | e
  · rw [e, Int.mul_zero] at h1; omega
  · rw [e, Int.mul_one] at h1; omega
set_option maxRecDepth 100000 in
set_option maxHeartbeats 8000000 in
theorem rless_at {w : World} {p p' : Option Addr} {c c' : Nat} {a b : List Int} (h1 : Arg .i64 w p c a) (h2 : Arg .i64 w p' c' b) (d1 : Dig 10 a) (d2 : Dig 10 b) (n1 : a.length ≤ 10000000) (hl : b.length ≤ a.length) (hv : Bg.val 10 b ≤ Bg.val 10 a) :
    Calls Tryd.prog 56 #[.slice p a.length c, .slice p' b.length c'] w fun e w' => ∃ v D, e = .returned v ∧ Own 3 .i64 w.heap.size w' v D ∧ Dig 10 D ∧ Tidy D ∧ D.length ≤ a.length ∧ Bg.val 10 D = Bg.val 10 a - Bg.val 10 b ∧ Below w.heap.size w w' := by
  have le1 := h1.le
  have mx1 := h1.max
  have H := Lib.hid (And.intro h1 (And.intro h2 (And.intro d1 (And.intro d2 (And.intro hl hv)))))
  clear h1 h2 d1 d2 hl hv
  go_enter Tryd.func56, Tryd.ntmps56
  go_wp2_with fail
  go_loopw [5, 6, 7, 8] (fun v s6 s7 _ wr => ∃ (k : Nat) (m : Int) (D : List Int), s7 = .int .i64 k ∧ s6 = .int .i64 m ∧ k ≤ a.length ∧ Hid (Less a b k m D ∧ Own 3 .i64 w.heap.size wr v D ∧ Below w.heap.size w wr)) (fun _ _ s _ _ => a.length - (intOf s).toNat)
  case atStart => exact ⟨0, 0, [], rfl, rfl, Nat.zero_le _, ⟨rfl, Dig.nil, by omega, by simp [Bg.val]⟩, Own.nil _ _ _ _, Below.refl _ _⟩
  case round =>
    obtain ⟨k, m, D, rfl, rfl, hk, hS⟩ := hrel
    obtain ⟨v7, hv7⟩ : ∃ v7, v7 = u5 := ⟨_, rfl⟩
    rw [← hv7] at hS ⊢
    clear hv7
    by_cases hlt : k < a.length
    · have hx := H.out.2.2.1.getD (by decide) k
      have hy := H.out.2.2.2.1.getD (by decide) k
      have hc := hS.out.1.bor
      have hDl := hS.out.1.len
      have A1 := Lib.hid (digit_at k (H.out.1.below hS.out.2.2))
      have A2 := Lib.hid (digit_at k (H.out.2.1.below hS.out.2.2))
      have hlo := fun h => hS.out.1.low H.out.2.2.1 H.out.2.2.2.1 (k := k) h
      have hhi := fun h => hS.out.1.high H.out.2.2.1 H.out.2.2.2.1 (k := k) h
      obtain ⟨x, hxe⟩ : ∃ x, x = a.getD k 0 := ⟨_, rfl⟩
      obtain ⟨y, hye⟩ : ∃ y, y = b.getD k 0 := ⟨_, rfl⟩
      rw [← hxe] at hx A1
      rw [← hye] at hy A2
      rw [← hxe, ← hye] at hlo hhi
      clear hxe hye
      have q1 : decide ((k : Int) < (a.length : Int)) = true := by rw [decide_eq_true_eq]; omega
      have w1 : wrap64 (x - y) = x - y := by unfold wrap64; omega
      have w2 : wrap64 (x - y - m) = x - y - m := by unfold wrap64; omega
      have w3 : wrap64 (x - y - m + 10) = x - y - m + 10 := by unfold wrap64; omega
      by_cases hn : x - y - m < 0
      · have q2 : decide (x - y - m < 0) = true := by rw [decide_eq_true_eq]; exact hn
        obtain ⟨v', w', hr', ho', hb'⟩ := app_two ktI (x := x - y - m + 10) hS.out.2.1 (by omega) hS.out.2.2.size
        have HR := Lib.hid hr'
        have HX := Lib.hid (And.intro (hlo hn) (And.intro ho' (hS.out.2.2.trans hb')))
        clear hlo hhi hr' ho' hb' hn hc hx hy
        go_wp2_with fail
        refine A1.out.mono ?_
        rintro e w' ⟨rfl, rfl⟩
        go_wp2_with fail
        refine A2.out.mono ?_
        rintro e w' ⟨rfl, rfl⟩
        go_wp2_with (at_builtin; refine Lib.wpList_append_run _ rfl _ _ 26 26 rfl v7 (.slice (some ⟨_, 0, none⟩) 1 1) rfl rfl v' _ HR.out ?_)
        go_roundw
        case rel => exact ⟨k + 1, 1, _, by go_num, rfl, hlt, HX.out.1, HX.out.2.1, HX.out.2.2⟩
        case measure => simp [intOf]; omega
      · have q2 : decide (x - y - m < 0) = false := by rw [decide_eq_false_iff_not]; exact hn
        obtain ⟨v', w', hr', ho', hb'⟩ := app_two ktI (x := x - y - m) hS.out.2.1 (by omega) hS.out.2.2.size
        have HR := Lib.hid hr'
        have HX := Lib.hid (And.intro (hhi hn) (And.intro ho' (hS.out.2.2.trans hb')))
        clear hlo hhi hr' ho' hb' hn hc hx hy
        go_wp2_with fail
        refine A1.out.mono ?_
        rintro e w' ⟨rfl, rfl⟩
        go_wp2_with fail
        refine A2.out.mono ?_
        rintro e w' ⟨rfl, rfl⟩
        go_wp2_with (at_builtin; refine Lib.wpList_append_run _ rfl _ _ 26 26 rfl v7 (.slice (some ⟨_, 0, none⟩) 1 1) rfl rfl v' _ HR.out ?_)
        go_roundw
        case rel => exact ⟨k + 1, 0, _, by go_num, rfl, hlt, HX.out.1, HX.out.2.1, HX.out.2.2⟩
        case measure => simp [intOf]; omega
    · have hz : k = a.length := by omega
      rw [hz] at hS ⊢
      have q1 : decide ((a.length : Int) < (a.length : Int)) = false := by simp
      have hdone := hS.out.1.done H.out.2.2.2.2.1 H.out.2.2.2.2.2
      obtain ⟨p5, c5, rfl, a5, -⟩ := hS.out.2.1.arg
      have T := Lib.hid (rtrim_at a5)
      have HZ := Lib.hid (And.intro hdone (trimN_le D D.length))
      clear hz hk hlt hdone a5
      go_wp2_with fail
      refine T.out.mono ?_
      rintro e w5 ⟨rfl, rfl⟩
      go_wp2_with fail
      go_ret
      have htl : (D.take (trimN D D.length)).length = trimN D D.length := by rw [List.length_take]; have := HZ.out.2; omega
      refine ⟨_, D.take (trimN D D.length), rfl, ?_, hS.out.1.dig.take _, trim_tidy _ (Nat.le_refl _), ?_, ?_, hS.out.2.2⟩
      · exact hS.out.2.1.take HZ.out.2
      · rw [htl]; have := HZ.out.2; have := hS.out.1.len; omega
      · rw [trim_val, List.take_length]; exact HZ.out.1
end Go.Proofs.YtihgefllmkicaaaDoor
