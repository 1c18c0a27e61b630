/- Contracts: what the document's answer says is wrong with items. Conditions: the items lie as told. -/
import Derived.Test.YtbplmbignalbgaaDoorAsX
import Derived.Test.YtbplmbignalbgaaDoorIsaRe
import Derived.Lib.Strings
namespace Go.Proofs.YtbplmbignalbgaaDoor
open Go.RowKit Asm
set_option linter.unusedVariables false
set_option linter.unusedSimpArgs false

theorem rcheck_all (op d a b imm : Int) (w : World) : Calls Tryd.prog 65 #[.agg #[.int .i64 op, .int .i64 d, .int .i64 a, .int .i64 b, .int .i64 imm]] w fun e w' => e = .returned (.int .i64 (chk op d a b imm)) ∧ Below w.heap.size w w' := by
  unfold chk
  cases ho : Isa.ok op d a b imm
  · exact rcheck_bad op d a b imm w ho
  · exact rcheck_ok op d a b imm w ho

set_option maxRecDepth 100000 in
set_option maxHeartbeats 4000000 in
theorem rcheckItem_any (x : It) (w : World) : Calls Tryd.prog 54 #[iv x] w fun e w' => e = .returned (.int .i64 (citem x)) ∧ Below w.heap.size w w' := by
  unfold iv
  by_cases h1 : x.kind < 1
  · have d1 : decide (x.kind < 1) = true := by simp [h1]
    have e : citem x = 4 := by unfold citem; rw [if_pos (Or.inl h1)]
    rw [e]
    clear e h1
    go_enter Tryd.func54, Tryd.ntmps54
    go_wp2_with fail
    go_ret
    exact ⟨rfl, (Below.refl _ _).alloc (Nat.le_refl _) _⟩
  · have d1 : decide (x.kind < 1) = false := by simp; omega
    by_cases h8 : 8 < x.kind
    · have d8 : decide (8 < x.kind) = true := by simp [h8]
      have e : citem x = 4 := by unfold citem; rw [if_pos (Or.inr h8)]
      rw [e]
      clear e h1
      go_enter Tryd.func54, Tryd.ntmps54
      go_wp2_with fail
      go_ret
      exact ⟨rfl, (Below.refl _ _).alloc (Nat.le_refl _) _⟩
    · have d8 : decide (8 < x.kind) = false := by simp; omega
      have hr : 1 ≤ x.kind ∧ x.kind ≤ 8 := by omega
      have HR := Lib.hid hr
      clear h1 h8
      obtain ⟨k, hk⟩ : ∃ k, k = x.kind := ⟨_, rfl⟩
      rw [← hk] at d1 d8 hr
      rcases (show k = 1 ∨ k = 3 ∨ k = 4 ∨ k = 5 ∨ (k = 2 ∨ k = 6 ∨ k = 7 ∨ k = 8) by omega) with rfl | rfl | rfl | rfl | hk2
      · obtain ⟨c, hc⟩ : ∃ c, c = chk x.op x.d x.a x.b x.imm := ⟨_, rfl⟩
        have e : citem x = c := by rw [hc]; exact (citem_1 hk.symm).symm
        have hcc : c = 0 ∨ c = 11 := by rw [hc]; unfold chk; split <;> simp
        rw [e, ← hk]
        have HC := Lib.hid hc
        clear hk e hc hr
        rcases hcc with rfl | rfl
        · go_enter Tryd.func54, Tryd.ntmps54
          go_wp2_with (first
            | (go_at_call 65; refine (rcheck_all _ _ _ _ _ _).mono ?_; rintro e w9 ⟨rfl, hb9⟩; rw [← HC.out]; have q9 := cells8 ((hb9.block w.heap.size (by simp)).trans (heap_new w (.cells #[.int .i64 1, .int .i64 x.op, .int .i64 x.d, .int .i64 x.a, .int .i64 x.b, .int .i64 x.imm, .string x.lab, .int .u32 x.word] 40))); obtain ⟨m0, m1, m2, m3, m4, m5, m6, m7⟩ := q9))
          go_ret
          exact ⟨rfl, ((Below.refl w.heap.size w).alloc (Nat.le_refl _) _).trans (hb9.mono (by simp))⟩
        · go_enter Tryd.func54, Tryd.ntmps54
          go_wp2_with (first
            | (go_at_call 65; refine (rcheck_all _ _ _ _ _ _).mono ?_; rintro e w9 ⟨rfl, hb9⟩; rw [← HC.out]; have q9 := cells8 ((hb9.block w.heap.size (by simp)).trans (heap_new w (.cells #[.int .i64 1, .int .i64 x.op, .int .i64 x.d, .int .i64 x.a, .int .i64 x.b, .int .i64 x.imm, .string x.lab, .int .u32 x.word] 40))); obtain ⟨m0, m1, m2, m3, m4, m5, m6, m7⟩ := q9))
          go_ret
          exact ⟨rfl, ((Below.refl w.heap.size w).alloc (Nat.le_refl _) _).trans (hb9.mono (by simp))⟩
      · obtain ⟨t, ht⟩ : ∃ t, t = turned x.op := ⟨_, rfl⟩
        obtain ⟨ba, hba⟩ : ∃ ba, ba = decide (0 ≤ x.a ∧ x.a ≤ 31) := ⟨_, rfl⟩
        obtain ⟨bb, hbb⟩ : ∃ bb, bb = decide (0 ≤ x.b ∧ x.b ≤ 31) := ⟨_, rfl⟩
        have HC := Lib.hid (And.intro ht (And.intro hba (And.intro hbb hk)))
        rw [← hk]
        have hcv : citem x = if t = 0 then 11 else if ba then (if bb then 0 else 11) else 11 := by
          by_cases h0 : t = 0
          · rw [if_pos h0, ← citem_3t hk.symm (by rw [← ht]; exact h0)]
          · rw [if_neg h0, ← citem_3 hk.symm (by rw [← ht]; exact h0), ok_branch (turned_ne (by rw [← ht]; exact h0)).1 (turned_ne (by rw [← ht]; exact h0)).2, hba, hbb]
            by_cases ha : 0 ≤ x.a ∧ x.a ≤ 31 <;> by_cases hb : 0 ≤ x.b ∧ x.b ≤ 31 <;> simp [ha, hb]
        rw [hcv]
        have hd := hk
        clear hk ht hba hbb hcv hr hd
        by_cases h0 : t = 0
        · subst h0
          go_enter Tryd.func54, Tryd.ntmps54
          go_wp2_with (first
            | (go_at_call 42; refine (rturned_any _ _).mono ?_; rintro e w' ⟨rfl, rfl⟩; rw [← HC.out.1]))
          go_ret
          exact ⟨rfl, (Below.refl _ _).alloc (Nat.le_refl _) _⟩
        · have dt : (t == 0) = false := by simp [h0]
          rw [if_neg h0]
          clear h0
          cases ba <;> cases bb
          all_goals
            go_enter Tryd.func54, Tryd.ntmps54
            go_wp2_with (first
              | (go_at_call 42; refine (rturned_any _ _).mono ?_; rintro e w' ⟨rfl, rfl⟩; rw [← HC.out.1])
              | (go_at_call_of 66 x.a; refine (rregister_any x.a _).mono ?_; rintro e w' ⟨rfl, rfl⟩; rw [← HC.out.2.1])
              | (go_at_call_of 66 x.b; refine (rregister_any x.b _).mono ?_; rintro e w' ⟨rfl, rfl⟩; rw [← HC.out.2.2.1]))
            go_ret
            exact ⟨rfl, (Below.refl _ _).alloc (Nat.le_refl _) _⟩
      · obtain ⟨bd, hbd⟩ : ∃ bd, bd = decide (0 ≤ x.d ∧ x.d ≤ 31) := ⟨_, rfl⟩
        have hcv : citem x = if bd then 0 else 11 := by
          rw [← citem_45 (Or.inl hk.symm), ok_jal, hbd]
          by_cases hd : 0 ≤ x.d ∧ x.d ≤ 31 <;> simp [hd]
        rw [hcv, ← hk]
        have HC := Lib.hid hbd
        clear hcv hbd hk hr
        cases bd
        all_goals
          go_enter Tryd.func54, Tryd.ntmps54
          go_wp2_with (first
            | (go_at_call 66; refine (rregister_any _ _).mono ?_; rintro e w' ⟨rfl, rfl⟩; rw [← HC.out]))
          go_ret
          exact ⟨rfl, (Below.refl _ _).alloc (Nat.le_refl _) _⟩
      · obtain ⟨bd, hbd⟩ : ∃ bd, bd = decide (0 ≤ x.d ∧ x.d ≤ 31) := ⟨_, rfl⟩
        have hcv : citem x = if bd then 0 else 11 := by
          rw [← citem_45 (Or.inr hk.symm), ok_jal, hbd]
          by_cases hd : 0 ≤ x.d ∧ x.d ≤ 31 <;> simp [hd]
        rw [hcv, ← hk]
        have HC := Lib.hid hbd
        clear hcv hbd hk hr
        cases bd
        all_goals
          go_enter Tryd.func54, Tryd.ntmps54
          go_wp2_with (first
            | (go_at_call 66; refine (rregister_any _ _).mono ?_; rintro e w' ⟨rfl, rfl⟩; rw [← HC.out]))
          go_ret
          exact ⟨rfl, (Below.refl _ _).alloc (Nat.le_refl _) _⟩
      · rw [← citem_ok (by rw [← hk]; exact hk2), ← hk]
        have e1 : (k == 1) = false := by simp; omega
        have e3 : (k == 3) = false := by simp; omega
        have e4 : (k == 4) = false := by simp; omega
        have e5 : (k == 5) = false := by simp; omega
        clear hk hr hk2
        go_enter Tryd.func54, Tryd.ntmps54
        go_wp2_with fail
        go_ret
        exact ⟨rfl, (Below.refl _ _).alloc (Nat.le_refl _) _⟩
theorem bl_true {a b : ByteArray} (h : a = b) : (a.toList == b.toList) = true := by rw [h]; simp
theorem bl_false {a b : ByteArray} (h : a ≠ b) : (a.toList == b.toList) = false := by
  rw [Lib.toList_data, Lib.toList_data, beq_eq_false_iff_ne]
  intro e
  apply h
  cases a; cases b
  simpa using e
theorem st_stays {X : Nat → It} {s : ByteArray} {k j : Nat} (h : st X s k = some j) : ∀ m, k ≤ m → st X s m = some j
  | 0, hm => by obtain rfl : k = 0 := by omega
                exact h
  | m + 1, hm => by
    by_cases he : k = m + 1
    · rw [← he]; exact h
    · have ih := st_stays h m (by omega)
      show (match st X s m with | some j => some j | none => if _ then some m else none) = _
      rw [ih]
theorem st_hit {X : Nat → It} {s : ByteArray} {k : Nat} (h0 : st X s k = none) (h : (X k).kind = 2 ∧ (X k).lab = s) : st X s (k + 1) = some k := by
  show (match st X s k with | some j => some j | none => if _ then some k else none) = _
  rw [h0]
  exact if_pos h
def stI (X : Nat → It) (s : ByteArray) (n : Nat) : Int := match st X s n with | some j => j | none => -1
theorem stI_some {X : Nat → It} {s : ByteArray} {n j : Nat} (h : st X s n = some j) : stI X s n = j := by unfold stI; rw [h]
theorem stI_none {X : Nat → It} {s : ByteArray} {n : Nat} (h : st X s n = none) : stI X s n = -1 := by unfold stI; rw [h]

set_option maxRecDepth 100000 in
set_option maxHeartbeats 4000000 in
theorem rstands_at {w : World} {p : Option Addr} {n c : Nat} {X : Nat → It} (h : Items w p n c X) (hn : n ≤ 480) (s : ByteArray) :
    Calls Tryd.prog 30 #[.slice p n c, .string s] w fun e w' => e = .returned (.int .i64 (stI X s n)) ∧ w = w' := by
  have H := Lib.hid h
  clear h
  go_enter Tryd.func30, Tryd.ntmps30
  go_wp2_with fail
  go_loop [5] (fun i => ∃ k : Nat, i = .int .i64 k ∧ k ≤ n ∧ st X s k = none) (fun i => n - (intOf i).toNat)
  case atStart => exact ⟨0, rfl, Nat.zero_le _, rfl⟩
  case round =>
    obtain ⟨k, rfl, hk, hst⟩ := hrel
    by_cases hlt : k < n
    · have d1 : decide ((k : Int) < (n : Int)) = true := by simp; omega
      have ek : (k : Int) < (n : Int) := by omega
      obtain ⟨b, off, hp, k0, k1, k2, k3, k4, k5, k6, k7⟩ := H.out.at hlt
      rw [hp]
      have HX := Lib.hid (And.intro hst hp)
      clear hst hp k1 k2 k3 k4 k5 k7
      by_cases hk2 : (X k).kind = 2
      · have d2 : ((X k).kind == 2) = true := by simp [hk2]
        have HK := Lib.hid hk2
        clear hk2
        by_cases hl : (X k).lab = s
        · have d3 := bl_true hl
          have HL := Lib.hid hl
          clear hl
          go_wp2_with fail
          go_ret
          rw [stI_some (st_stays (st_hit HX.out.1 ⟨HK.out, HL.out⟩) n hlt)]
          exact ⟨rfl, rfl⟩
        · have d3 := bl_false hl
          have HL := Lib.hid hl
          clear hl
          go_wp2_with fail
          go_round
          case rel => exact ⟨k + 1, by go_num, hlt, by rw [st_other (fun h => HL.out h.2)]; exact HX.out.1⟩
          case measure => simp [intOf]; omega
      · have d2 : ((X k).kind == 2) = false := by simp [hk2]
        have HK := Lib.hid hk2
        clear hk2
        go_wp2_with fail
        go_round
        case rel => exact ⟨k + 1, by go_num, hlt, by rw [st_other (fun h => HK.out h.1)]; exact HX.out.1⟩
        case measure => simp [intOf]; omega
    · have hz : k = n := by omega
      subst hz
      have d1 : decide ((k : Int) < (k : Int)) = false := by simp
      have HX := Lib.hid hst
      clear hst
      go_wp2_with fail
      go_ret
      rw [stI_none HX.out]
      exact ⟨rfl, rfl⟩
end Go.Proofs.YtbplmbignalbgaaDoor
