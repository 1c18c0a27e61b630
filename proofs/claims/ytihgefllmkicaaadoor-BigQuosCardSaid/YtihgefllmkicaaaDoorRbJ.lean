/- Contracts: the document's number as one of 64 bits, and made of digits to the base 65536. Conditions: the digits lie as told. -/
import Derived.Test.YtihgefllmkicaaaDoorRbI
namespace Go.Proofs.YtihgefllmkicaaaDoor
open Go.RowKit Bg
set_option linter.unusedVariables false
set_option linter.unusedSimpArgs false


theorem val_any {B : Int} (l : List Int) (k : Nat) (h : k < l.length) : Bg.val B (l.drop k) = l.getD k 0 + B * Bg.val B (l.drop (k + 1)) := val_drop l h
set_option maxRecDepth 100000 in
set_option maxHeartbeats 8000000 in
theorem rsmall_at {w : World} {p : Option Addr} {c : Nat} {l : List Int} {s : Bool} {x : Int} (a : Dn w s p c l x) (hn : l.length ≤ 18) :
    Calls Tryd.prog 20 #[.agg #[.bool s, .slice p l.length c]] w fun e w' => e = .returned (.int .i64 x) ∧ Below w.heap.size w w' := by
  obtain ⟨W, hW⟩ : ∃ W, W = w.alloc (.cells #[.bool s, .slice p l.length c] 28) := ⟨_, rfl⟩
  have hB : Below w.heap.size w W := by rw [hW]; exact (Below.refl _ _).alloc (Nat.le_refl _) _
  have x0 : Box W w.heap.size (.bool s) (.slice p l.length c) := by rw [hW]; exact box_fresh 28 _ _ _ rfl
  have c0 := x0.c0
  have c1 := x0.c1
  have hv := a.val
  unfold nv at hv
  have H := Lib.hid (And.intro (a.arg.below hB) (And.intro a.can.dig (And.intro hB hv)))
  have hmx := a.arg.max
  have hle := a.arg.le
  clear a hB x0 hv
  go_enter Tryd.func20, Tryd.ntmps20
  go_wp2_with fail
  rw [← hW]
  clear hW
  go_loop [3, 4] (fun n t => ∃ k : Nat, t = .int .i64 ((k : Int) - 1) ∧ k ≤ l.length ∧ n = .int .i64 (Bg.val 10 (l.drop k))) (fun _ t => (intOf t + 1).toNat)
  case atStart => exact ⟨l.length, rfl, Nat.le_refl _, by rw [List.drop_eq_nil_of_le (Nat.le_refl _)]; rfl⟩
  case round =>
    obtain ⟨k, rfl, hk, rfl⟩ := hrel
    cases k with
    | zero =>
      have d1 : decide (((0 : Nat) : Int) - 1 ≥ 0) = false := by decide
      have hb := val_lt (show (0 : Int) < 10 by decide) H.out.2.1
      have h0 := val_nonneg (show (0 : Int) ≤ 10 by decide) H.out.2.1
      have hp := pow_le (show (1 : Int) ≤ 10 by decide) hn
      have hp2 : (10 : Int) ^ 18 = 1000000000000000000 := by decide
      rw [List.drop_zero]
      obtain ⟨z, hz⟩ : ∃ z, z = Bg.val 10 l := ⟨_, rfl⟩
      rw [← hz] at hb h0 ⊢
      have HZ := Lib.hid hz
      have g1 : wrap64 (-z) = -z := by unfold wrap64; omega
      have g2 : IntKind.i64.wrap (-z) = -z := by rw [IntKind.wrap_i64]; omega
      clear hz hb h0 hp hp2
      cases s
      · have he := H.out.2.2.2
        rw [if_neg (by decide), ← HZ.out] at he
        have HE := Lib.hid he
        clear he
        go_wp2_with fail
        go_ret
        exact ⟨ret_int HE.out, H.out.2.2.1⟩
      · have he := H.out.2.2.2
        rw [if_pos rfl, ← HZ.out] at he
        have HE := Lib.hid he
        clear he
        go_wp2_with fail
        go_ret
        exact ⟨ret_int HE.out, H.out.2.2.1⟩
    | succ k =>
      have e6 : ((k + 1 : Nat) : Int) - 1 = k := by omega
      have d1 : decide ((k : Int) ≥ 0) = true := by rw [decide_eq_true_eq]; omega
      obtain ⟨b, off, rfl, hc⟩ := H.out.1.at (by omega)
      have ck := hc k (by omega)
      have hd := H.out.2.1.getD (by decide) k
      have hva := val_any (B := 10) l k (by omega)
      have hb := val_lt (show (0 : Int) < 10 by decide) (H.out.2.1.drop (k + 1))
      have h0 := val_nonneg (show (0 : Int) ≤ 10 by decide) (H.out.2.1.drop (k + 1))
      have hp := pow_le (show (1 : Int) ≤ 10 by decide) (show (l.drop (k + 1)).length ≤ 17 by rw [List.length_drop]; omega)
      have hp2 : (10 : Int) ^ 17 = 100000000000000000 := by decide
      obtain ⟨d, hde⟩ : ∃ d, d = l.getD k 0 := ⟨_, rfl⟩
      obtain ⟨z, hz⟩ : ∃ z, z = Bg.val 10 (l.drop (k + 1)) := ⟨_, rfl⟩
      rw [← hde] at ck hd hva
      rw [← hz] at hb h0 hva ⊢
      have HV := Lib.hid hva
      have f1 : (k : Int) < (l.length : Int) := by omega
      have e1 : wrap64 (10 * z) = 10 * z := by unfold wrap64; omega
      have e2 : wrap64 (10 * z + d) = 10 * z + d := by unfold wrap64; omega
      clear hc hde hz hva hb h0 hp hp2 hd
      rw [e6]
      go_wp2_with fail
      go_round
      case rel => exact ⟨k, rfl, by omega, by rw [HV.out, e2, Int.add_comm]⟩
      case measure => simp [intOf]
set_option maxRecDepth 100000 in
set_option maxHeartbeats 8000000 in
theorem rfrom_at {w : World} {p : Option Addr} {c : Nat} {l : List Int} {s : Bool} (a : Arg .u16 w p c l) (dl : Dig 65536 l) (hn : l.length ≤ 10000) :
    Calls Tryd.prog 39 #[.bool s, .slice p l.length c] w fun e w' => ∃ t q d D, e = .returned (.agg #[.bool t, .slice q D.length d]) ∧ Dn w' t q d D (nv 65536 s l) ∧ D.length ≤ 7 * l.length ∧ (q = none ∨ ∃ g, q = some ⟨g, 0, none⟩ ∧ w.heap.size ≤ g) ∧ Below w.heap.size w w' := by
  obtain ⟨W, hW⟩ : ∃ W, W = w.alloc (.cells #[.bool false, .slice none 0 0] 28) := ⟨_, rfl⟩
  have hB : Below w.heap.size w W := by rw [hW]; exact (Below.refl _ _).alloc (Nat.le_refl _) _
  have x0 : Box W w.heap.size (.bool false) (.slice none 0 0) := by rw [hW]; exact box_fresh 28 _ _ _ rfl
  have hS : W.heap.size = w.heap.size + 1 := by rw [hW]; simp
  have HH := Lib.hid (And.intro (a.below hB) (And.intro dl (And.intro hB (And.intro x0 hS))))
  have hmx := a.max
  have hle := a.le
  clear a dl hB x0 hS
  go_enter Tryd.func39, Tryd.ntmps39
  go_wp2_with fail
  rw [← hW]
  clear hW
  go_loopw [5, 6] (fun v t wr => ∃ (k : Nat) (D : List Int), t = .int .i64 ((k : Int) - 1) ∧ k ≤ l.length ∧ Hid (Own 3 .i64 W.heap.size wr v D ∧ Dig 10 D ∧ D.length ≤ 7 * (l.length - k) ∧ Bg.val 10 D = Bg.val 65536 (l.drop k) ∧ Below W.heap.size W wr)) (fun _ t _ => (intOf t + 1).toNat)
  case atStart => exact ⟨l.length, [], rfl, Nat.le_refl _, Own.nil _ _ _ _, Dig.nil, by simp, by rw [List.drop_eq_nil_of_le (Nat.le_refl _)]; rfl, Below.refl _ _⟩
  case round =>
    obtain ⟨k, D, rfl, hk, hS⟩ := hrel
    obtain ⟨p3, c3, hv3, a3, hp3⟩ := hS.out.1.arg
    rw [hv3] at hS ⊢
    clear hv3
    cases k with
    | zero =>
      have d1 : decide (((0 : Nat) : Int) - 1 ≥ 0) = false := by decide
      have T := Lib.hid (made_at s a3)
      have hx := HH.out.2.2.2.1.below hS.out.2.2.2.2
      have HB := Lib.hid (HH.out.2.2.1.trans (hS.out.2.2.2.2.mono HH.out.2.2.1.size))
      have HZ := Lib.hid (And.intro a3 (And.intro hp3 hx))
      clear a3 hp3 hx
      go_wp2_with fail
      refine T.out.mono ?_
      rintro e w5 ⟨rfl, B5⟩
      obtain ⟨tn, htn⟩ : ∃ tn, tn = tneg s D := ⟨_, rfl⟩
      rw [← htn]
      have hx5 := HZ.out.2.2.below B5
      have k7 := Box.first hx5 (.bool tn)
      have k6 := (hx5.store (.bool tn) (.slice p3 (tdig D).length c3)).2
      have hf0 := hx5.f0
      have hf1 := hx5.f1
      have hc0 := hx5.c0
      have hc1 := hx5.c1
      have H5 := Lib.hid (And.intro htn B5)
      clear htn B5 hx5 d1
      go_wp2_with fail
      refine bodyPost_ret (v := .agg #[.bool tn, .slice p3 (tdig D).length c3]) (by simp [results, Tryd.results39, go_sem, k6, k7]) rfl ⟨tn, p3, c3, tdig D, rfl, ⟨?_, ?_, ?_⟩, ?_, ?_, ?_⟩
      · refine ((HZ.out.1.below H5.out.2).take _).put (fun g o he hg => ?_) _ _
        rcases HZ.out.2.1 with h | ⟨g', h, hg', -⟩
        · rw [h] at he; cases he
        · rw [h] at he; cases he
          have := HH.out.2.2.2.2
          omega
      · rw [H5.out.1]; exact (can_made (by decide) hS.out.2.1).1
      · rw [H5.out.1]
        refine (can_made (by decide) hS.out.2.1).2.trans ?_
        unfold nv
        rw [hS.out.2.2.2.1, List.drop_zero]
      · have := tdig_len D
        have := trimN_le D D.length
        have := hS.out.2.2.1
        omega
      · rcases HZ.out.2.1 with h | ⟨g', h, hg', -⟩
        · exact Or.inl h
        · exact Or.inr ⟨g', h, by have := HH.out.2.2.2.2; omega⟩
      · exact box_kept (HB.out.trans (H5.out.2.mono HB.out.size)) (Nat.le_refl _) _ _
    | succ k =>
      have e6 : ((k + 1 : Nat) : Int) - 1 = k := by omega
      have d1 : decide ((k : Int) ≥ 0) = true := by rw [decide_eq_true_eq]; omega
      obtain ⟨b, off, rfl, hc⟩ := HH.out.1.at (by omega)
      have ck := (HH.out.1.below hS.out.2.2.2.2).some_at k (by omega)
      have hd := HH.out.2.1.getD (by decide) k
      have hva := val_any (B := 65536) l k (by omega)
      obtain ⟨d, hde⟩ : ∃ d, d = l.getD k 0 := ⟨_, rfl⟩
      rw [← hde] at ck hd hva
      have T := Lib.hid (rtimes_at (y := 65536) (m0 := d) a3 hS.out.2.1 (by decide) (by omega) (by have := hS.out.2.2.1; omega))
      have HV := Lib.hid hva
      have f1 : (k : Int) < (l.length : Int) := by omega
      have g1 : wrap64 d = d := by unfold wrap64; omega
      have g2 : IntKind.i64.wrap d = d := by rw [IntKind.wrap_i64]; omega
      clear hc hde hva hd a3 hp3
      rw [e6]
      go_wp2_with fail
      refine T.out.mono ?_
      rintro e w5 ⟨v5, D5, rfl, o5, d5, l5, v5e, B5⟩
      have hb5 := hS.out.2.2.2.2.trans (B5.mono hS.out.2.2.2.2.size)
      have H5 := Lib.hid (And.intro (o5.base hS.out.2.2.2.2.size) (And.intro d5 (And.intro l5 (And.intro v5e hb5))))
      clear o5 d5 l5 v5e B5 hb5
      go_wp2_with fail
      go_roundw
      case rel =>
        refine ⟨k, D5, rfl, by omega, H5.out.1, H5.out.2.1, ?_, ?_, H5.out.2.2.2.2⟩
        · have := H5.out.2.2.1
          have := hS.out.2.2.1
          omega
        · rw [H5.out.2.2.2.1, HV.out, hS.out.2.2.2.1, Int.mul_comm, Int.add_comm]
      case measure => simp [intOf]
end Go.Proofs.YtihgefllmkicaaaDoor
