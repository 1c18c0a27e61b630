/- Contracts: the document's order. Conditions: the digits lie as told. -/
import Derived.Test.YtihgefllmkicaaaDoorRbE
namespace Go.Proofs.YtihgefllmkicaaaDoor
open Go.RowKit Bg
set_option linter.unusedVariables false
set_option linter.unusedSimpArgs false


set_option maxRecDepth 100000 in
set_option maxHeartbeats 8000000 in
theorem rorder_at {w : World} {p p' : Option Addr} {c c' : Nat} {l m : List Int} (a1 : Arg .i64 w p c l) (a2 : Arg .i64 w p' c' m) (d1 : Dig 10 l) (d2 : Dig 10 m) (t1 : Tidy l) (t2 : Tidy m) :
    Calls Tryd.prog 54 #[.slice p l.length c, .slice p' m.length c'] w fun e w' => e = .returned (.int .i64 (sgn (val 10 l) (val 10 m))) ∧ Below w.heap.size w w' := by
  obtain ⟨r, hr⟩ : ∃ r, r = sgn (val 10 l) (val 10 m) := ⟨_, rfl⟩
  rw [← hr]
  have H := Lib.hid (And.intro a1 (And.intro a2 (And.intro d1 (And.intro d2 (And.intro t1 (And.intro t2 hr))))))
  have mx1 := a1.max
  have mx2 := a2.max
  have le1 := a1.le
  have le2 := a2.le
  clear a1 a2 d1 d2 t1 t2 hr
  go_enter Tryd.func54, Tryd.ntmps54
  by_cases hl : l.length = m.length
  · rw [← hl] at le2 ⊢
    have HL := Lib.hid hl
    clear hl
    have q1 : decide ((l.length : Int) = (l.length : Int)) = true := by rw [decide_eq_true_eq]
    have q2 : ((l.length : Int) != (l.length : Int)) = false := by simp
    go_wp2_with fail
    clear q1 q2
    go_loopw [5] (fun t wr => ∃ k : Nat, t = .int .i64 ((k : Int) - 1) ∧ k ≤ l.length ∧ Hid (Below w.heap.size w wr ∧ ∀ j, k ≤ j → l.getD j 0 = m.getD j 0)) (fun t _ => (intOf t + 1).toNat)
    case atStart => exact ⟨l.length, rfl, Nat.le_refl _, Below.refl _ _, fun j hj => by rw [List.getD_eq_getElem?_getD, List.getD_eq_getElem?_getD, List.getElem?_eq_none hj, List.getElem?_eq_none (by rw [← HL.out]; exact hj)]⟩
    case round =>
      obtain ⟨k, rfl, hk, hS⟩ := hrel
      cases k with
      | zero =>
        have d1 : decide (((0 : Nat) : Int) - 1 ≥ 0) = false := by decide
        have hz : r = 0 := by
          rw [H.out.2.2.2.2.2.2, list_eq_of_getD HL.out (fun j _ => hS.out.2 j (Nat.zero_le _)), sgn_eq]
        have HZ := Lib.hid hz
        clear hz
        go_wp2_with fail
        go_ret
        exact ⟨ret_int HZ.out.symm, hS.out.1⟩
      | succ k =>
        have e6 : ((k + 1 : Nat) : Int) - 1 = k := by omega
        have d1 : decide ((k : Int) ≥ 0) = true := by rw [decide_eq_true_eq]; omega
        obtain ⟨b, off, rfl, hc⟩ := H.out.1.at (by omega)
        obtain ⟨b', off', rfl, hc'⟩ := H.out.2.1.at (by rw [← HL.out]; omega)
        have ck := (hS.out.1.cell (p := ⟨b, off + k, none⟩) (World.block_lt_of_cell? w _ (hc k (by omega)))).trans (hc k (by omega))
        have ck' := (hS.out.1.cell (p := ⟨b', off' + k, none⟩) (World.block_lt_of_cell? w _ (hc' k (by rw [← HL.out]; omega)))).trans (hc' k (by rw [← HL.out]; omega))
        obtain ⟨x, hx⟩ : ∃ x, x = l.getD k 0 := ⟨_, rfl⟩
        obtain ⟨y, hy⟩ : ∃ y, y = m.getD k 0 := ⟨_, rfl⟩
        rw [← hx] at ck
        rw [← hy] at ck'
        have f1 : (k : Int) < (l.length : Int) := by omega
        have HX := Lib.hid (And.intro hx hy)
        clear hx hy hc hc'
        rw [e6]
        by_cases hxy : x = y
        · have d3 : (x != y) = false := by simp [hxy]
          have HXY := Lib.hid hxy
          clear hxy
          go_wp2_with fail
          go_quiet (fail)
          go_wp2_with fail
          go_roundw
          case rel =>
            refine ⟨k, rfl, by omega, below_drewN hS.out.1 _, fun j hj => ?_⟩
            by_cases hjk : j = k
            · rw [hjk, ← HX.out.1, ← HX.out.2]; exact HXY.out
            · exact hS.out.2 j (by omega)
          case measure => simp [intOf]
        · have d3 : (x != y) = true := by simp [hxy]
          have HXY := Lib.hid hxy
          clear hxy
          go_wp2_with fail
          go_quiet (fail)
          go_wp2_with fail
          have c3 := (drewN_cell wr nq _).trans ck
          have c4 := (drewN_cell wr nq _).trans ck'
          have HB5 := Lib.hid (below_drewN hS.out.1 nq)
          obtain ⟨w5, hw5⟩ : ∃ w5, w5 = wr.drewN nq := ⟨_, rfl⟩
          rw [← hw5] at c3 c4 HB5 ⊢
          clear hw5 ck ck'
          have hs : ∀ j, k < j → l.getD j 0 = m.getD j 0 := fun j hj => hS.out.2 j hj
          have hkl : k < l.length := by omega
          by_cases hlt : x < y
          · have d4 : decide (x < y) = true := by rw [decide_eq_true_eq]; exact hlt
            have hz : r = -1 := by
              rw [H.out.2.2.2.2.2.2, sgn_lt (val_order (by decide) H.out.2.2.1 H.out.2.2.2.1 HL.out hkl hs (by rw [← HX.out.1, ← HX.out.2]; exact hlt))]
            have HZ := Lib.hid hz
            clear hz hs hlt
            go_quiet (fail)
            go_wp2_with fail
            go_ret
            exact ⟨ret_int HZ.out.symm, below_drewN HB5.out _⟩
          · have d4 : decide (x < y) = false := by rw [decide_eq_false_iff_not]; exact hlt
            have hz : r = 1 := by
              rw [H.out.2.2.2.2.2.2, sgn_gt (val_order (by decide) H.out.2.2.2.1 H.out.2.2.1 HL.out.symm (by rw [← HL.out]; exact hkl) (fun j hj => (hs j hj).symm) (by rw [← HX.out.1, ← HX.out.2]; have := HXY.out; omega))]
            have HZ := Lib.hid hz
            clear hz hs hlt
            go_quiet (fail)
            go_wp2_with fail
            go_ret
            exact ⟨ret_int HZ.out.symm, below_drewN HB5.out _⟩
  · have q1 : decide ((l.length : Int) = (m.length : Int)) = false := by rw [decide_eq_false_iff_not]; omega
    have q2 : ((l.length : Int) != (m.length : Int)) = true := by simp; omega
    have HL := Lib.hid hl
    clear hl
    by_cases hlt : l.length < m.length
    · have q3 : decide ((l.length : Int) < (m.length : Int)) = true := by rw [decide_eq_true_eq]; omega
      have hz : r = -1 := by rw [H.out.2.2.2.2.2.2, sgn_lt (val_shorter (by decide) H.out.2.2.1 H.out.2.2.2.1 H.out.2.2.2.2.2.1 hlt)]
      have HZ := Lib.hid hz
      clear hz
      go_wp2_with fail
      go_ret
      exact ⟨ret_int HZ.out.symm, Below.refl _ _⟩
    · have q3 : decide ((l.length : Int) < (m.length : Int)) = false := by rw [decide_eq_false_iff_not]; omega
      have hz : r = 1 := by rw [H.out.2.2.2.2.2.2, sgn_gt (val_shorter (by decide) H.out.2.2.2.1 H.out.2.2.1 H.out.2.2.2.2.1 (by have := HL.out; omega))]
      have HZ := Lib.hid hz
      clear hz
      go_wp2_with fail
      go_ret
      exact ⟨ret_int HZ.out.symm, Below.refl _ _⟩
end Go.Proofs.YtihgefllmkicaaaDoor
