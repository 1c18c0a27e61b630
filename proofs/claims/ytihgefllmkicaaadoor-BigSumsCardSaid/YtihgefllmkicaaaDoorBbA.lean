/- Contracts: a number's text asked for; two tidy numbers held against each other. Conditions: the digits lie as told; the table lies. -/
import Derived.Test.YtihgefllmkicaaaDoorBaH
import Derived.Test.YtihgefllmkicaaaDoorBgX
namespace Go.Proofs.YtihgefllmkicaaaDoor
open Go.RowKit Bg
set_option linter.unusedVariables false
set_option linter.unusedSimpArgs false


/-- A number that lies. -/
structure Nm (w : World) (s : Bool) (p : Option Addr) (c : Nat) (D : List Int) (x : Int) : Prop where
  arg : Arg .u16 w p c D
  dig : Dig 65536 D
  val : nv 65536 s D = x
theorem Nm.below {w w' : World} {s : Bool} {p : Option Addr} {c : Nat} {D : List Int} {x : Int} (h : Nm w s p c D x) (hb : Below w.heap.size w w') : Nm w' s p c D x := ⟨h.arg.below hb, h.dig, h.val⟩
theorem num_open {B : Nat} {w : World} {v : Value} {x : Int} (h : IsNum B w v x) : ∃ s p c D, v = .agg #[.bool s, .slice p D.length c] ∧ Nm w s p c D x ∧ Bg.Can 65536 s D := by
  obtain ⟨s, sv, D, rfl, oD, cD, vD⟩ := h
  obtain ⟨p, c, rfl, a, -⟩ := oD.arg
  exact ⟨s, p, c, D, rfl, ⟨a, cD.dig, vD⟩, cD⟩
set_option maxHeartbeats 4000000 in
theorem is_at {w : World} {p : Option Addr} {c : Nat} {l : List Int} {s : Bool} {x : Int} (h : Nm w s p c l x) (n1 : l.length ≤ 300) (ht : Tab w) (t : ByteArray) :
    Calls Tryd.prog 35 #[.agg #[.bool s, .slice p l.length c], .string t] w fun e w' => e = .returned (.bool (decide (txt x = t.data.toList))) ∧ Below w.heap.size w w' := by
  obtain ⟨W, hW⟩ : ∃ W, W = w.alloc (.cells #[.bool s, .slice p l.length c] 24) := ⟨_, rfl⟩
  have hB : Below w.heap.size w W := by rw [hW]; exact (Below.refl _ _).alloc (Nat.le_refl _) _
  have hx : Box W w.heap.size (.bool s) (.slice p l.length c) := by rw [hW]; exact Box.fresh _ _ _ rfl
  have T := Lib.hid (text_at s (h.arg.below hB) h.dig n1 (ht.below (hB.mono (Nat.le_refl _))))
  rw [h.val] at T
  have hc0 := hx.c0
  have hc1 := hx.c1
  have HB := Lib.hid hB
  clear hB hx h n1 ht
  go_enter Tryd.func35, Tryd.ntmps35
  go_wp2_with fail
  rw [← hW]
  clear hW
  refine T.out.mono ?_
  rintro e w1 ⟨rfl, B1⟩
  have hb := Lib.hid (HB.out.trans (B1.mono HB.out.size))
  clear B1
  go_wp2_with fail
  go_ret
  exact ⟨retB (by rw [ByteArray.toList_eq, Bool.eq_iff_iff, decide_eq_true_eq, beq_iff_eq]), hb.out⟩
theorem getD_ne {l m : List Int} {k : Nat} (h : l.getD k 0 ≠ m.getD k 0) : l ≠ m := fun e => h (by rw [e])
set_option maxRecDepth 100000 in
set_option maxHeartbeats 4000000 in
theorem same_at {w : World} {p p' : Option Addr} {c c' : Nat} {l m : List Int} {s s' : Bool} (a1 : Arg .u16 w p c l) (a2 : Arg .u16 w p' c' m) :
    Calls Tryd.prog 37 #[.agg #[.bool s, .slice p l.length c], .agg #[.bool s', .slice p' m.length c']] w fun e w' => e = .returned (.bool (decide (s = s' ∧ l = m))) ∧ Below w.heap.size w w' := by
  obtain ⟨W, hW, hB, hS, h0, h1⟩ := two_boxes w (.bool s) (.slice p l.length c) (.bool s') (.slice p' m.length c')
  have x0 := Box.of h0
  have x1 := Box.of h1
  have c0 := x0.c0
  have c1 := x0.c1
  have c2 := x1.c0
  have c3 := x1.c1
  have A := Lib.hid (And.intro (a1.below hB) (And.intro (a2.below hB) (And.intro hB (And.intro x0 x1))))
  have mx1 := a1.max
  have mx2 := a2.max
  have le1 := a1.le
  have le2 := a2.le
  clear h0 h1 x0 x1 a1 a2 hB
  go_enter Tryd.func37, Tryd.ntmps37
  by_cases hs : s = s'
  · subst hs
    by_cases hl : l.length = m.length
    · rw [← hl] at hW c3 le2 A ⊢
      have HL := Lib.hid hl
      clear hl
      have q1 : decide ((l.length : Int) = (l.length : Int)) = true := by rw [decide_eq_true_eq]
      have q2 : ((l.length : Int) != (l.length : Int)) = false := by simp
      have q3 : (s != s) = false := by simp
      go_wp2_with fail
      rw [← hW]
      clear hW q1 q2 q3
      go_loopw [5] (fun t wr => ∃ k : Nat, t = .int .i64 k ∧ k ≤ l.length ∧ Hid (Below W.heap.size W wr ∧ ∀ j, j < k → l.getD j 0 = m.getD j 0)) (fun t _ => l.length - (intOf t).toNat)
      case atStart => exact ⟨0, rfl, Nat.zero_le _, Below.refl _ _, fun j hj => absurd hj (Nat.not_lt_zero _)⟩
      case round =>
        obtain ⟨k, rfl, hk, hS⟩ := hrel
        have y0 := A.out.2.2.2.1.below hS.out.1
        have y1 := A.out.2.2.2.2.below hS.out.1
        have b0 := y0.c0
        have b1 := y0.c1
        have b2 := y1.c0
        have b3 := y1.c1
        have HBw := Lib.hid (A.out.2.2.1.trans (hS.out.1.mono A.out.2.2.1.size))
        clear y0 y1
        by_cases hlt : k < l.length
        · obtain ⟨b, off, rfl, k1⟩ := A.out.1.at (by omega)
          obtain ⟨b', off', rfl, k2⟩ := A.out.2.1.at (by rw [← HL.out]; omega)
          have d1 := (hS.out.1.cell (p := ⟨b, off + k, none⟩) (World.block_lt_of_cell? W _ (k1 k hlt))).trans (k1 k hlt)
          have d2 := (hS.out.1.cell (p := ⟨b', off' + k, none⟩) (World.block_lt_of_cell? W _ (k2 k (by rw [← HL.out]; exact hlt)))).trans (k2 k (by rw [← HL.out]; exact hlt))
          have q1 : decide ((k : Int) < (l.length : Int)) = true := by rw [decide_eq_true_eq]; omega
          have f1 : (k : Int) < (l.length : Int) := by omega
          obtain ⟨x, hx⟩ : ∃ x, x = l.getD k 0 := ⟨_, rfl⟩
          obtain ⟨y, hy⟩ : ∃ y, y = m.getD k 0 := ⟨_, rfl⟩
          rw [← hx] at d1
          rw [← hy] at d2
          have HX := Lib.hid (And.intro hx hy)
          clear hx hy k1 k2 c0 c1 c2 c3
          by_cases hxy : x = y
          · have q2 : (x != y) = false := by simp [hxy]
            have q4 : decide (x = y) = true := by simp [hxy]
            have HXY := Lib.hid hxy
            clear hxy
            go_wp2_with fail
            go_quiet (fail)
            go_wp2_with fail
            go_roundw
            case rel =>
              refine ⟨k + 1, by go_num, hlt, below_drewN hS.out.1 _, fun j hj => ?_⟩
              by_cases hjk : j = k
              · rw [hjk, ← HX.out.1, ← HX.out.2]; exact HXY.out
              · exact hS.out.2 j (by omega)
            case measure => simp [intOf]; omega
          · have q2 : (x != y) = true := by simp [hxy]
            have q4 : decide (x = y) = false := by simp [hxy]
            go_wp2_with fail
            go_quiet (fail)
            go_wp2_with fail
            go_ret
            exact ⟨retB (decide_eq_false (getD_ne (k := k) (by rw [← HX.out.1, ← HX.out.2]; exact hxy))).symm, below_drewN HBw.out _⟩
        · have hz : k = l.length := by omega
          have hS2 := Lib.hid hS
          rw [hz] at hS2 ⊢
          clear hS hk hlt hz
          have q1 : decide ((l.length : Int) < (l.length : Int)) = false := by simp
          go_wp2_with fail
          go_ret
          exact ⟨retB (decide_eq_true (list_eq_of_getD HL.out hS2.out.out.2)).symm, HBw.out⟩
    · have q1 : decide ((l.length : Int) = (m.length : Int)) = false := by rw [decide_eq_false_iff_not]; omega
      have q2 : ((l.length : Int) != (m.length : Int)) = true := by simp; omega
      have q3 : (s != s) = false := by simp
      go_wp2_with fail
      go_ret
      exact ⟨retB (decide_eq_false (fun e => hl (by rw [e]))).symm, by rw [← hW]; exact A.out.2.2.1⟩
  · have q3 : (s != s') = true := by simp [hs]
    go_wp2_with fail
    go_ret
    exact ⟨retB (decide_eq_false (fun e => hs e.1)).symm, by rw [← hW]; exact A.out.2.2.1⟩
/-- Two tidy numbers are the same if they stand for the same. -/
theorem same_nm {w : World} {p p' : Option Addr} {c c' : Nat} {l m : List Int} {s s' : Bool} {x y : Int} (h1 : Nm w s p c l x) (h2 : Nm w s' p' c' m y) (k1 : Bg.Can 65536 s l) (k2 : Bg.Can 65536 s' m) :
    Calls Tryd.prog 37 #[.agg #[.bool s, .slice p l.length c], .agg #[.bool s', .slice p' m.length c']] w fun e w' => e = .returned (.bool (decide (x = y))) ∧ Below w.heap.size w w' := by
  have e : decide (x = y) = decide (s = s' ∧ l = m) := by
    rw [decide_eq_decide, ← h1.val, ← h2.val]
    exact ⟨fun e => nv_inj (by decide) k1 k2 e, fun e => by rw [e.1, e.2]⟩
  rw [e]
  exact same_at h1.arg h2.arg
/-- The longest of these digits lie so. -/
structure Rw (w : World) (g off : Nat) (L : List Nat) : Prop where
  cell : ∀ i, i < L.length → ∃ p c, w.cell? ⟨g, off + i * 2 + 1, none⟩ = some (.slice p (L.getD i 0) c)
set_option maxRecDepth 100000 in
set_option maxHeartbeats 4000000 in
theorem large_at {w : World} {g off c : Nat} {L : List Nat} (h : Rw w g off L) (hL : L.length ≤ 10) (hc : L.length ≤ c) :
    Calls Tryd.prog 36 #[.slice (some ⟨g, off, none⟩) L.length c] w fun e w' => e = .returned (.bool (L.any fun n => decide (60 < n))) ∧ w = w' := by
  have H := Lib.hid h
  clear h
  go_enter Tryd.func36, Tryd.ntmps36
  go_wp2_with fail
  go_loop [3] (fun t => ∃ k : Nat, t = .int .i64 k ∧ k ≤ L.length ∧ Hid (∀ j, j < k → L.getD j 0 ≤ 60)) (fun t => L.length - (intOf t).toNat)
  case atStart => exact ⟨0, rfl, Nat.zero_le _, fun j hj => absurd hj (Nat.not_lt_zero _)⟩
  case round =>
    obtain ⟨k, rfl, hk, hS⟩ := hrel
    by_cases hlt : k < L.length
    · obtain ⟨p, c', hck⟩ := H.out.cell k hlt
      have q1 : decide ((k : Int) < (L.length : Int)) = true := by rw [decide_eq_true_eq]; omega
      have f1 : (k : Int) < (L.length : Int) := by omega
      obtain ⟨n, hn⟩ : ∃ n, n = L.getD k 0 := ⟨_, rfl⟩
      rw [← hn] at hck
      have HN := Lib.hid hn
      clear hn
      by_cases h6 : 60 < n
      · have q2 : decide ((n : Int) > 60) = true := by rw [decide_eq_true_eq]; omega
        go_wp2_with fail
        go_ret
        have h7 : (L.any fun n => decide (60 < n)) = true := by
          rw [List.any_eq_true]
          exact ⟨n, by rw [HN.out]; simp [List.getD, List.getElem?_eq_getElem hlt], by rw [decide_eq_true_eq]; exact h6⟩
        exact ⟨retB h7.symm, rfl⟩
      · have q2 : decide ((n : Int) > 60) = false := by rw [decide_eq_false_iff_not]; omega
        go_wp2_with fail
        go_round
        case rel =>
          refine ⟨k + 1, by go_num, hlt, fun j hj => ?_⟩
          by_cases hjk : j = k
          · rw [hjk, ← HN.out]; omega
          · exact hS.out j (by omega)
        case measure => simp [intOf]; omega
    · have hz : k = L.length := by omega
      subst hz
      have q1 : decide ((L.length : Int) < (L.length : Int)) = false := by simp
      go_wp2_with fail
      go_ret
      have h7 : (L.any fun n => decide (60 < n)) = false := by
        rw [List.any_eq_false]
        intro n hn
        obtain ⟨j, hj, rfl⟩ := List.getElem_of_mem hn
        have := hS.out j hj
        simp only [List.getD, List.getElem?_eq_getElem hj, Option.getD_some] at this
        rw [decide_eq_true_eq]
        omega
      exact ⟨retB h7.symm, rfl⟩
end Go.Proofs.YtihgefllmkicaaaDoor
