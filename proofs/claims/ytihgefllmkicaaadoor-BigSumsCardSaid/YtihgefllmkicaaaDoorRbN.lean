/- Contracts: the document's product. Conditions: the digits lie as told. -/
import Derived.Test.YtihgefllmkicaaaDoorRbM
namespace Go.Proofs.YtihgefllmkicaaaDoor
open Go.RowKit Bg
set_option linter.unusedVariables false
set_option linter.unusedSimpArgs false


theorem mul_step {x v d R : Int} (h1 : R = x * v * 10 + x * d) : R = x * (d + 10 * v) := by
  rw [h1, Int.mul_add, Int.mul_comm 10 v, ← Int.mul_assoc, Int.add_comm]
set_option maxRecDepth 100000 in
set_option maxHeartbeats 20000000 in
theorem rmul_at {w : World} {p1 p2 : Option Addr} {c1 c2 : Nat} {l1 l2 : List Int} {s1 s2 : Bool} {x y : Int} (a : Dn w s1 p1 c1 l1 x) (b : Dn w s2 p2 c2 l2 y) (n1 : l1.length ≤ 10000) (n2 : l2.length ≤ 10000) :
    Calls Tryd.prog 31 #[.agg #[.bool s1, .slice p1 l1.length c1], .agg #[.bool s2, .slice p2 l2.length c2]] w fun e w' => ∃ t q d D, e = .returned (.agg #[.bool t, .slice q D.length d]) ∧ Dn w' t q d D (x * y) ∧ D.length ≤ l1.length + 8 * (l2.length + 1) ∧ Below w.heap.size w w' := by
  obtain ⟨W, hW, hB, x0, x1, x2, hS⟩ := boxes28_3 w (.bool s1) (.slice p1 l1.length c1) (.bool s2) (.slice p2 l2.length c2) (.bool false) (.slice none 0 0)
  have c03 := x1.c0
  have c04 := x1.c1
  have mx1 := a.arg.max
  have le1 := a.arg.le
  have mx2 := b.arg.max
  have le2 := b.arg.le
  have H := Lib.hid (And.intro hB (And.intro x0 (And.intro x1 (And.intro x2 (And.intro (a.below hB) (And.intro (b.below hB) hS))))))
  clear a b hB x0 x1 x2 hS
  go_enter Tryd.func31, Tryd.ntmps31
  go_wp2_with fail
  rw [← hW]
  clear hW c03 c04
  go_loopw [5, 6] (fun v t wr => ∃ (k : Nat) (D : List Int), t = .int .i64 ((k : Int) - 1) ∧ k ≤ l2.length ∧ Hid (Own 3 .i64 W.heap.size wr v D ∧ Dig 10 D ∧ D.length ≤ l1.length + 8 * (l2.length - k + 1) ∧ Bg.val 10 D = Bg.val 10 l1 * Bg.val 10 (l2.drop k) ∧ Below W.heap.size W wr)) (fun _ t _ => (intOf t + 1).toNat)
  case atStart => exact ⟨l2.length, [], rfl, Nat.le_refl _, Own.nil _ _ _ _, Dig.nil, by simp, by rw [List.drop_eq_nil_of_le (Nat.le_refl _)]; exact (Int.mul_zero _).symm, Below.refl _ _⟩
  case round =>
    obtain ⟨k, D, rfl, hk, hS⟩ := hrel
    obtain ⟨p3, c3, hv3, a3, hp3⟩ := hS.out.1.arg
    rw [hv3] at hS ⊢
    clear hv3
    cases k with
    | zero =>
      have d1 : decide (((0 : Nat) : Int) - 1 ≥ 0) = false := by decide
      have T := Lib.hid (made_at (s1 != s2) a3)
      have hx := H.out.2.2.2.1.below hS.out.2.2.2.2
      have y0 := (H.out.2.1.below hS.out.2.2.2.2).c0
      have y1 := (H.out.2.2.1.below hS.out.2.2.2.2).c0
      have HB := Lib.hid (H.out.1.trans (hS.out.2.2.2.2.mono H.out.1.size))
      have HZ := Lib.hid (And.intro a3 (And.intro hp3 hx))
      clear a3 hp3 hx
      go_wp2_with fail
      refine T.out.mono ?_
      rintro e w5 ⟨rfl, B5⟩
      obtain ⟨tn, htn⟩ : ∃ tn, tn = tneg (s1 != s2) D := ⟨_, rfl⟩
      rw [← htn]
      have hx5 := HZ.out.2.2.below B5
      have k7 := Box.first hx5 (.bool tn)
      have k6 := (hx5.store (.bool tn) (.slice p3 (tdig D).length c3)).2
      have hf0 := hx5.f0
      have hf1 := hx5.f1
      have hc0 := hx5.c0
      have hc1 := hx5.c1
      have H5 := Lib.hid (And.intro htn B5)
      clear htn B5 hx5 d1 y0 y1
      go_wp2_with fail
      refine bodyPost_ret (v := .agg #[.bool tn, .slice p3 (tdig D).length c3]) (by simp [results, Tryd.results31, go_sem, k6, k7]) rfl ⟨tn, p3, c3, tdig D, rfl, ?_, ?_, ?_⟩
      · refine made_dn (HZ.out.1.below H5.out.2) hS.out.2.1 (fun g o he h0 hg => ?_) H5.out.1 ?_ _ _
        · rcases HZ.out.2.1 with h | ⟨g', h, hg', -⟩
          · rw [h] at he; cases he
          · rw [h] at he; cases he
            have := H.out.2.2.2.2.2.2
            omega
        · rw [← H.out.2.2.2.2.1.val, ← H.out.2.2.2.2.2.1.val]
          exact nv_mul (by rw [hS.out.2.2.2.1, List.drop_zero])
      · have := tdig_le D
        have := hS.out.2.2.1
        omega
      · exact box_kept (HB.out.trans (H5.out.2.mono HB.out.size)) (by omega) _ _
    | succ k =>
      have e6 : ((k + 1 : Nat) : Int) - 1 = k := by omega
      have d1 : decide ((k : Int) ≥ 0) = true := by rw [decide_eq_true_eq]; omega
      have hbk := H.out.2.2.2.2.2.1.below hS.out.2.2.2.2
      obtain ⟨b, off, rfl, -⟩ := hbk.arg.at (by omega)
      have hd := hbk.can.dig.getD (by decide) k
      have hva := val_any (B := 10) l2 k (by omega)
      obtain ⟨d, hde⟩ : ∃ d, d = l2.getD k 0 := ⟨_, rfl⟩
      have T := Lib.hid (rtimes_at (y := 10) (m0 := 0) a3 hS.out.2.1 (by decide) (by decide) (by have := hS.out.2.2.1; omega))
      rw [← hde] at hd hva
      have HV := Lib.hid (And.intro hva hde)
      have f1 : (k : Int) < (l2.length : Int) := by omega
      clear hva a3 hp3
      rw [e6]
      go_wp2_with fail
      refine T.out.mono ?_
      rintro e w5 ⟨v5, D5, rfl, o5, d5, l5, v5e, B5⟩
      obtain ⟨p5, c5, rfl, a5, h5⟩ := o5.arg
      have hb5 := hS.out.2.2.2.2.trans (B5.mono hS.out.2.2.2.2.size)
      have H5 := Lib.hid (And.intro d5 (And.intro l5 v5e))
      have G0 := Lib.hid (And.intro (H.out.2.1.below hb5) (And.intro hb5 (And.intro (H.out.2.1.below hb5) (And.intro (H.out.2.2.1.below hb5) (And.intro (H.out.2.2.2.2.1.below hb5) (And.intro (H.out.2.2.2.2.2.1.below hb5) a5))))))
      clear o5 d5 l5 v5e a5 h5 B5 hb5 hbk hde
      go_upto_region 6 with fail
      have B11 : Below w5.heap.size w5 w5.drew := (Below.refl _ _).drew
      have G1 := Lib.hid (And.intro (G0.out.1.below B11) (And.intro (G0.out.2.1.trans (B11.mono G0.out.2.1.size)) (And.intro (G0.out.2.2.1.below B11) (And.intro (G0.out.2.2.2.1.below B11) (And.intro (G0.out.2.2.2.2.1.below B11) (And.intro (G0.out.2.2.2.2.2.1.below B11) (G0.out.2.2.2.2.2.2.below B11)))))))
      clear B11
      have hSS : w5.drew.cell? ⟨w.heap.size, 0, none⟩ = some (.bool s1) ∧ w5.drew.cell? ⟨w.heap.size, 1, none⟩ = some (.slice p1 l1.length c1) ∧ w5.drew.cell? ⟨w.heap.size + 1, 0, none⟩ = some (.bool s2) ∧ w5.drew.cell? ⟨w.heap.size + 1, 1, none⟩ = some (.slice (some ⟨b, off, none⟩) l2.length c2) ∧ w5.drew.cell? ⟨b, off + k, none⟩ = some (.int .i64 d) := And.intro ((G1.out.2.2.1).c0) (And.intro ((G1.out.2.2.1).c1) (And.intro ((G1.out.2.2.2.1).c0) (And.intro ((G1.out.2.2.2.1).c1) ((show w5.drew.cell? ⟨b, off + k, none⟩ = some (.int .i64 d) by rw [HV.out.2]; exact (G1.out.2.2.2.2.2.1).arg.some_at k (by omega))))))
      refine wp_region_noPanic ?_
      refine wp_region_held_drew (S := fun w' => w'.cell? ⟨w.heap.size, 0, none⟩ = some (.bool s1) ∧ w'.cell? ⟨w.heap.size, 1, none⟩ = some (.slice p1 l1.length c1) ∧ w'.cell? ⟨w.heap.size + 1, 0, none⟩ = some (.bool s2) ∧ w'.cell? ⟨w.heap.size + 1, 1, none⟩ = some (.slice (some ⟨b, off, none⟩) l2.length c2) ∧ w'.cell? ⟨b, off + k, none⟩ = some (.int .i64 d)) (by kernel_rfl) hSS (fun hHeld => ?_)
      refine wpAnyH_take (i := 0) (oi := { dst := some 17, op := Op.move (Operand.tmp 5), type := 26, pos := "ref.go:202", after := #[], guard := none }) (v := ?_) rfl (by kernel_rfl) (by kernel_rfl) (by kernel_rfl) (fun _ _ _ h => h) (Or.inl ⟨by rfl, ?_⟩) (by assumption) ?_
      rotate_left
      · (intro w0 hSw; (try dsimp only at hSw); go_simp; (try with_reducible rfl))
      try simp only [Act.put, List.setIfInBounds_toArray, List.set_cons_zero, List.set_cons_succ]
      refine wpAnyH_take (i := 1) (oi := { dst := some 18, op := Op.fieldAddr 28 (Operand.tmp 2) 1, type := 0, pos := "ref.go:202", after := #[], guard := none }) (v := ?_) rfl (by kernel_rfl) (by kernel_rfl) (by kernel_rfl) (fun _ _ _ h => h) (Or.inl ⟨by rfl, ?_⟩) (by assumption) ?_
      rotate_left
      · (intro w0 hSw; (try dsimp only at hSw); go_simp; (try with_reducible rfl))
      try simp only [Act.put, List.setIfInBounds_toArray, List.set_cons_zero, List.set_cons_succ]
      refine wpAnyH_take (i := 2) (oi := { dst := some 19, op := Op.load 26 (Operand.tmp 18), type := 26, pos := "ref.go:202", after := #[{ on := 1, ground := Ground.data }], guard := none }) (v := ?_) rfl (by kernel_rfl) (by kernel_rfl) (by kernel_rfl) (fun _ _ _ h => h) (Or.inl ⟨by rfl, ?_⟩) (by assumption) ?_
      rotate_left
      · (intro w0 hSw; (try dsimp only at hSw); go_simp; (try with_reducible rfl))
      try simp only [Act.put, List.setIfInBounds_toArray, List.set_cons_zero, List.set_cons_succ]
      refine wpAnyH_take (i := 3) (oi := { dst := some 20, op := Op.fieldAddr 28 (Operand.tmp 3) 1, type := 0, pos := "ref.go:202", after := #[], guard := none }) (v := ?_) rfl (by kernel_rfl) (by kernel_rfl) (by kernel_rfl) (fun _ _ _ h => h) (Or.inl ⟨by rfl, ?_⟩) (by assumption) ?_
      rotate_left
      · (intro w0 hSw; (try dsimp only at hSw); go_simp; (try with_reducible rfl))
      try simp only [Act.put, List.setIfInBounds_toArray, List.set_cons_zero, List.set_cons_succ]
      refine wpAnyH_take (i := 4) (oi := { dst := some 21, op := Op.load 26 (Operand.tmp 20), type := 26, pos := "ref.go:202", after := #[{ on := 3, ground := Ground.data }], guard := none }) (v := ?_) rfl (by kernel_rfl) (by kernel_rfl) (by kernel_rfl) (fun _ _ _ h => h) (Or.inl ⟨by rfl, ?_⟩) (by assumption) ?_
      rotate_left
      · (intro w0 hSw; (try dsimp only at hSw); go_simp; (try with_reducible rfl))
      try simp only [Act.put, List.setIfInBounds_toArray, List.set_cons_zero, List.set_cons_succ]
      refine wpAnyH_take (i := 5) (oi := { dst := some 22, op := Op.move (Operand.tmp 6), type := 3, pos := "ref.go:202", after := #[], guard := none }) (v := ?_) rfl (by kernel_rfl) (by kernel_rfl) (by kernel_rfl) (fun _ _ _ h => h) (Or.inl ⟨by rfl, ?_⟩) (by assumption) ?_
      rotate_left
      · (intro w0 hSw; (try dsimp only at hSw); go_simp; (try with_reducible rfl))
      try simp only [Act.put, List.setIfInBounds_toArray, List.set_cons_zero, List.set_cons_succ]
      refine wpAnyH_take (i := 6) (oi := { dst := some 23, op := Op.indexAddr 26 (Operand.tmp 21) (Operand.tmp 22), type := 0, pos := "ref.go:202", after := #[{ on := 4, ground := Ground.data }, { on := 5, ground := Ground.data }], guard := none }) (v := ?_) rfl (by kernel_rfl) (by kernel_rfl) (by kernel_rfl) (fun _ _ _ h => h) (Or.inl ⟨by rfl, ?_⟩) (by assumption) ?_
      rotate_left
      · (intro w0 hSw; (try dsimp only at hSw); go_simp; (try with_reducible rfl))
      try simp only [Act.put, List.setIfInBounds_toArray, List.set_cons_zero, List.set_cons_succ]
      refine wpAnyH_take (i := 7) (oi := { dst := some 24, op := Op.load 3 (Operand.tmp 23), type := 3, pos := "ref.go:202", after := #[{ on := 6, ground := Ground.data }], guard := none }) (v := ?_) rfl (by kernel_rfl) (by kernel_rfl) (by kernel_rfl) (fun _ _ _ h => h) (Or.inl ⟨by rfl, ?_⟩) (by assumption) ?_
      rotate_left
      · (intro w0 hSw; (try dsimp only at hSw); go_simp; (try with_reducible rfl))
      try simp only [Act.put, List.setIfInBounds_toArray, List.set_cons_zero, List.set_cons_succ]
      refine wpAnyH_ready (rs := [8]) (by kernel_rfl) (by simp) ?_
      refine AllReadyH.cons rfl (fun K hK => ?_) AllReadyH.nil
      go_simp
      go_wp2_with (have hx := G1; go_at_call 58; clear hx; refine (rtimes_at (y := d) (m0 := 0) (G1.out.2.2.2.2.1).arg (G1.out.2.2.2.2.1).can.dig ⟨hd.1, by omega⟩ (by decide) (by omega)).mono ?_; rintro e w12 ⟨v12, D12, rfl, o12, d12, l12, e12, B12⟩; obtain ⟨p12, c12, rfl, a12, -⟩ := o12.arg; have P12 := Lib.hid (And.intro d12 (And.intro l12 e12)); have G2 := Lib.hid (And.intro (G1.out.1.below B12) (And.intro (G1.out.2.1.trans (B12.mono G1.out.2.1.size)) (And.intro (G1.out.2.2.1.below B12) (And.intro (G1.out.2.2.2.1.below B12) (And.intro (G1.out.2.2.2.2.1.below B12) (And.intro (G1.out.2.2.2.2.2.1.below B12) (And.intro (G1.out.2.2.2.2.2.2.below B12) a12))))))); clear o12 d12 l12 e12 a12 B12 G1; clear hSS; have hSSrw12 := And.intro ((G2.out.2.2.1).c0) (And.intro ((G2.out.2.2.1).c1) (And.intro ((G2.out.2.2.2.1).c0) (And.intro ((G2.out.2.2.2.1).c1) ((show w12.cell? ⟨b, off + k, none⟩ = some (.int .i64 d) by rw [HV.out.2]; exact (G2.out.2.2.2.2.2.1).arg.some_at k (by omega)))))))
      refine hK.out _ _ ?_ (fun hHeld => ?_)
      · assumption
      clear hK K
      refine wpAnyH_ready (rs := [9]) (by kernel_rfl) (by simp) ?_
      refine AllReadyH.cons rfl (fun K hK => ?_) AllReadyH.nil
      go_simp
      go_wp2_with (have hx := G2; go_at_call 55; clear hx; refine (rsum_at G2.out.2.2.2.2.2.2.1 G2.out.2.2.2.2.2.2.2 H5.out.1 P12.out.1 (by have := H5.out.2.1; have := hS.out.2.2.1; omega) (by have := P12.out.2.1; omega)).mono ?_; rintro e w13 ⟨v13, D13, rfl, o13, d13, l13, e13, B13⟩; have P13 := Lib.hid (And.intro (o13.base (G2.out.2.1).size) (And.intro d13 (And.intro l13 e13))); have G3 := Lib.hid (And.intro (G2.out.1.below B13) (And.intro (G2.out.2.1.trans (B13.mono G2.out.2.1.size)) (And.intro (G2.out.2.2.1.below B13) (And.intro (G2.out.2.2.2.1.below B13) (And.intro (G2.out.2.2.2.2.1.below B13) (And.intro (G2.out.2.2.2.2.2.1.below B13) (And.intro (G2.out.2.2.2.2.2.2.1.below B13) (G2.out.2.2.2.2.2.2.2.below B13)))))))); clear o13 d13 l13 e13 B13 G2; clear hSSrw12; have hSSrw13 := And.intro ((G3.out.2.2.1).c0) (And.intro ((G3.out.2.2.1).c1) (And.intro ((G3.out.2.2.2.1).c0) (And.intro ((G3.out.2.2.2.1).c1) ((show w13.cell? ⟨b, off + k, none⟩ = some (.int .i64 d) by rw [HV.out.2]; exact (G3.out.2.2.2.2.2.1).arg.some_at k (by omega)))))))
      refine hK.out _ _ ?_ (fun hHeld => ?_)
      · assumption
      clear hK K
      refine wpAnyH_take (i := 10) (oi := { dst := some 5, op := Op.assign (Operand.tmp 26), type := 26, pos := "ref.go:202", after := #[{ on := 9, ground := Ground.data }, { on := 9, ground := Ground.chain }, { on := 0, ground := Ground.phase }, { on := 1, ground := Ground.phase }, { on := 2, ground := Ground.phase }, { on := 3, ground := Ground.phase }, { on := 4, ground := Ground.phase }, { on := 5, ground := Ground.phase }, { on := 6, ground := Ground.phase }, { on := 7, ground := Ground.phase }, { on := 8, ground := Ground.phase }, { on := 9, ground := Ground.phase }], guard := none }) (v := ?_) rfl (by kernel_rfl) (by kernel_rfl) (by kernel_rfl) (fun _ _ _ h => h) (Or.inl ⟨by rfl, ?_⟩) (by assumption) ?_
      rotate_left
      · (intro w0 hSw; (try dsimp only at hSw); go_simp; (try with_reducible rfl))
      try simp only [Act.put, List.setIfInBounds_toArray, List.set_cons_zero, List.set_cons_succ]
      refine wpAnyH_done (by kernel_rfl) (NoPanic.normal ?_) _
      clear hSSrw13
      go_wp2_with fail
      go_roundw
      case rel =>
        refine ⟨k, D13, rfl, by omega, P13.out.1, P13.out.2.1, ?_, ?_, G3.out.2.1⟩
        · have h1 := P13.out.2.2.1
          have h2 := P12.out.2.1
          have h3 := H5.out.2.1
          have h4 := hS.out.2.2.1
          omega
        · rw [HV.out.1]
          refine mul_step ?_
          rw [P13.out.2.2.2, H5.out.2.2, P12.out.2.2, hS.out.2.2.2.1, Int.add_zero, Int.add_zero]
      case measure => simp [intOf]
end Go.Proofs.YtihgefllmkicaaaDoor
