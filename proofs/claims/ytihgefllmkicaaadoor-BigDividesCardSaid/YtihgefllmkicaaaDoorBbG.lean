/- Plain: the walk of BigDivides. Conditions: the digits lie as told; the table lies. -/
import Derived.Test.YtihgefllmkicaaaDoorBbF0
namespace Go.Proofs.YtihgefllmkicaaaDoor
open Go.RowKit Bg
set_option linter.unusedVariables false
set_option linter.unusedSimpArgs false


theorem field1 (a b : Value) (w : World) : (Instr.field 24 (.agg #[a, b]) 1).run Tryd.prog w = .ok b w := by
  simp [Instr.field, run_underlying Tryd.underlying24, go_sem, asAgg]
theorem can_zero {s : Bool} {D : List Int} {y : Int} (h : Bg.Can 65536 s D) (hv : nv 65536 s D = y) : D.length = 0 ↔ y = 0 := by
  constructor
  · intro e
    rw [← hv, List.length_eq_zero_iff.1 e, nv_nil]
  · intro e
    obtain ⟨-, e2⟩ := nv_inj (by decide) h (can_nil 65536) (hv.trans (e.trans (nv_nil _ _).symm))
    rw [e2]; rfl
theorem rest_less {x y : Int} (hy : y ≠ 0) {r t : Int} (hr : r = (x.tmod y).natAbs) (ht : t = y.natAbs) : sgn r t = -1 := by
  apply sgn_lt
  rw [hr, ht, Int.natAbs_tmod]
  have := Nat.mod_lt x.natAbs (show 0 < y.natAbs by omega)
  omega
theorem abs_of {s : Bool} {D : List Int} {x : Int} (h : Dig 65536 D) (hv : nv 65536 s D = x) : (if s = true then -x else x) = x.natAbs := by
  have h0 := val_nonneg (show (0 : Int) ≤ 65536 by decide) h
  unfold nv at hv
  cases s <;> simp at hv ⊢ <;> omega
/-- The rest is of the dividend's sign. -/
theorem rest_sign {s s1 : Bool} {D l1 : List Int} {x y : Int} (h : Bg.Can 65536 s D) (hv : nv 65536 s D = x.tmod y) (hd : Dig 65536 l1) (hx : nv 65536 s1 l1 = x) (h0 : 0 < D.length) : s = s1 := by
  have hne : x.tmod y ≠ 0 := fun e => by have := (can_zero h hv).2 e; omega
  have v0 := val_nonneg (show (0 : Int) ≤ 65536 by decide) hd
  have v1 := val_nonneg (show (0 : Int) ≤ 65536 by decide) h.dig
  by_cases hx0 : 0 ≤ x
  · have h1 := Int.tmod_nonneg y hx0
    have e1 : s = false := by
      cases s
      · rfl
      · exfalso; unfold nv at hv; simp at hv; omega
    have e2 : s1 = false := by
      cases s1
      · rfl
      · exfalso
        unfold nv at hx; simp at hx
        have : x = 0 := by omega
        rw [this, Int.zero_tmod] at hne
        exact hne rfl
    rw [e1, e2]
  · have h1 : x.tmod y ≤ 0 := by
      have := Int.tmod_nonneg y (show 0 ≤ -x by omega)
      rw [Int.neg_tmod] at this
      omega
    have e1 : s = true := by
      cases s
      · exfalso; unfold nv at hv; simp at hv; omega
      · rfl
    have e2 : s1 = true := by
      cases s1
      · exfalso; unfold nv at hx; simp at hx; omega
      · rfl
    rw [e1, e2]

set_option maxRecDepth 100000 in
set_option maxHeartbeats 40000000 in
theorem divides_any {w : World} {p1 p2 : Option Addr} {c1 c2 : Nat} {l1 l2 : List Int} {s1 s2 : Bool} {x y : Int} (a1 : Nm w s1 p1 c1 l1 x) (a2 : Nm w s2 p2 c2 l2 y) (ht : Tab w) :
    Calls Tryd.prog 9 #[.agg #[.bool s1, .slice p1 l1.length c1], .agg #[.bool s2, .slice p2 l2.length c2]] w fun e w' => e = .returned (.bool true) ∧ Below w.heap.size w w' := by
  obtain ⟨W, hW, hB, hS, h0, h1⟩ := two_boxes w (.bool s1) (.slice p1 l1.length c1) (.bool s2) (.slice p2 l2.length c2)
  obtain ⟨V, hV⟩ : ∃ V, V = W.alloc (.cells #[.bool s1, .slice p1 l1.length c1, .bool s2, .slice p2 l2.length c2] 24) := ⟨_, rfl⟩
  have hr : Rw V (w.heap.size + 1 + 1) 0 [l1.length, l2.length] := by rw [hV]; exact rw_two hS _ _ _ _ _ _ _ _
  have BV : Below W.heap.size W V := by rw [hV]; exact (Below.refl _ _).alloc (Nat.le_refl _) _
  have hBV := hB.trans (BV.mono hB.size)
  have x0 := Box.of h0
  have x1 := Box.of h1
  have m0 := x0.c0
  have m1 := x0.c1
  have m2 := x1.c0
  have m3 := x1.c1
  have HR := Lib.hid hr
  have H0 := Lib.hid (And.intro (ht.below (hBV.mono (Nat.le_refl _))) (And.intro hBV (And.intro (x0.below BV) (And.intro (x1.below BV) (And.intro (a1.below (hBV.mono (Nat.le_refl _))) (a2.below (hBV.mono (Nat.le_refl _))))))))
  clear a1 a2 ht hB hS h0 h1 x0 x1 BV hBV hr
  go_enter Tryd.func9, Tryd.ntmps9
  go_wp2_with fail
  rw [← hW, ← hV]
  clear hW hV m0 m1 m2 m3
  refine (large_at HR.out (show 2 ≤ 10 by decide) (Nat.le_refl _)).mono ?_
  rintro e w' ⟨rfl, rfl⟩
  obtain ⟨lo, hlo⟩ : ∃ lo, lo = long [l1.length, l2.length] := ⟨_, rfl⟩
  rw [show ([l1.length, l2.length].any fun n => decide (60 < n)) = lo from hlo.symm]
  have HL := Lib.hid hlo
  clear hlo
  cases lo
  case true =>
    go_wp2_with fail
    go_wp2_with fail
    refine (awake_at H0.out.1).mono ?_
    rintro e w11 ⟨rfl, B11⟩
    have H1 := Lib.hid (And.intro (H0.out.1.below B11) (And.intro (H0.out.2.1.trans (B11.mono H0.out.2.1.size)) (And.intro (H0.out.2.2.1.below B11) (And.intro (H0.out.2.2.2.1.below B11) (And.intro (H0.out.2.2.2.2.1.below B11) (H0.out.2.2.2.2.2.below B11))))))
    clear B11
    go_wp2_with fail
    go_ret
    exact ⟨rfl, H1.out.2.1⟩
  have hL := long_two HL.out.symm
  have H1 := Lib.hid (And.intro H0.out.1 (And.intro H0.out.2.1 (And.intro H0.out.2.2.1 (And.intro H0.out.2.2.2.1 (And.intro (Nu.mk (n := 60) H0.out.2.2.2.2.1 hL.1) (Nu.mk (n := 60) H0.out.2.2.2.2.2 hL.2))))))
  clear hL
  have yX1 := H1.out.2.2.1
  have yX10 := yX1.c0
  have yX11 := yX1.c1
  clear yX1
  have yX2 := H1.out.2.2.2.1
  have yX20 := yX2.c0
  have yX21 := yX2.c1
  clear yX2
  by_cases hy : y = 0
  · go_wp2_with fail
    refine (quo_zero H1.out.2.2.2.2.1 (hy ▸ H1.out.2.2.2.2.2) (by decide) (by decide)).mono ?_
    rintro e w11 ⟨rfl, B11⟩
    have H2 := Lib.hid (And.intro (H1.out.1.below B11) (And.intro (H1.out.2.1.trans (B11.mono H1.out.2.1.size)) (And.intro (H1.out.2.2.1.below B11) (And.intro (H1.out.2.2.2.1.below B11) (And.intro (H1.out.2.2.2.2.1.below B11) (H1.out.2.2.2.2.2.below B11))))))
    clear B11
    clear yX10 yX11
    clear yX20 yX21
    obtain ⟨w12, hw12, B12, -, x12, y12⟩ := two_boxes w11 (.bool false) (.slice none 0 0) (.bool false) (.slice none 0 0)
    have H3 := Lib.hid (And.intro (H2.out.1.below B12) (And.intro (H2.out.2.1.trans (B12.mono H2.out.2.1.size)) (And.intro (H2.out.2.2.1.below B12) (And.intro (H2.out.2.2.2.1.below B12) (And.intro (H2.out.2.2.2.2.1.below B12) (And.intro (H2.out.2.2.2.2.2.below B12) (And.intro (Box.of x12) (Box.of y12))))))))
    clear x12 y12 B12
    go_upto_region 4 with fail
    rw [← hw12]
    clear hw12
    have yX2 := H3.out.2.2.2.1
    have yX20 := yX2.c0
    have yX21 := yX2.c1
    clear yX2
    go_wp2_with fail
    refine (tidy_nu H3.out.2.2.2.2.2.1 (by decide)).mono ?_
    rintro e w13 ⟨⟨s13, p13, c13, D13, rfl, n13, k13, -⟩, B13⟩
    have H4 := Lib.hid (And.intro (H3.out.1.below B13) (And.intro (H3.out.2.1.trans (B13.mono H3.out.2.1.size)) (And.intro (H3.out.2.2.1.below B13) (And.intro (H3.out.2.2.2.1.below B13) (And.intro (H3.out.2.2.2.2.1.below B13) (And.intro (H3.out.2.2.2.2.2.1.below B13) (And.intro (H3.out.2.2.2.2.2.2.1.below B13) (And.intro (H3.out.2.2.2.2.2.2.2.below B13) (And.intro n13 k13)))))))))
    clear n13 k13 B13
    clear yX20 yX21
    have e2 := (can_zero H4.out.2.2.2.2.2.2.2.2.2 H4.out.2.2.2.2.2.2.2.2.1.val).2 hy
    rw [e2]
    have hfd := field1 (.bool s13) (.slice p13 0 c13) w13
    clear e2
    have yXq := H4.out.2.2.2.2.2.2.1
    have yXq0 := yXq.c0
    have yXq1 := yXq.c1
    clear yXq
    have yXr := H4.out.2.2.2.2.2.2.2.1
    have yXr0 := yXr.c0
    have yXr1 := yXr.c1
    clear yXr
    clear hy
    go_wp2_with fail
    clear yXq0 yXq1
    clear yXr0 yXr1
    clear hfd
    go_wp2_with fail
    refine (awake_at H4.out.1).mono ?_
    rintro e w14 ⟨rfl, B14⟩
    have H5 := Lib.hid (And.intro (H4.out.1.below B14) (And.intro (H4.out.2.1.trans (B14.mono H4.out.2.1.size)) (And.intro (H4.out.2.2.1.below B14) (And.intro (H4.out.2.2.2.1.below B14) (And.intro (H4.out.2.2.2.2.1.below B14) (And.intro (H4.out.2.2.2.2.2.1.below B14) (And.intro (H4.out.2.2.2.2.2.2.1.below B14) (And.intro (H4.out.2.2.2.2.2.2.2.1.below B14) (And.intro (H4.out.2.2.2.2.2.2.2.2.1.below B14) (H4.out.2.2.2.2.2.2.2.2.2.below B14))))))))))
    clear B14
    go_wp2_with fail
    go_ret
    exact ⟨rfl, H5.out.2.1⟩
  · go_wp2_with fail
    refine (quo_nu H1.out.2.2.2.2.1 H1.out.2.2.2.2.2 (by decide) (by decide) hy).mono ?_
    rintro e w11 ⟨⟨s11, p11, c11, D11, t11, q11, d11, E11, rfl, ⟨n11, k11, -⟩, ⟨m11, h11, -⟩⟩, B11⟩
    have H2 := Lib.hid (And.intro (H1.out.1.below B11) (And.intro (H1.out.2.1.trans (B11.mono H1.out.2.1.size)) (And.intro (H1.out.2.2.1.below B11) (And.intro (H1.out.2.2.2.1.below B11) (And.intro (H1.out.2.2.2.2.1.below B11) (And.intro (H1.out.2.2.2.2.2.below B11) (And.intro n11 (And.intro k11 (And.intro m11 h11)))))))))
    clear n11 k11 m11 h11 B11
    clear yX10 yX11
    clear yX20 yX21
    obtain ⟨w12, hw12, B12, -, x12, y12⟩ := two_boxes w11 (.bool s11) (.slice p11 D11.length c11) (.bool t11) (.slice q11 E11.length d11)
    have H3 := Lib.hid (And.intro (H2.out.1.below B12) (And.intro (H2.out.2.1.trans (B12.mono H2.out.2.1.size)) (And.intro (H2.out.2.2.1.below B12) (And.intro (H2.out.2.2.2.1.below B12) (And.intro (H2.out.2.2.2.2.1.below B12) (And.intro (H2.out.2.2.2.2.2.1.below B12) (And.intro (H2.out.2.2.2.2.2.2.1.below B12) (And.intro (H2.out.2.2.2.2.2.2.2.1.below B12) (And.intro (H2.out.2.2.2.2.2.2.2.2.1.below B12) (And.intro (H2.out.2.2.2.2.2.2.2.2.2.below B12) (And.intro (Box.of x12) (Box.of y12))))))))))))
    clear x12 y12 B12
    go_upto_region 4 with fail
    rw [← hw12]
    clear hw12
    have yX2 := H3.out.2.2.2.1
    have yX20 := yX2.c0
    have yX21 := yX2.c1
    clear yX2
    go_wp2_with fail
    refine (tidy_nu H3.out.2.2.2.2.2.1 (by decide)).mono ?_
    rintro e w13 ⟨⟨s13, p13, c13, D13, rfl, n13, k13, -⟩, B13⟩
    have H4 := Lib.hid (And.intro (H3.out.1.below B13) (And.intro (H3.out.2.1.trans (B13.mono H3.out.2.1.size)) (And.intro (H3.out.2.2.1.below B13) (And.intro (H3.out.2.2.2.1.below B13) (And.intro (H3.out.2.2.2.2.1.below B13) (And.intro (H3.out.2.2.2.2.2.1.below B13) (And.intro (H3.out.2.2.2.2.2.2.1.below B13) (And.intro (H3.out.2.2.2.2.2.2.2.1.below B13) (And.intro (H3.out.2.2.2.2.2.2.2.2.1.below B13) (And.intro (H3.out.2.2.2.2.2.2.2.2.2.1.below B13) (And.intro (H3.out.2.2.2.2.2.2.2.2.2.2.1.below B13) (And.intro (H3.out.2.2.2.2.2.2.2.2.2.2.2.below B13) (And.intro n13 k13)))))))))))))
    clear n13 k13 B13
    clear yX20 yX21
    have e2 : ¬ D13.length = 0 := fun e => hy ((can_zero H4.out.2.2.2.2.2.2.2.2.2.2.2.2.2 H4.out.2.2.2.2.2.2.2.2.2.2.2.2.1.val).1 e)
    have q1 : decide ((D13.length : Int) = 0) = false := by rw [decide_eq_false_iff_not]; omega
    have q2 : ((D13.length : Int) == 0) = false := q1
    have hfd := field1 (.bool s13) (.slice p13 D13.length c13) w13
    have HYN := Lib.hid hy
    clear hy
    go_upto_region 6 with fail
    clear e2 q1 q2 hfd
    have H5 := Lib.hid (And.intro H4.out.1 (And.intro H4.out.2.1 (And.intro H4.out.2.2.1 (And.intro H4.out.2.2.2.1 (And.intro H4.out.2.2.2.2.1 (And.intro H4.out.2.2.2.2.2.1 (And.intro H4.out.2.2.2.2.2.2.1 (And.intro H4.out.2.2.2.2.2.2.2.1 (And.intro H4.out.2.2.2.2.2.2.2.2.1 (And.intro H4.out.2.2.2.2.2.2.2.2.2.1 (And.intro H4.out.2.2.2.2.2.2.2.2.2.2.1 H4.out.2.2.2.2.2.2.2.2.2.2.2.1)))))))))))
    by_cases hr : x.tmod y = 0
    · obtain ⟨e1, e2⟩ := nv_inj (by decide) H5.out.2.2.2.2.2.2.2.2.2.1 (can_nil 65536) (H5.out.2.2.2.2.2.2.2.2.1.val.trans (hr.trans (nv_nil _ _).symm))
      subst e1 e2
      simp only [List.length_nil] at H5 ⊢
      clear hr
      have B14 : Below w13.heap.size w13 w13.drew := (Below.refl _ _).drew
      have H6 := Lib.hid (And.intro (H5.out.1.below B14) (And.intro (H5.out.2.1.trans (B14.mono H5.out.2.1.size)) (And.intro (H5.out.2.2.1.below B14) (And.intro (H5.out.2.2.2.1.below B14) (And.intro (H5.out.2.2.2.2.1.below B14) (And.intro (H5.out.2.2.2.2.2.1.below B14) (And.intro (H5.out.2.2.2.2.2.2.1.below B14) (And.intro (H5.out.2.2.2.2.2.2.2.1.below B14) (And.intro (H5.out.2.2.2.2.2.2.2.2.1.below B14) (And.intro (H5.out.2.2.2.2.2.2.2.2.2.1.below B14) (And.intro (H5.out.2.2.2.2.2.2.2.2.2.2.1.below B14) (H5.out.2.2.2.2.2.2.2.2.2.2.2.below B14))))))))))))
      clear B14
      have hSS : w13.drew.cell? ⟨w.heap.size, 0, none⟩ = some (.bool s1) ∧ w13.drew.cell? ⟨w.heap.size, 1, none⟩ = some (.slice p1 l1.length c1) ∧ w13.drew.cell? ⟨w.heap.size + 1, 0, none⟩ = some (.bool s2) ∧ w13.drew.cell? ⟨w.heap.size + 1, 1, none⟩ = some (.slice p2 l2.length c2) ∧ w13.drew.cell? ⟨w11.heap.size, 0, none⟩ = some (.bool s11) ∧ w13.drew.cell? ⟨w11.heap.size, 1, none⟩ = some (.slice p11 D11.length c11) ∧ w13.drew.cell? ⟨w11.heap.size + 1, 0, none⟩ = some (.bool false) ∧ w13.drew.cell? ⟨w11.heap.size + 1, 1, none⟩ = some (.slice q11 0 d11) := And.intro ((H6.out.2.2.1).c0) (And.intro ((H6.out.2.2.1).c1) (And.intro ((H6.out.2.2.2.1).c0) (And.intro ((H6.out.2.2.2.1).c1) (And.intro ((H6.out.2.2.2.2.2.2.2.2.2.2.1).c0) (And.intro ((H6.out.2.2.2.2.2.2.2.2.2.2.1).c1) (And.intro ((H6.out.2.2.2.2.2.2.2.2.2.2.2).c0) ((H6.out.2.2.2.2.2.2.2.2.2.2.2).c1)))))))
      refine wp_region_noPanic ?_
      refine wp_region_held_drew (S := fun w' => w'.cell? ⟨w.heap.size, 0, none⟩ = some (.bool s1) ∧ w'.cell? ⟨w.heap.size, 1, none⟩ = some (.slice p1 l1.length c1) ∧ w'.cell? ⟨w.heap.size + 1, 0, none⟩ = some (.bool s2) ∧ w'.cell? ⟨w.heap.size + 1, 1, none⟩ = some (.slice p2 l2.length c2) ∧ w'.cell? ⟨w11.heap.size, 0, none⟩ = some (.bool s11) ∧ w'.cell? ⟨w11.heap.size, 1, none⟩ = some (.slice p11 D11.length c11) ∧ w'.cell? ⟨w11.heap.size + 1, 0, none⟩ = some (.bool false) ∧ w'.cell? ⟨w11.heap.size + 1, 1, none⟩ = some (.slice q11 0 d11)) (by kernel_rfl) hSS (fun hHeld => ?_)
      refine wpAnyH_take (i := 0) (oi := { dst := some 40, op := Op.move (Operand.tmp 7), type := 42, pos := "outright.go:96", after := #[], guard := none }) (v := ?_) rfl (by kernel_rfl) (by kernel_rfl) (by kernel_rfl) (fun _ _ _ h => h) (Or.inl ⟨by rfl, ?_⟩) (by assumption) ?_
      rotate_left
      · (intro w0 hSw; (try dsimp only at hSw); go_simp; (try with_reducible rfl))
      try simp only [Act.put, List.setIfInBounds_toArray, List.set_cons_zero, List.set_cons_succ]
      refine wpAnyH_take (i := 1) (oi := { dst := some 41, op := Op.binOp BinOp.eql 42 (Operand.tmp 40) (Operand.const (Value.int IntKind.i64 0)) 42, type := 4, pos := "outright.go:96", after := #[{ on := 0, ground := Ground.data }], guard := none }) (v := ?_) rfl (by kernel_rfl) (by kernel_rfl) (by kernel_rfl) (fun _ _ _ h => h) (Or.inl ⟨by rfl, ?_⟩) (by assumption) ?_
      rotate_left
      · (intro w0 hSw; (try dsimp only at hSw); go_simp; (try with_reducible rfl))
      try simp only [Act.put, List.setIfInBounds_toArray, List.set_cons_zero, List.set_cons_succ]
      refine wpAnyH_take (i := 2) (oi := { dst := some 42, op := Op.move (Operand.tmp 41), type := 4, pos := "outright.go:96", after := #[{ on := 1, ground := Ground.data }], guard := none }) (v := ?_) rfl (by kernel_rfl) (by kernel_rfl) (by kernel_rfl) (fun _ _ _ h => h) (Or.inl ⟨by rfl, ?_⟩) (by assumption) ?_
      rotate_left
      · (intro w0 hSw; (try dsimp only at hSw); go_simp; (try with_reducible rfl))
      try simp only [Act.put, List.setIfInBounds_toArray, List.set_cons_zero, List.set_cons_succ]
      refine wpAnyH_take (i := 3) (oi := { dst := some 43, op := Op.load 24 (Operand.tmp 5), type := 24, pos := "outright.go:96", after := #[{ on := 2, ground := Ground.guard }], guard := some (2, true) }) (v := ?_) rfl (by kernel_rfl) (by kernel_rfl) (by kernel_rfl) (fun _ _ _ h => h) (Or.inl ⟨by rfl, ?_⟩) (by assumption) ?_
      rotate_left
      · (intro w0 hSw; (try dsimp only at hSw); go_simp; (try with_reducible rfl))
      try simp only [Act.put, List.setIfInBounds_toArray, List.set_cons_zero, List.set_cons_succ]
      refine wpAnyH_take (i := 4) (oi := { dst := some 44, op := Op.load 24 (Operand.tmp 3), type := 24, pos := "outright.go:96", after := #[{ on := 2, ground := Ground.guard }], guard := some (2, true) }) (v := ?_) rfl (by kernel_rfl) (by kernel_rfl) (by kernel_rfl) (fun _ _ _ h => h) (Or.inl ⟨by rfl, ?_⟩) (by assumption) ?_
      rotate_left
      · (intro w0 hSw; (try dsimp only at hSw); go_simp; (try with_reducible rfl))
      try simp only [Act.put, List.setIfInBounds_toArray, List.set_cons_zero, List.set_cons_succ]
      refine wpAnyH_take (i := 6) (oi := { dst := some 46, op := Op.load 24 (Operand.tmp 6), type := 24, pos := "outright.go:96", after := #[{ on := 2, ground := Ground.guard }], guard := some (2, true) }) (v := ?_) rfl (by kernel_rfl) (by kernel_rfl) (by kernel_rfl) (fun _ _ _ h => h) (Or.inl ⟨by rfl, ?_⟩) (by assumption) ?_
      rotate_left
      · (intro w0 hSw; (try dsimp only at hSw); go_simp; (try with_reducible rfl))
      try simp only [Act.put, List.setIfInBounds_toArray, List.set_cons_zero, List.set_cons_succ]
      refine wpAnyH_take (i := 8) (oi := { dst := some 48, op := Op.load 24 (Operand.tmp 2), type := 24, pos := "outright.go:96", after := #[{ on := 2, ground := Ground.guard }], guard := some (2, true) }) (v := ?_) rfl (by kernel_rfl) (by kernel_rfl) (by kernel_rfl) (fun _ _ _ h => h) (Or.inl ⟨by rfl, ?_⟩) (by assumption) ?_
      rotate_left
      · (intro w0 hSw; (try dsimp only at hSw); go_simp; (try with_reducible rfl))
      try simp only [Act.put, List.setIfInBounds_toArray, List.set_cons_zero, List.set_cons_succ]
      refine wpAnyH_ready (rs := [5]) (by kernel_rfl) (by simp) ?_
      refine AllReadyH.cons rfl (fun K hK => ?_) AllReadyH.nil
      go_simp
      go_wp2_with (have hx := H6; go_at_call 26; clear hx; refine (mul_nu H6.out.2.2.2.2.2.2.1 H6.out.2.2.2.2.2.1 (by decide) (by decide)).mono ?_; rintro e w15 ⟨⟨s15, p15, c15, D15, rfl, n15, k15, -⟩, B15⟩; have H7 := Lib.hid (And.intro (H6.out.1.below B15) (And.intro (H6.out.2.1.trans (B15.mono H6.out.2.1.size)) (And.intro (H6.out.2.2.1.below B15) (And.intro (H6.out.2.2.2.1.below B15) (And.intro (H6.out.2.2.2.2.1.below B15) (And.intro (H6.out.2.2.2.2.2.1.below B15) (And.intro (H6.out.2.2.2.2.2.2.1.below B15) (And.intro (H6.out.2.2.2.2.2.2.2.1.below B15) (And.intro (H6.out.2.2.2.2.2.2.2.2.1.below B15) (And.intro (H6.out.2.2.2.2.2.2.2.2.2.1.below B15) (And.intro (H6.out.2.2.2.2.2.2.2.2.2.2.1.below B15) (And.intro (H6.out.2.2.2.2.2.2.2.2.2.2.2.below B15) (And.intro n15 k15))))))))))))); clear n15 k15 B15 H6; clear hSS; have hSS15 := And.intro ((H7.out.2.2.1).c0) (And.intro ((H7.out.2.2.1).c1) (And.intro ((H7.out.2.2.2.1).c0) (And.intro ((H7.out.2.2.2.1).c1) (And.intro ((H7.out.2.2.2.2.2.2.2.2.2.2.1).c0) (And.intro ((H7.out.2.2.2.2.2.2.2.2.2.2.1).c1) (And.intro ((H7.out.2.2.2.2.2.2.2.2.2.2.2.1).c0) ((H7.out.2.2.2.2.2.2.2.2.2.2.2.1).c1))))))))
      refine hK.out _ _ ?_ (fun hHeld => ?_)
      · assumption
      clear hK K
      refine wpAnyH_ready (rs := [7]) (by kernel_rfl) (by simp) ?_
      refine AllReadyH.cons rfl (fun K hK => ?_) AllReadyH.nil
      go_simp
      go_wp2_with (have hx := H7; go_at_call 24; clear hx; refine (add_nu (H7.out.2.2.2.2.2.2.2.2.2.2.2.2.1.wide (m := 120) (by decide)) (H7.out.2.2.2.2.2.2.2.2.1.wide (m := 120) (by decide)) (by decide)).mono ?_; rintro e w16 ⟨⟨s16, p16, c16, D16, rfl, n16, k16, -⟩, B16⟩; have H8 := Lib.hid (And.intro (H7.out.1.below B16) (And.intro (H7.out.2.1.trans (B16.mono H7.out.2.1.size)) (And.intro (H7.out.2.2.1.below B16) (And.intro (H7.out.2.2.2.1.below B16) (And.intro (H7.out.2.2.2.2.1.below B16) (And.intro (H7.out.2.2.2.2.2.1.below B16) (And.intro (H7.out.2.2.2.2.2.2.1.below B16) (And.intro (H7.out.2.2.2.2.2.2.2.1.below B16) (And.intro (H7.out.2.2.2.2.2.2.2.2.1.below B16) (And.intro (H7.out.2.2.2.2.2.2.2.2.2.1.below B16) (And.intro (H7.out.2.2.2.2.2.2.2.2.2.2.1.below B16) (And.intro (H7.out.2.2.2.2.2.2.2.2.2.2.2.1.below B16) (And.intro (H7.out.2.2.2.2.2.2.2.2.2.2.2.2.1.below B16) (And.intro (H7.out.2.2.2.2.2.2.2.2.2.2.2.2.2.below B16) (And.intro n16 k16))))))))))))))); clear n16 k16 B16 H7; clear hSS15; have hSS16 := And.intro ((H8.out.2.2.1).c0) (And.intro ((H8.out.2.2.1).c1) (And.intro ((H8.out.2.2.2.1).c0) (And.intro ((H8.out.2.2.2.1).c1) (And.intro ((H8.out.2.2.2.2.2.2.2.2.2.2.1).c0) (And.intro ((H8.out.2.2.2.2.2.2.2.2.2.2.1).c1) (And.intro ((H8.out.2.2.2.2.2.2.2.2.2.2.2.1).c0) ((H8.out.2.2.2.2.2.2.2.2.2.2.2.1).c1))))))))
      refine hK.out _ _ ?_ (fun hHeld => ?_)
      · assumption
      clear hK K
      refine wpAnyH_ready (rs := [9]) (by kernel_rfl) (by simp) ?_
      refine AllReadyH.cons rfl (fun K hK => ?_) AllReadyH.nil
      go_simp
      go_wp2_with (have hx := H8; go_at_call 14; clear hx; refine (tidy_nu H8.out.2.2.2.2.1 (by decide)).mono ?_; rintro e w17 ⟨⟨s17, p17, c17, D17, rfl, n17, k17, -⟩, B17⟩; have H9 := Lib.hid (And.intro (H8.out.1.below B17) (And.intro (H8.out.2.1.trans (B17.mono H8.out.2.1.size)) (And.intro (H8.out.2.2.1.below B17) (And.intro (H8.out.2.2.2.1.below B17) (And.intro (H8.out.2.2.2.2.1.below B17) (And.intro (H8.out.2.2.2.2.2.1.below B17) (And.intro (H8.out.2.2.2.2.2.2.1.below B17) (And.intro (H8.out.2.2.2.2.2.2.2.1.below B17) (And.intro (H8.out.2.2.2.2.2.2.2.2.1.below B17) (And.intro (H8.out.2.2.2.2.2.2.2.2.2.1.below B17) (And.intro (H8.out.2.2.2.2.2.2.2.2.2.2.1.below B17) (And.intro (H8.out.2.2.2.2.2.2.2.2.2.2.2.1.below B17) (And.intro (H8.out.2.2.2.2.2.2.2.2.2.2.2.2.1.below B17) (And.intro (H8.out.2.2.2.2.2.2.2.2.2.2.2.2.2.1.below B17) (And.intro (H8.out.2.2.2.2.2.2.2.2.2.2.2.2.2.2.1.below B17) (And.intro (H8.out.2.2.2.2.2.2.2.2.2.2.2.2.2.2.2.below B17) (And.intro n17 k17))))))))))))))))); clear n17 k17 B17 H8; clear hSS16; have hSS17 := And.intro ((H9.out.2.2.1).c0) (And.intro ((H9.out.2.2.1).c1) (And.intro ((H9.out.2.2.2.1).c0) (And.intro ((H9.out.2.2.2.1).c1) (And.intro ((H9.out.2.2.2.2.2.2.2.2.2.2.1).c0) (And.intro ((H9.out.2.2.2.2.2.2.2.2.2.2.1).c1) (And.intro ((H9.out.2.2.2.2.2.2.2.2.2.2.2.1).c0) ((H9.out.2.2.2.2.2.2.2.2.2.2.2.1).c1))))))))
      refine hK.out _ _ ?_ (fun hHeld => ?_)
      · assumption
      clear hK K
      refine wpAnyH_ready (rs := [10]) (by kernel_rfl) (by simp) ?_
      refine AllReadyH.cons rfl (fun K hK => ?_) AllReadyH.nil
      go_simp
      go_wp2_with (have hx := H9; go_at_call 37; clear hx; refine (same_true H9.out.2.2.2.2.2.2.2.2.2.2.2.2.2.2.1.toNm H9.out.2.2.2.2.2.2.2.2.2.2.2.2.2.2.2.2.1.toNm H9.out.2.2.2.2.2.2.2.2.2.2.2.2.2.2.2.1 H9.out.2.2.2.2.2.2.2.2.2.2.2.2.2.2.2.2.2 (Int.tdiv_mul_add_tmod _ _)).mono ?_; rintro e w18 ⟨rfl, B18⟩; have H10 := Lib.hid (And.intro (H9.out.1.below B18) (And.intro (H9.out.2.1.trans (B18.mono H9.out.2.1.size)) (And.intro (H9.out.2.2.1.below B18) (And.intro (H9.out.2.2.2.1.below B18) (And.intro (H9.out.2.2.2.2.1.below B18) (And.intro (H9.out.2.2.2.2.2.1.below B18) (And.intro (H9.out.2.2.2.2.2.2.1.below B18) (And.intro (H9.out.2.2.2.2.2.2.2.1.below B18) (And.intro (H9.out.2.2.2.2.2.2.2.2.1.below B18) (And.intro (H9.out.2.2.2.2.2.2.2.2.2.1.below B18) (And.intro (H9.out.2.2.2.2.2.2.2.2.2.2.1.below B18) (And.intro (H9.out.2.2.2.2.2.2.2.2.2.2.2.1.below B18) (And.intro (H9.out.2.2.2.2.2.2.2.2.2.2.2.2.1.below B18) (And.intro (H9.out.2.2.2.2.2.2.2.2.2.2.2.2.2.1.below B18) (And.intro (H9.out.2.2.2.2.2.2.2.2.2.2.2.2.2.2.1.below B18) (And.intro (H9.out.2.2.2.2.2.2.2.2.2.2.2.2.2.2.2.1.below B18) (And.intro (H9.out.2.2.2.2.2.2.2.2.2.2.2.2.2.2.2.2.1.below B18) (H9.out.2.2.2.2.2.2.2.2.2.2.2.2.2.2.2.2.2.below B18)))))))))))))))))); clear B18 H9; clear hSS17; have hSS18 := And.intro ((H10.out.2.2.1).c0) (And.intro ((H10.out.2.2.1).c1) (And.intro ((H10.out.2.2.2.1).c0) (And.intro ((H10.out.2.2.2.1).c1) (And.intro ((H10.out.2.2.2.2.2.2.2.2.2.2.1).c0) (And.intro ((H10.out.2.2.2.2.2.2.2.2.2.2.1).c1) (And.intro ((H10.out.2.2.2.2.2.2.2.2.2.2.2.1).c0) ((H10.out.2.2.2.2.2.2.2.2.2.2.2.1).c1))))))))
      refine hK.out _ _ ?_ (fun hHeld => ?_)
      · assumption
      clear hK K
      refine wpAnyH_take (i := 11) (oi := { dst := some 51, op := Op.pick (Operand.tmp 42) (Operand.tmp 50) (Operand.const (Value.bool false)), type := 4, pos := "outright.go:96", after := #[{ on := 2, ground := Ground.data }, { on := 10, ground := Ground.data }], guard := none }) (v := ?_) rfl (by kernel_rfl) (by kernel_rfl) (by kernel_rfl) (fun _ _ _ h => h) (Or.inl ⟨by rfl, ?_⟩) (by assumption) ?_
      rotate_left
      · (intro w0 hSw; (try dsimp only at hSw); go_simp; (try with_reducible rfl))
      try simp only [Act.put, List.setIfInBounds_toArray, List.set_cons_zero, List.set_cons_succ]
      refine wpAnyH_take (i := 12) (oi := { dst := some 52, op := Op.move (Operand.tmp 51), type := 4, pos := "outright.go:96", after := #[{ on := 11, ground := Ground.data }, { on := 10, ground := Ground.chain }], guard := none }) (v := ?_) rfl (by kernel_rfl) (by kernel_rfl) (by kernel_rfl) (fun _ _ _ h => h) (Or.inl ⟨by rfl, ?_⟩) (by assumption) ?_
      rotate_left
      · (intro w0 hSw; (try dsimp only at hSw); go_simp; (try with_reducible rfl))
      try simp only [Act.put, List.setIfInBounds_toArray, List.set_cons_zero, List.set_cons_succ]
      refine wpAnyH_take (i := 13) (oi := { dst := some 53, op := Op.load 24 (Operand.tmp 6), type := 24, pos := "outright.go:96", after := #[{ on := 12, ground := Ground.guard }], guard := some (12, true) }) (v := ?_) rfl (by kernel_rfl) (by kernel_rfl) (by kernel_rfl) (fun _ _ _ h => h) (Or.inl ⟨by rfl, ?_⟩) (by assumption) ?_
      rotate_left
      · (intro w0 hSw; (try dsimp only at hSw); go_simp; (try with_reducible rfl))
      try simp only [Act.put, List.setIfInBounds_toArray, List.set_cons_zero, List.set_cons_succ]
      refine wpAnyH_take (i := 15) (oi := { dst := some 55, op := Op.load 24 (Operand.tmp 3), type := 24, pos := "outright.go:96", after := #[{ on := 12, ground := Ground.guard }], guard := some (12, true) }) (v := ?_) rfl (by kernel_rfl) (by kernel_rfl) (by kernel_rfl) (fun _ _ _ h => h) (Or.inl ⟨by rfl, ?_⟩) (by assumption) ?_
      rotate_left
      · (intro w0 hSw; (try dsimp only at hSw); go_simp; (try with_reducible rfl))
      try simp only [Act.put, List.setIfInBounds_toArray, List.set_cons_zero, List.set_cons_succ]
      refine wpAnyH_ready (rs := [14]) (by kernel_rfl) (by simp) ?_
      refine AllReadyH.cons rfl (fun K hK => ?_) AllReadyH.nil
      go_simp
      go_wp2_with (have hx := H10; go_at_call 38; clear hx; refine (positive_nu H10.out.2.2.2.2.2.2.2.2.1 (by decide)).mono ?_; rintro e w19 ⟨⟨s19, p19, c19, D19, rfl, n19, k19, -⟩, B19⟩; have H11 := Lib.hid (And.intro (H10.out.1.below B19) (And.intro (H10.out.2.1.trans (B19.mono H10.out.2.1.size)) (And.intro (H10.out.2.2.1.below B19) (And.intro (H10.out.2.2.2.1.below B19) (And.intro (H10.out.2.2.2.2.1.below B19) (And.intro (H10.out.2.2.2.2.2.1.below B19) (And.intro (H10.out.2.2.2.2.2.2.1.below B19) (And.intro (H10.out.2.2.2.2.2.2.2.1.below B19) (And.intro (H10.out.2.2.2.2.2.2.2.2.1.below B19) (And.intro (H10.out.2.2.2.2.2.2.2.2.2.1.below B19) (And.intro (H10.out.2.2.2.2.2.2.2.2.2.2.1.below B19) (And.intro (H10.out.2.2.2.2.2.2.2.2.2.2.2.1.below B19) (And.intro (H10.out.2.2.2.2.2.2.2.2.2.2.2.2.1.below B19) (And.intro (H10.out.2.2.2.2.2.2.2.2.2.2.2.2.2.1.below B19) (And.intro (H10.out.2.2.2.2.2.2.2.2.2.2.2.2.2.2.1.below B19) (And.intro (H10.out.2.2.2.2.2.2.2.2.2.2.2.2.2.2.2.1.below B19) (And.intro (H10.out.2.2.2.2.2.2.2.2.2.2.2.2.2.2.2.2.1.below B19) (And.intro (H10.out.2.2.2.2.2.2.2.2.2.2.2.2.2.2.2.2.2.below B19) (And.intro n19 k19))))))))))))))))))); clear n19 k19 B19 H10; clear hSS18; have hSS19 := And.intro ((H11.out.2.2.1).c0) (And.intro ((H11.out.2.2.1).c1) (And.intro ((H11.out.2.2.2.1).c0) (And.intro ((H11.out.2.2.2.1).c1) (And.intro ((H11.out.2.2.2.2.2.2.2.2.2.2.1).c0) (And.intro ((H11.out.2.2.2.2.2.2.2.2.2.2.1).c1) (And.intro ((H11.out.2.2.2.2.2.2.2.2.2.2.2.1).c0) ((H11.out.2.2.2.2.2.2.2.2.2.2.2.1).c1))))))))
      refine hK.out _ _ ?_ (fun hHeld => ?_)
      · assumption
      clear hK K
      refine wpAnyH_ready (rs := [16]) (by kernel_rfl) (by simp) ?_
      refine AllReadyH.cons rfl (fun K hK => ?_) AllReadyH.nil
      go_simp
      go_wp2_with (have hx := H11; go_at_call 38; clear hx; refine (positive_nu H11.out.2.2.2.2.2.1 (by decide)).mono ?_; rintro e w20 ⟨⟨s20, p20, c20, D20, rfl, n20, k20, -⟩, B20⟩; have H12 := Lib.hid (And.intro (H11.out.1.below B20) (And.intro (H11.out.2.1.trans (B20.mono H11.out.2.1.size)) (And.intro (H11.out.2.2.1.below B20) (And.intro (H11.out.2.2.2.1.below B20) (And.intro (H11.out.2.2.2.2.1.below B20) (And.intro (H11.out.2.2.2.2.2.1.below B20) (And.intro (H11.out.2.2.2.2.2.2.1.below B20) (And.intro (H11.out.2.2.2.2.2.2.2.1.below B20) (And.intro (H11.out.2.2.2.2.2.2.2.2.1.below B20) (And.intro (H11.out.2.2.2.2.2.2.2.2.2.1.below B20) (And.intro (H11.out.2.2.2.2.2.2.2.2.2.2.1.below B20) (And.intro (H11.out.2.2.2.2.2.2.2.2.2.2.2.1.below B20) (And.intro (H11.out.2.2.2.2.2.2.2.2.2.2.2.2.1.below B20) (And.intro (H11.out.2.2.2.2.2.2.2.2.2.2.2.2.2.1.below B20) (And.intro (H11.out.2.2.2.2.2.2.2.2.2.2.2.2.2.2.1.below B20) (And.intro (H11.out.2.2.2.2.2.2.2.2.2.2.2.2.2.2.2.1.below B20) (And.intro (H11.out.2.2.2.2.2.2.2.2.2.2.2.2.2.2.2.2.1.below B20) (And.intro (H11.out.2.2.2.2.2.2.2.2.2.2.2.2.2.2.2.2.2.1.below B20) (And.intro (H11.out.2.2.2.2.2.2.2.2.2.2.2.2.2.2.2.2.2.2.1.below B20) (And.intro (H11.out.2.2.2.2.2.2.2.2.2.2.2.2.2.2.2.2.2.2.2.below B20) (And.intro n20 k20))))))))))))))))))))); clear n20 k20 B20 H11; clear hSS19; have hSS20 := And.intro ((H12.out.2.2.1).c0) (And.intro ((H12.out.2.2.1).c1) (And.intro ((H12.out.2.2.2.1).c0) (And.intro ((H12.out.2.2.2.1).c1) (And.intro ((H12.out.2.2.2.2.2.2.2.2.2.2.1).c0) (And.intro ((H12.out.2.2.2.2.2.2.2.2.2.2.1).c1) (And.intro ((H12.out.2.2.2.2.2.2.2.2.2.2.2.1).c0) ((H12.out.2.2.2.2.2.2.2.2.2.2.2.1).c1))))))))
      refine hK.out _ _ ?_ (fun hHeld => ?_)
      · assumption
      clear hK K
      refine wpAnyH_ready (rs := [17]) (by kernel_rfl) (by simp) ?_
      refine AllReadyH.cons rfl (fun K hK => ?_) AllReadyH.nil
      go_simp
      go_wp2_with (have hx := H12; go_at_call 27; clear hx; refine (cmp_lit H12.out.2.2.2.2.2.2.2.2.2.2.2.2.2.2.2.2.2.2.1 H12.out.2.2.2.2.2.2.2.2.2.2.2.2.2.2.2.2.2.2.2.2.1 (by decide) (by decide) (a := -1) (rest_less HYN.out (abs_of H12.out.2.2.2.2.2.2.2.2.1.dig H12.out.2.2.2.2.2.2.2.2.1.val) (abs_of H12.out.2.2.2.2.2.1.dig H12.out.2.2.2.2.2.1.val))).mono ?_; rintro e w21 ⟨rfl, B21⟩; have H13 := Lib.hid (And.intro (H12.out.1.below B21) (And.intro (H12.out.2.1.trans (B21.mono H12.out.2.1.size)) (And.intro (H12.out.2.2.1.below B21) (And.intro (H12.out.2.2.2.1.below B21) (And.intro (H12.out.2.2.2.2.1.below B21) (And.intro (H12.out.2.2.2.2.2.1.below B21) (And.intro (H12.out.2.2.2.2.2.2.1.below B21) (And.intro (H12.out.2.2.2.2.2.2.2.1.below B21) (And.intro (H12.out.2.2.2.2.2.2.2.2.1.below B21) (And.intro (H12.out.2.2.2.2.2.2.2.2.2.1.below B21) (And.intro (H12.out.2.2.2.2.2.2.2.2.2.2.1.below B21) (And.intro (H12.out.2.2.2.2.2.2.2.2.2.2.2.1.below B21) (And.intro (H12.out.2.2.2.2.2.2.2.2.2.2.2.2.1.below B21) (And.intro (H12.out.2.2.2.2.2.2.2.2.2.2.2.2.2.1.below B21) (And.intro (H12.out.2.2.2.2.2.2.2.2.2.2.2.2.2.2.1.below B21) (And.intro (H12.out.2.2.2.2.2.2.2.2.2.2.2.2.2.2.2.1.below B21) (And.intro (H12.out.2.2.2.2.2.2.2.2.2.2.2.2.2.2.2.2.1.below B21) (And.intro (H12.out.2.2.2.2.2.2.2.2.2.2.2.2.2.2.2.2.2.1.below B21) (And.intro (H12.out.2.2.2.2.2.2.2.2.2.2.2.2.2.2.2.2.2.2.1.below B21) (And.intro (H12.out.2.2.2.2.2.2.2.2.2.2.2.2.2.2.2.2.2.2.2.1.below B21) (And.intro (H12.out.2.2.2.2.2.2.2.2.2.2.2.2.2.2.2.2.2.2.2.2.1.below B21) (H12.out.2.2.2.2.2.2.2.2.2.2.2.2.2.2.2.2.2.2.2.2.2.below B21)))))))))))))))))))))); clear B21 H12; clear hSS20; have hSS21 := And.intro ((H13.out.2.2.1).c0) (And.intro ((H13.out.2.2.1).c1) (And.intro ((H13.out.2.2.2.1).c0) (And.intro ((H13.out.2.2.2.1).c1) (And.intro ((H13.out.2.2.2.2.2.2.2.2.2.2.1).c0) (And.intro ((H13.out.2.2.2.2.2.2.2.2.2.2.1).c1) (And.intro ((H13.out.2.2.2.2.2.2.2.2.2.2.2.1).c0) ((H13.out.2.2.2.2.2.2.2.2.2.2.2.1).c1))))))))
      refine hK.out _ _ ?_ (fun hHeld => ?_)
      · assumption
      clear hK K
      refine wpAnyH_take (i := 18) (oi := { dst := some 58, op := Op.binOp BinOp.lss 3 (Operand.tmp 57) (Operand.const (Value.int IntKind.i64 0)) 3, type := 4, pos := "outright.go:96", after := #[{ on := 17, ground := Ground.data }, { on := 12, ground := Ground.guard }], guard := some (12, true) }) (v := ?_) rfl (by kernel_rfl) (by kernel_rfl) (by kernel_rfl) (fun _ _ _ h => h) (Or.inl ⟨by rfl, ?_⟩) (by assumption) ?_
      rotate_left
      · (intro w0 hSw; (try dsimp only at hSw); go_simp; (try with_reducible rfl))
      try simp only [Act.put, List.setIfInBounds_toArray, List.set_cons_zero, List.set_cons_succ]
      refine wpAnyH_take (i := 19) (oi := { dst := some 59, op := Op.pick (Operand.tmp 52) (Operand.tmp 58) (Operand.const (Value.bool false)), type := 4, pos := "outright.go:96", after := #[{ on := 12, ground := Ground.data }, { on := 18, ground := Ground.data }], guard := none }) (v := ?_) rfl (by kernel_rfl) (by kernel_rfl) (by kernel_rfl) (fun _ _ _ h => h) (Or.inl ⟨by rfl, ?_⟩) (by assumption) ?_
      rotate_left
      · (intro w0 hSw; (try dsimp only at hSw); go_simp; (try with_reducible rfl))
      try simp only [Act.put, List.setIfInBounds_toArray, List.set_cons_zero, List.set_cons_succ]
      refine wpAnyH_take (i := 20) (oi := { dst := some 60, op := Op.move (Operand.tmp 59), type := 4, pos := "outright.go:96", after := #[{ on := 19, ground := Ground.data }, { on := 17, ground := Ground.chain }], guard := none }) (v := ?_) rfl (by kernel_rfl) (by kernel_rfl) (by kernel_rfl) (fun _ _ _ h => h) (Or.inl ⟨by rfl, ?_⟩) (by assumption) ?_
      rotate_left
      · (intro w0 hSw; (try dsimp only at hSw); go_simp; (try with_reducible rfl))
      try simp only [Act.put, List.setIfInBounds_toArray, List.set_cons_zero, List.set_cons_succ]
      refine wpAnyH_take (i := 21) (oi := { dst := some 61, op := Op.fieldAddr 24 (Operand.tmp 6) 1, type := 0, pos := "outright.go:96", after := #[{ on := 20, ground := Ground.guard }], guard := some (20, true) }) (v := ?_) rfl (by kernel_rfl) (by kernel_rfl) (by kernel_rfl) (fun _ _ _ h => h) (Or.inl ⟨by rfl, ?_⟩) (by assumption) ?_
      rotate_left
      · (intro w0 hSw; (try dsimp only at hSw); go_simp; (try with_reducible rfl))
      try simp only [Act.put, List.setIfInBounds_toArray, List.set_cons_zero, List.set_cons_succ]
      refine wpAnyH_take (i := 22) (oi := { dst := some 62, op := Op.load 22 (Operand.tmp 61), type := 22, pos := "outright.go:96", after := #[{ on := 21, ground := Ground.data }, { on := 20, ground := Ground.guard }], guard := some (20, true) }) (v := ?_) rfl (by kernel_rfl) (by kernel_rfl) (by kernel_rfl) (fun _ _ _ h => h) (Or.inl ⟨by rfl, ?_⟩) (by assumption) ?_
      rotate_left
      · (intro w0 hSw; (try dsimp only at hSw); go_simp; (try with_reducible rfl))
      try simp only [Act.put, List.setIfInBounds_toArray, List.set_cons_zero, List.set_cons_succ]
      refine wpAnyH_take (i := 23) (oi := { dst := some 63, op := Op.call { callee := Callee.builtin Builtin.len, args := #[Operand.tmp 62], argTypes := #[22] }, type := 3, pos := "outright.go:96", after := #[{ on := 22, ground := Ground.data }, { on := 20, ground := Ground.guard }], guard := some (20, true) }) (v := ?_) rfl (by kernel_rfl) (by kernel_rfl) (by kernel_rfl) (fun _ _ _ h => h) (Or.inl ⟨by rfl, ?_⟩) (by assumption) ?_
      rotate_left
      · (intro w0 hSw; (try dsimp only at hSw); go_simp; (try with_reducible rfl))
      try simp only [Act.put, List.setIfInBounds_toArray, List.set_cons_zero, List.set_cons_succ]
      refine wpAnyH_take (i := 24) (oi := { dst := some 64, op := Op.binOp BinOp.eql 3 (Operand.tmp 63) (Operand.const (Value.int IntKind.i64 0)) 3, type := 4, pos := "outright.go:96", after := #[{ on := 23, ground := Ground.data }, { on := 20, ground := Ground.guard }], guard := some (20, true) }) (v := ?_) rfl (by kernel_rfl) (by kernel_rfl) (by kernel_rfl) (fun _ _ _ h => h) (Or.inl ⟨by rfl, ?_⟩) (by assumption) ?_
      rotate_left
      · (intro w0 hSw; (try dsimp only at hSw); go_simp; (try with_reducible rfl))
      try simp only [Act.put, List.setIfInBounds_toArray, List.set_cons_zero, List.set_cons_succ]
      refine wpAnyH_take (i := 25) (oi := { dst := some 65, op := Op.move (Operand.tmp 64), type := 4, pos := "outright.go:96", after := #[{ on := 24, ground := Ground.data }, { on := 20, ground := Ground.chain }, { on := 20, ground := Ground.guard }], guard := some (20, true) }) (v := ?_) rfl (by kernel_rfl) (by kernel_rfl) (by kernel_rfl) (fun _ _ _ h => h) (Or.inl ⟨by rfl, ?_⟩) (by assumption) ?_
      rotate_left
      · (intro w0 hSw; (try dsimp only at hSw); go_simp; (try with_reducible rfl))
      try simp only [Act.put, List.setIfInBounds_toArray, List.set_cons_zero, List.set_cons_succ]
      refine wpAnyH_take (i := 26) (oi := { dst := some 66, op := Op.fieldAddr 24 (Operand.tmp 6) 0, type := 0, pos := "outright.go:96", after := #[{ on := 25, ground := Ground.guard }], guard := some (25, false) }) (v := undef) rfl (by kernel_rfl) (by kernel_rfl) (by kernel_rfl) (fun _ _ _ h => h) (Or.inr ⟨by rfl, rfl⟩) (by assumption) ?_
      try simp only [Act.put, List.setIfInBounds_toArray, List.set_cons_zero, List.set_cons_succ]
      refine wpAnyH_take (i := 27) (oi := { dst := some 67, op := Op.load 4 (Operand.tmp 66), type := 4, pos := "outright.go:96", after := #[{ on := 26, ground := Ground.data }, { on := 25, ground := Ground.guard }], guard := some (25, false) }) (v := undef) rfl (by kernel_rfl) (by kernel_rfl) (by kernel_rfl) (fun _ _ _ h => h) (Or.inr ⟨by rfl, rfl⟩) (by assumption) ?_
      try simp only [Act.put, List.setIfInBounds_toArray, List.set_cons_zero, List.set_cons_succ]
      refine wpAnyH_take (i := 28) (oi := { dst := some 68, op := Op.fieldAddr 24 (Operand.tmp 2) 0, type := 0, pos := "outright.go:96", after := #[{ on := 25, ground := Ground.guard }], guard := some (25, false) }) (v := undef) rfl (by kernel_rfl) (by kernel_rfl) (by kernel_rfl) (fun _ _ _ h => h) (Or.inr ⟨by rfl, rfl⟩) (by assumption) ?_
      try simp only [Act.put, List.setIfInBounds_toArray, List.set_cons_zero, List.set_cons_succ]
      refine wpAnyH_take (i := 29) (oi := { dst := some 69, op := Op.load 4 (Operand.tmp 68), type := 4, pos := "outright.go:96", after := #[{ on := 28, ground := Ground.data }, { on := 25, ground := Ground.guard }], guard := some (25, false) }) (v := undef) rfl (by kernel_rfl) (by kernel_rfl) (by kernel_rfl) (fun _ _ _ h => h) (Or.inr ⟨by rfl, rfl⟩) (by assumption) ?_
      try simp only [Act.put, List.setIfInBounds_toArray, List.set_cons_zero, List.set_cons_succ]
      refine wpAnyH_take (i := 30) (oi := { dst := some 70, op := Op.binOp BinOp.eql 4 (Operand.tmp 67) (Operand.tmp 69) 4, type := 4, pos := "outright.go:96", after := #[{ on := 27, ground := Ground.data }, { on := 29, ground := Ground.data }, { on := 25, ground := Ground.guard }], guard := some (25, false) }) (v := undef) rfl (by kernel_rfl) (by kernel_rfl) (by kernel_rfl) (fun _ _ _ h => h) (Or.inr ⟨by rfl, rfl⟩) (by assumption) ?_
      try simp only [Act.put, List.setIfInBounds_toArray, List.set_cons_zero, List.set_cons_succ]
      refine wpAnyH_take (i := 31) (oi := { dst := some 71, op := Op.pick (Operand.tmp 65) (Operand.const (Value.bool true)) (Operand.tmp 70), type := 4, pos := "outright.go:96", after := #[{ on := 25, ground := Ground.data }, { on := 30, ground := Ground.data }, { on := 20, ground := Ground.guard }], guard := some (20, true) }) (v := ?_) rfl (by kernel_rfl) (by kernel_rfl) (by kernel_rfl) (fun _ _ _ h => h) (Or.inl ⟨by rfl, ?_⟩) (by assumption) ?_
      rotate_left
      · (intro w0 hSw; (try dsimp only at hSw); go_simp; (try with_reducible rfl))
      try simp only [Act.put, List.setIfInBounds_toArray, List.set_cons_zero, List.set_cons_succ]
      refine wpAnyH_take (i := 32) (oi := { dst := some 72, op := Op.pick (Operand.tmp 60) (Operand.tmp 71) (Operand.const (Value.bool false)), type := 4, pos := "outright.go:96", after := #[{ on := 20, ground := Ground.data }, { on := 31, ground := Ground.data }], guard := none }) (v := ?_) rfl (by kernel_rfl) (by kernel_rfl) (by kernel_rfl) (fun _ _ _ h => h) (Or.inl ⟨by rfl, ?_⟩) (by assumption) ?_
      rotate_left
      · (intro w0 hSw; (try dsimp only at hSw); go_simp; (try with_reducible rfl))
      try simp only [Act.put, List.setIfInBounds_toArray, List.set_cons_zero, List.set_cons_succ]
      refine wpAnyH_take (i := 33) (oi := { dst := some 73, op := Op.move (Operand.tmp 72), type := 4, pos := "outright.go:96", after := #[{ on := 32, ground := Ground.data }, { on := 25, ground := Ground.chain }], guard := none }) (v := ?_) rfl (by kernel_rfl) (by kernel_rfl) (by kernel_rfl) (fun _ _ _ h => h) (Or.inl ⟨by rfl, ?_⟩) (by assumption) ?_
      rotate_left
      · (intro w0 hSw; (try dsimp only at hSw); go_simp; (try with_reducible rfl))
      try simp only [Act.put, List.setIfInBounds_toArray, List.set_cons_zero, List.set_cons_succ]
      refine wpAnyH_ready (rs := [34]) (by kernel_rfl) (by simp) ?_
      refine AllReadyH.cons rfl (fun K hK => ?_) AllReadyH.nil
      go_simp
      go_wp2_with (have hx := H13; go_at_call 11; clear hx; refine (awake_at H13.out.1).mono ?_; rintro e w22 ⟨rfl, B22⟩; have H14 := Lib.hid (And.intro (H13.out.1.below B22) (And.intro (H13.out.2.1.trans (B22.mono H13.out.2.1.size)) (And.intro (H13.out.2.2.1.below B22) (And.intro (H13.out.2.2.2.1.below B22) (And.intro (H13.out.2.2.2.2.1.below B22) (And.intro (H13.out.2.2.2.2.2.1.below B22) (And.intro (H13.out.2.2.2.2.2.2.1.below B22) (And.intro (H13.out.2.2.2.2.2.2.2.1.below B22) (And.intro (H13.out.2.2.2.2.2.2.2.2.1.below B22) (And.intro (H13.out.2.2.2.2.2.2.2.2.2.1.below B22) (And.intro (H13.out.2.2.2.2.2.2.2.2.2.2.1.below B22) (And.intro (H13.out.2.2.2.2.2.2.2.2.2.2.2.1.below B22) (And.intro (H13.out.2.2.2.2.2.2.2.2.2.2.2.2.1.below B22) (And.intro (H13.out.2.2.2.2.2.2.2.2.2.2.2.2.2.1.below B22) (And.intro (H13.out.2.2.2.2.2.2.2.2.2.2.2.2.2.2.1.below B22) (And.intro (H13.out.2.2.2.2.2.2.2.2.2.2.2.2.2.2.2.1.below B22) (And.intro (H13.out.2.2.2.2.2.2.2.2.2.2.2.2.2.2.2.2.1.below B22) (And.intro (H13.out.2.2.2.2.2.2.2.2.2.2.2.2.2.2.2.2.2.1.below B22) (And.intro (H13.out.2.2.2.2.2.2.2.2.2.2.2.2.2.2.2.2.2.2.1.below B22) (And.intro (H13.out.2.2.2.2.2.2.2.2.2.2.2.2.2.2.2.2.2.2.2.1.below B22) (And.intro (H13.out.2.2.2.2.2.2.2.2.2.2.2.2.2.2.2.2.2.2.2.2.1.below B22) (H13.out.2.2.2.2.2.2.2.2.2.2.2.2.2.2.2.2.2.2.2.2.2.below B22)))))))))))))))))))))); clear B22 H13; clear hSS21; have hSS22 := And.intro ((H14.out.2.2.1).c0) (And.intro ((H14.out.2.2.1).c1) (And.intro ((H14.out.2.2.2.1).c0) (And.intro ((H14.out.2.2.2.1).c1) (And.intro ((H14.out.2.2.2.2.2.2.2.2.2.2.1).c0) (And.intro ((H14.out.2.2.2.2.2.2.2.2.2.2.1).c1) (And.intro ((H14.out.2.2.2.2.2.2.2.2.2.2.2.1).c0) ((H14.out.2.2.2.2.2.2.2.2.2.2.2.1).c1))))))))
      refine hK.out _ _ ?_ (fun hHeld => ?_)
      · assumption
      clear hK K
      refine wpAnyH_take (i := 35) (oi := { dst := some 75, op := Op.pick (Operand.tmp 73) (Operand.tmp 74) (Operand.const (Value.bool false)), type := 4, pos := "outright.go:96", after := #[{ on := 33, ground := Ground.data }, { on := 34, ground := Ground.data }], guard := none }) (v := ?_) rfl (by kernel_rfl) (by kernel_rfl) (by kernel_rfl) (fun _ _ _ h => h) (Or.inl ⟨by rfl, ?_⟩) (by assumption) ?_
      rotate_left
      · (intro w0 hSw; (try dsimp only at hSw); go_simp; (try with_reducible rfl))
      try simp only [Act.put, List.setIfInBounds_toArray, List.set_cons_zero, List.set_cons_succ]
      refine wpAnyH_take (i := 36) (oi := { dst := some 4, op := Op.assign (Operand.tmp 75), type := 4, pos := "outright.go:96", after := #[{ on := 35, ground := Ground.data }, { on := 34, ground := Ground.chain }, { on := 0, ground := Ground.phase }, { on := 1, ground := Ground.phase }, { on := 2, ground := Ground.phase }, { on := 3, ground := Ground.phase }, { on := 4, ground := Ground.phase }, { on := 5, ground := Ground.phase }, { on := 6, ground := Ground.phase }, { on := 7, ground := Ground.phase }, { on := 8, ground := Ground.phase }, { on := 9, ground := Ground.phase }, { on := 10, ground := Ground.phase }, { on := 11, ground := Ground.phase }, { on := 12, ground := Ground.phase }, { on := 13, ground := Ground.phase }, { on := 14, ground := Ground.phase }, { on := 15, ground := Ground.phase }, { on := 16, ground := Ground.phase }, { on := 17, ground := Ground.phase }, { on := 18, ground := Ground.phase }, { on := 19, ground := Ground.phase }, { on := 20, ground := Ground.phase }, { on := 21, ground := Ground.phase }, { on := 22, ground := Ground.phase }, { on := 23, ground := Ground.phase }, { on := 24, ground := Ground.phase }, { on := 25, ground := Ground.phase }, { on := 26, ground := Ground.phase }, { on := 27, ground := Ground.phase }, { on := 28, ground := Ground.phase }, { on := 29, ground := Ground.phase }, { on := 30, ground := Ground.phase }, { on := 31, ground := Ground.phase }, { on := 32, ground := Ground.phase }, { on := 33, ground := Ground.phase }, { on := 34, ground := Ground.phase }, { on := 35, ground := Ground.phase }], guard := none }) (v := ?_) rfl (by kernel_rfl) (by kernel_rfl) (by kernel_rfl) (fun _ _ _ h => h) (Or.inl ⟨by rfl, ?_⟩) (by assumption) ?_
      rotate_left
      · (intro w0 hSw; (try dsimp only at hSw); go_simp; (try with_reducible rfl))
      try simp only [Act.put, List.setIfInBounds_toArray, List.set_cons_zero, List.set_cons_succ]
      refine wpAnyH_done (by kernel_rfl) (NoPanic.normal ?_) _
      clear hSS22
      all_goals (go_wp2_with fail; go_ret; exact ⟨rfl, H14.out.2.1⟩)
    · have e2 : ¬ E11.length = 0 := fun e => hr ((can_zero H5.out.2.2.2.2.2.2.2.2.2.1 H5.out.2.2.2.2.2.2.2.2.1.val).1 e)
      have e1 : s1 = t11 := (rest_sign H5.out.2.2.2.2.2.2.2.2.2.1 H5.out.2.2.2.2.2.2.2.2.1.val H5.out.2.2.2.2.1.dig H5.out.2.2.2.2.1.val (by omega)).symm
      subst e1
      have q1 : decide ((E11.length : Int) = 0) = false := by rw [decide_eq_false_iff_not]; omega
      have q2 : ((E11.length : Int) == 0) = false := q1
      clear hr
      have B14 : Below w13.heap.size w13 w13.drew := (Below.refl _ _).drew
      have H6 := Lib.hid (And.intro (H5.out.1.below B14) (And.intro (H5.out.2.1.trans (B14.mono H5.out.2.1.size)) (And.intro (H5.out.2.2.1.below B14) (And.intro (H5.out.2.2.2.1.below B14) (And.intro (H5.out.2.2.2.2.1.below B14) (And.intro (H5.out.2.2.2.2.2.1.below B14) (And.intro (H5.out.2.2.2.2.2.2.1.below B14) (And.intro (H5.out.2.2.2.2.2.2.2.1.below B14) (And.intro (H5.out.2.2.2.2.2.2.2.2.1.below B14) (And.intro (H5.out.2.2.2.2.2.2.2.2.2.1.below B14) (And.intro (H5.out.2.2.2.2.2.2.2.2.2.2.1.below B14) (H5.out.2.2.2.2.2.2.2.2.2.2.2.below B14))))))))))))
      clear B14
      have hSS : w13.drew.cell? ⟨w.heap.size, 0, none⟩ = some (.bool s1) ∧ w13.drew.cell? ⟨w.heap.size, 1, none⟩ = some (.slice p1 l1.length c1) ∧ w13.drew.cell? ⟨w.heap.size + 1, 0, none⟩ = some (.bool s2) ∧ w13.drew.cell? ⟨w.heap.size + 1, 1, none⟩ = some (.slice p2 l2.length c2) ∧ w13.drew.cell? ⟨w11.heap.size, 0, none⟩ = some (.bool s11) ∧ w13.drew.cell? ⟨w11.heap.size, 1, none⟩ = some (.slice p11 D11.length c11) ∧ w13.drew.cell? ⟨w11.heap.size + 1, 0, none⟩ = some (.bool s1) ∧ w13.drew.cell? ⟨w11.heap.size + 1, 1, none⟩ = some (.slice q11 E11.length d11) := And.intro ((H6.out.2.2.1).c0) (And.intro ((H6.out.2.2.1).c1) (And.intro ((H6.out.2.2.2.1).c0) (And.intro ((H6.out.2.2.2.1).c1) (And.intro ((H6.out.2.2.2.2.2.2.2.2.2.2.1).c0) (And.intro ((H6.out.2.2.2.2.2.2.2.2.2.2.1).c1) (And.intro ((H6.out.2.2.2.2.2.2.2.2.2.2.2).c0) ((H6.out.2.2.2.2.2.2.2.2.2.2.2).c1)))))))
      refine wp_region_noPanic ?_
      refine wp_region_held_drew (S := fun w' => w'.cell? ⟨w.heap.size, 0, none⟩ = some (.bool s1) ∧ w'.cell? ⟨w.heap.size, 1, none⟩ = some (.slice p1 l1.length c1) ∧ w'.cell? ⟨w.heap.size + 1, 0, none⟩ = some (.bool s2) ∧ w'.cell? ⟨w.heap.size + 1, 1, none⟩ = some (.slice p2 l2.length c2) ∧ w'.cell? ⟨w11.heap.size, 0, none⟩ = some (.bool s11) ∧ w'.cell? ⟨w11.heap.size, 1, none⟩ = some (.slice p11 D11.length c11) ∧ w'.cell? ⟨w11.heap.size + 1, 0, none⟩ = some (.bool s1) ∧ w'.cell? ⟨w11.heap.size + 1, 1, none⟩ = some (.slice q11 E11.length d11)) (by kernel_rfl) hSS (fun hHeld => ?_)
      refine wpAnyH_take (i := 0) (oi := { dst := some 40, op := Op.move (Operand.tmp 7), type := 42, pos := "outright.go:96", after := #[], guard := none }) (v := ?_) rfl (by kernel_rfl) (by kernel_rfl) (by kernel_rfl) (fun _ _ _ h => h) (Or.inl ⟨by rfl, ?_⟩) (by assumption) ?_
      rotate_left
      · (intro w0 hSw; (try dsimp only at hSw); go_simp; (try with_reducible rfl))
      try simp only [Act.put, List.setIfInBounds_toArray, List.set_cons_zero, List.set_cons_succ]
      refine wpAnyH_take (i := 1) (oi := { dst := some 41, op := Op.binOp BinOp.eql 42 (Operand.tmp 40) (Operand.const (Value.int IntKind.i64 0)) 42, type := 4, pos := "outright.go:96", after := #[{ on := 0, ground := Ground.data }], guard := none }) (v := ?_) rfl (by kernel_rfl) (by kernel_rfl) (by kernel_rfl) (fun _ _ _ h => h) (Or.inl ⟨by rfl, ?_⟩) (by assumption) ?_
      rotate_left
      · (intro w0 hSw; (try dsimp only at hSw); go_simp; (try with_reducible rfl))
      try simp only [Act.put, List.setIfInBounds_toArray, List.set_cons_zero, List.set_cons_succ]
      refine wpAnyH_take (i := 2) (oi := { dst := some 42, op := Op.move (Operand.tmp 41), type := 4, pos := "outright.go:96", after := #[{ on := 1, ground := Ground.data }], guard := none }) (v := ?_) rfl (by kernel_rfl) (by kernel_rfl) (by kernel_rfl) (fun _ _ _ h => h) (Or.inl ⟨by rfl, ?_⟩) (by assumption) ?_
      rotate_left
      · (intro w0 hSw; (try dsimp only at hSw); go_simp; (try with_reducible rfl))
      try simp only [Act.put, List.setIfInBounds_toArray, List.set_cons_zero, List.set_cons_succ]
      refine wpAnyH_take (i := 3) (oi := { dst := some 43, op := Op.load 24 (Operand.tmp 5), type := 24, pos := "outright.go:96", after := #[{ on := 2, ground := Ground.guard }], guard := some (2, true) }) (v := ?_) rfl (by kernel_rfl) (by kernel_rfl) (by kernel_rfl) (fun _ _ _ h => h) (Or.inl ⟨by rfl, ?_⟩) (by assumption) ?_
      rotate_left
      · (intro w0 hSw; (try dsimp only at hSw); go_simp; (try with_reducible rfl))
      try simp only [Act.put, List.setIfInBounds_toArray, List.set_cons_zero, List.set_cons_succ]
      refine wpAnyH_take (i := 4) (oi := { dst := some 44, op := Op.load 24 (Operand.tmp 3), type := 24, pos := "outright.go:96", after := #[{ on := 2, ground := Ground.guard }], guard := some (2, true) }) (v := ?_) rfl (by kernel_rfl) (by kernel_rfl) (by kernel_rfl) (fun _ _ _ h => h) (Or.inl ⟨by rfl, ?_⟩) (by assumption) ?_
      rotate_left
      · (intro w0 hSw; (try dsimp only at hSw); go_simp; (try with_reducible rfl))
      try simp only [Act.put, List.setIfInBounds_toArray, List.set_cons_zero, List.set_cons_succ]
      refine wpAnyH_take (i := 6) (oi := { dst := some 46, op := Op.load 24 (Operand.tmp 6), type := 24, pos := "outright.go:96", after := #[{ on := 2, ground := Ground.guard }], guard := some (2, true) }) (v := ?_) rfl (by kernel_rfl) (by kernel_rfl) (by kernel_rfl) (fun _ _ _ h => h) (Or.inl ⟨by rfl, ?_⟩) (by assumption) ?_
      rotate_left
      · (intro w0 hSw; (try dsimp only at hSw); go_simp; (try with_reducible rfl))
      try simp only [Act.put, List.setIfInBounds_toArray, List.set_cons_zero, List.set_cons_succ]
      refine wpAnyH_take (i := 8) (oi := { dst := some 48, op := Op.load 24 (Operand.tmp 2), type := 24, pos := "outright.go:96", after := #[{ on := 2, ground := Ground.guard }], guard := some (2, true) }) (v := ?_) rfl (by kernel_rfl) (by kernel_rfl) (by kernel_rfl) (fun _ _ _ h => h) (Or.inl ⟨by rfl, ?_⟩) (by assumption) ?_
      rotate_left
      · (intro w0 hSw; (try dsimp only at hSw); go_simp; (try with_reducible rfl))
      try simp only [Act.put, List.setIfInBounds_toArray, List.set_cons_zero, List.set_cons_succ]
      refine wpAnyH_ready (rs := [5]) (by kernel_rfl) (by simp) ?_
      refine AllReadyH.cons rfl (fun K hK => ?_) AllReadyH.nil
      go_simp
      go_wp2_with (have hx := H6; go_at_call 26; clear hx; refine (mul_nu H6.out.2.2.2.2.2.2.1 H6.out.2.2.2.2.2.1 (by decide) (by decide)).mono ?_; rintro e w15 ⟨⟨s15, p15, c15, D15, rfl, n15, k15, -⟩, B15⟩; have H7 := Lib.hid (And.intro (H6.out.1.below B15) (And.intro (H6.out.2.1.trans (B15.mono H6.out.2.1.size)) (And.intro (H6.out.2.2.1.below B15) (And.intro (H6.out.2.2.2.1.below B15) (And.intro (H6.out.2.2.2.2.1.below B15) (And.intro (H6.out.2.2.2.2.2.1.below B15) (And.intro (H6.out.2.2.2.2.2.2.1.below B15) (And.intro (H6.out.2.2.2.2.2.2.2.1.below B15) (And.intro (H6.out.2.2.2.2.2.2.2.2.1.below B15) (And.intro (H6.out.2.2.2.2.2.2.2.2.2.1.below B15) (And.intro (H6.out.2.2.2.2.2.2.2.2.2.2.1.below B15) (And.intro (H6.out.2.2.2.2.2.2.2.2.2.2.2.below B15) (And.intro n15 k15))))))))))))); clear n15 k15 B15 H6; clear hSS; have hSS15 := And.intro ((H7.out.2.2.1).c0) (And.intro ((H7.out.2.2.1).c1) (And.intro ((H7.out.2.2.2.1).c0) (And.intro ((H7.out.2.2.2.1).c1) (And.intro ((H7.out.2.2.2.2.2.2.2.2.2.2.1).c0) (And.intro ((H7.out.2.2.2.2.2.2.2.2.2.2.1).c1) (And.intro ((H7.out.2.2.2.2.2.2.2.2.2.2.2.1).c0) ((H7.out.2.2.2.2.2.2.2.2.2.2.2.1).c1))))))))
      refine hK.out _ _ ?_ (fun hHeld => ?_)
      · assumption
      clear hK K
      refine wpAnyH_ready (rs := [7]) (by kernel_rfl) (by simp) ?_
      refine AllReadyH.cons rfl (fun K hK => ?_) AllReadyH.nil
      go_simp
      go_wp2_with (have hx := H7; go_at_call 24; clear hx; refine (add_nu (H7.out.2.2.2.2.2.2.2.2.2.2.2.2.1.wide (m := 120) (by decide)) (H7.out.2.2.2.2.2.2.2.2.1.wide (m := 120) (by decide)) (by decide)).mono ?_; rintro e w16 ⟨⟨s16, p16, c16, D16, rfl, n16, k16, -⟩, B16⟩; have H8 := Lib.hid (And.intro (H7.out.1.below B16) (And.intro (H7.out.2.1.trans (B16.mono H7.out.2.1.size)) (And.intro (H7.out.2.2.1.below B16) (And.intro (H7.out.2.2.2.1.below B16) (And.intro (H7.out.2.2.2.2.1.below B16) (And.intro (H7.out.2.2.2.2.2.1.below B16) (And.intro (H7.out.2.2.2.2.2.2.1.below B16) (And.intro (H7.out.2.2.2.2.2.2.2.1.below B16) (And.intro (H7.out.2.2.2.2.2.2.2.2.1.below B16) (And.intro (H7.out.2.2.2.2.2.2.2.2.2.1.below B16) (And.intro (H7.out.2.2.2.2.2.2.2.2.2.2.1.below B16) (And.intro (H7.out.2.2.2.2.2.2.2.2.2.2.2.1.below B16) (And.intro (H7.out.2.2.2.2.2.2.2.2.2.2.2.2.1.below B16) (And.intro (H7.out.2.2.2.2.2.2.2.2.2.2.2.2.2.below B16) (And.intro n16 k16))))))))))))))); clear n16 k16 B16 H7; clear hSS15; have hSS16 := And.intro ((H8.out.2.2.1).c0) (And.intro ((H8.out.2.2.1).c1) (And.intro ((H8.out.2.2.2.1).c0) (And.intro ((H8.out.2.2.2.1).c1) (And.intro ((H8.out.2.2.2.2.2.2.2.2.2.2.1).c0) (And.intro ((H8.out.2.2.2.2.2.2.2.2.2.2.1).c1) (And.intro ((H8.out.2.2.2.2.2.2.2.2.2.2.2.1).c0) ((H8.out.2.2.2.2.2.2.2.2.2.2.2.1).c1))))))))
      refine hK.out _ _ ?_ (fun hHeld => ?_)
      · assumption
      clear hK K
      refine wpAnyH_ready (rs := [9]) (by kernel_rfl) (by simp) ?_
      refine AllReadyH.cons rfl (fun K hK => ?_) AllReadyH.nil
      go_simp
      go_wp2_with (have hx := H8; go_at_call 14; clear hx; refine (tidy_nu H8.out.2.2.2.2.1 (by decide)).mono ?_; rintro e w17 ⟨⟨s17, p17, c17, D17, rfl, n17, k17, -⟩, B17⟩; have H9 := Lib.hid (And.intro (H8.out.1.below B17) (And.intro (H8.out.2.1.trans (B17.mono H8.out.2.1.size)) (And.intro (H8.out.2.2.1.below B17) (And.intro (H8.out.2.2.2.1.below B17) (And.intro (H8.out.2.2.2.2.1.below B17) (And.intro (H8.out.2.2.2.2.2.1.below B17) (And.intro (H8.out.2.2.2.2.2.2.1.below B17) (And.intro (H8.out.2.2.2.2.2.2.2.1.below B17) (And.intro (H8.out.2.2.2.2.2.2.2.2.1.below B17) (And.intro (H8.out.2.2.2.2.2.2.2.2.2.1.below B17) (And.intro (H8.out.2.2.2.2.2.2.2.2.2.2.1.below B17) (And.intro (H8.out.2.2.2.2.2.2.2.2.2.2.2.1.below B17) (And.intro (H8.out.2.2.2.2.2.2.2.2.2.2.2.2.1.below B17) (And.intro (H8.out.2.2.2.2.2.2.2.2.2.2.2.2.2.1.below B17) (And.intro (H8.out.2.2.2.2.2.2.2.2.2.2.2.2.2.2.1.below B17) (And.intro (H8.out.2.2.2.2.2.2.2.2.2.2.2.2.2.2.2.below B17) (And.intro n17 k17))))))))))))))))); clear n17 k17 B17 H8; clear hSS16; have hSS17 := And.intro ((H9.out.2.2.1).c0) (And.intro ((H9.out.2.2.1).c1) (And.intro ((H9.out.2.2.2.1).c0) (And.intro ((H9.out.2.2.2.1).c1) (And.intro ((H9.out.2.2.2.2.2.2.2.2.2.2.1).c0) (And.intro ((H9.out.2.2.2.2.2.2.2.2.2.2.1).c1) (And.intro ((H9.out.2.2.2.2.2.2.2.2.2.2.2.1).c0) ((H9.out.2.2.2.2.2.2.2.2.2.2.2.1).c1))))))))
      refine hK.out _ _ ?_ (fun hHeld => ?_)
      · assumption
      clear hK K
      refine wpAnyH_ready (rs := [10]) (by kernel_rfl) (by simp) ?_
      refine AllReadyH.cons rfl (fun K hK => ?_) AllReadyH.nil
      go_simp
      go_wp2_with (have hx := H9; go_at_call 37; clear hx; refine (same_true H9.out.2.2.2.2.2.2.2.2.2.2.2.2.2.2.1.toNm H9.out.2.2.2.2.2.2.2.2.2.2.2.2.2.2.2.2.1.toNm H9.out.2.2.2.2.2.2.2.2.2.2.2.2.2.2.2.1 H9.out.2.2.2.2.2.2.2.2.2.2.2.2.2.2.2.2.2 (Int.tdiv_mul_add_tmod _ _)).mono ?_; rintro e w18 ⟨rfl, B18⟩; have H10 := Lib.hid (And.intro (H9.out.1.below B18) (And.intro (H9.out.2.1.trans (B18.mono H9.out.2.1.size)) (And.intro (H9.out.2.2.1.below B18) (And.intro (H9.out.2.2.2.1.below B18) (And.intro (H9.out.2.2.2.2.1.below B18) (And.intro (H9.out.2.2.2.2.2.1.below B18) (And.intro (H9.out.2.2.2.2.2.2.1.below B18) (And.intro (H9.out.2.2.2.2.2.2.2.1.below B18) (And.intro (H9.out.2.2.2.2.2.2.2.2.1.below B18) (And.intro (H9.out.2.2.2.2.2.2.2.2.2.1.below B18) (And.intro (H9.out.2.2.2.2.2.2.2.2.2.2.1.below B18) (And.intro (H9.out.2.2.2.2.2.2.2.2.2.2.2.1.below B18) (And.intro (H9.out.2.2.2.2.2.2.2.2.2.2.2.2.1.below B18) (And.intro (H9.out.2.2.2.2.2.2.2.2.2.2.2.2.2.1.below B18) (And.intro (H9.out.2.2.2.2.2.2.2.2.2.2.2.2.2.2.1.below B18) (And.intro (H9.out.2.2.2.2.2.2.2.2.2.2.2.2.2.2.2.1.below B18) (And.intro (H9.out.2.2.2.2.2.2.2.2.2.2.2.2.2.2.2.2.1.below B18) (H9.out.2.2.2.2.2.2.2.2.2.2.2.2.2.2.2.2.2.below B18)))))))))))))))))); clear B18 H9; clear hSS17; have hSS18 := And.intro ((H10.out.2.2.1).c0) (And.intro ((H10.out.2.2.1).c1) (And.intro ((H10.out.2.2.2.1).c0) (And.intro ((H10.out.2.2.2.1).c1) (And.intro ((H10.out.2.2.2.2.2.2.2.2.2.2.1).c0) (And.intro ((H10.out.2.2.2.2.2.2.2.2.2.2.1).c1) (And.intro ((H10.out.2.2.2.2.2.2.2.2.2.2.2.1).c0) ((H10.out.2.2.2.2.2.2.2.2.2.2.2.1).c1))))))))
      refine hK.out _ _ ?_ (fun hHeld => ?_)
      · assumption
      clear hK K
      refine wpAnyH_take (i := 11) (oi := { dst := some 51, op := Op.pick (Operand.tmp 42) (Operand.tmp 50) (Operand.const (Value.bool false)), type := 4, pos := "outright.go:96", after := #[{ on := 2, ground := Ground.data }, { on := 10, ground := Ground.data }], guard := none }) (v := ?_) rfl (by kernel_rfl) (by kernel_rfl) (by kernel_rfl) (fun _ _ _ h => h) (Or.inl ⟨by rfl, ?_⟩) (by assumption) ?_
      rotate_left
      · (intro w0 hSw; (try dsimp only at hSw); go_simp; (try with_reducible rfl))
      try simp only [Act.put, List.setIfInBounds_toArray, List.set_cons_zero, List.set_cons_succ]
      refine wpAnyH_take (i := 12) (oi := { dst := some 52, op := Op.move (Operand.tmp 51), type := 4, pos := "outright.go:96", after := #[{ on := 11, ground := Ground.data }, { on := 10, ground := Ground.chain }], guard := none }) (v := ?_) rfl (by kernel_rfl) (by kernel_rfl) (by kernel_rfl) (fun _ _ _ h => h) (Or.inl ⟨by rfl, ?_⟩) (by assumption) ?_
      rotate_left
      · (intro w0 hSw; (try dsimp only at hSw); go_simp; (try with_reducible rfl))
      try simp only [Act.put, List.setIfInBounds_toArray, List.set_cons_zero, List.set_cons_succ]
      refine wpAnyH_take (i := 13) (oi := { dst := some 53, op := Op.load 24 (Operand.tmp 6), type := 24, pos := "outright.go:96", after := #[{ on := 12, ground := Ground.guard }], guard := some (12, true) }) (v := ?_) rfl (by kernel_rfl) (by kernel_rfl) (by kernel_rfl) (fun _ _ _ h => h) (Or.inl ⟨by rfl, ?_⟩) (by assumption) ?_
      rotate_left
      · (intro w0 hSw; (try dsimp only at hSw); go_simp; (try with_reducible rfl))
      try simp only [Act.put, List.setIfInBounds_toArray, List.set_cons_zero, List.set_cons_succ]
      refine wpAnyH_take (i := 15) (oi := { dst := some 55, op := Op.load 24 (Operand.tmp 3), type := 24, pos := "outright.go:96", after := #[{ on := 12, ground := Ground.guard }], guard := some (12, true) }) (v := ?_) rfl (by kernel_rfl) (by kernel_rfl) (by kernel_rfl) (fun _ _ _ h => h) (Or.inl ⟨by rfl, ?_⟩) (by assumption) ?_
      rotate_left
      · (intro w0 hSw; (try dsimp only at hSw); go_simp; (try with_reducible rfl))
      try simp only [Act.put, List.setIfInBounds_toArray, List.set_cons_zero, List.set_cons_succ]
      refine wpAnyH_ready (rs := [14]) (by kernel_rfl) (by simp) ?_
      refine AllReadyH.cons rfl (fun K hK => ?_) AllReadyH.nil
      go_simp
      go_wp2_with (have hx := H10; go_at_call 38; clear hx; refine (positive_nu H10.out.2.2.2.2.2.2.2.2.1 (by decide)).mono ?_; rintro e w19 ⟨⟨s19, p19, c19, D19, rfl, n19, k19, -⟩, B19⟩; have H11 := Lib.hid (And.intro (H10.out.1.below B19) (And.intro (H10.out.2.1.trans (B19.mono H10.out.2.1.size)) (And.intro (H10.out.2.2.1.below B19) (And.intro (H10.out.2.2.2.1.below B19) (And.intro (H10.out.2.2.2.2.1.below B19) (And.intro (H10.out.2.2.2.2.2.1.below B19) (And.intro (H10.out.2.2.2.2.2.2.1.below B19) (And.intro (H10.out.2.2.2.2.2.2.2.1.below B19) (And.intro (H10.out.2.2.2.2.2.2.2.2.1.below B19) (And.intro (H10.out.2.2.2.2.2.2.2.2.2.1.below B19) (And.intro (H10.out.2.2.2.2.2.2.2.2.2.2.1.below B19) (And.intro (H10.out.2.2.2.2.2.2.2.2.2.2.2.1.below B19) (And.intro (H10.out.2.2.2.2.2.2.2.2.2.2.2.2.1.below B19) (And.intro (H10.out.2.2.2.2.2.2.2.2.2.2.2.2.2.1.below B19) (And.intro (H10.out.2.2.2.2.2.2.2.2.2.2.2.2.2.2.1.below B19) (And.intro (H10.out.2.2.2.2.2.2.2.2.2.2.2.2.2.2.2.1.below B19) (And.intro (H10.out.2.2.2.2.2.2.2.2.2.2.2.2.2.2.2.2.1.below B19) (And.intro (H10.out.2.2.2.2.2.2.2.2.2.2.2.2.2.2.2.2.2.below B19) (And.intro n19 k19))))))))))))))))))); clear n19 k19 B19 H10; clear hSS18; have hSS19 := And.intro ((H11.out.2.2.1).c0) (And.intro ((H11.out.2.2.1).c1) (And.intro ((H11.out.2.2.2.1).c0) (And.intro ((H11.out.2.2.2.1).c1) (And.intro ((H11.out.2.2.2.2.2.2.2.2.2.2.1).c0) (And.intro ((H11.out.2.2.2.2.2.2.2.2.2.2.1).c1) (And.intro ((H11.out.2.2.2.2.2.2.2.2.2.2.2.1).c0) ((H11.out.2.2.2.2.2.2.2.2.2.2.2.1).c1))))))))
      refine hK.out _ _ ?_ (fun hHeld => ?_)
      · assumption
      clear hK K
      refine wpAnyH_ready (rs := [16]) (by kernel_rfl) (by simp) ?_
      refine AllReadyH.cons rfl (fun K hK => ?_) AllReadyH.nil
      go_simp
      go_wp2_with (have hx := H11; go_at_call 38; clear hx; refine (positive_nu H11.out.2.2.2.2.2.1 (by decide)).mono ?_; rintro e w20 ⟨⟨s20, p20, c20, D20, rfl, n20, k20, -⟩, B20⟩; have H12 := Lib.hid (And.intro (H11.out.1.below B20) (And.intro (H11.out.2.1.trans (B20.mono H11.out.2.1.size)) (And.intro (H11.out.2.2.1.below B20) (And.intro (H11.out.2.2.2.1.below B20) (And.intro (H11.out.2.2.2.2.1.below B20) (And.intro (H11.out.2.2.2.2.2.1.below B20) (And.intro (H11.out.2.2.2.2.2.2.1.below B20) (And.intro (H11.out.2.2.2.2.2.2.2.1.below B20) (And.intro (H11.out.2.2.2.2.2.2.2.2.1.below B20) (And.intro (H11.out.2.2.2.2.2.2.2.2.2.1.below B20) (And.intro (H11.out.2.2.2.2.2.2.2.2.2.2.1.below B20) (And.intro (H11.out.2.2.2.2.2.2.2.2.2.2.2.1.below B20) (And.intro (H11.out.2.2.2.2.2.2.2.2.2.2.2.2.1.below B20) (And.intro (H11.out.2.2.2.2.2.2.2.2.2.2.2.2.2.1.below B20) (And.intro (H11.out.2.2.2.2.2.2.2.2.2.2.2.2.2.2.1.below B20) (And.intro (H11.out.2.2.2.2.2.2.2.2.2.2.2.2.2.2.2.1.below B20) (And.intro (H11.out.2.2.2.2.2.2.2.2.2.2.2.2.2.2.2.2.1.below B20) (And.intro (H11.out.2.2.2.2.2.2.2.2.2.2.2.2.2.2.2.2.2.1.below B20) (And.intro (H11.out.2.2.2.2.2.2.2.2.2.2.2.2.2.2.2.2.2.2.1.below B20) (And.intro (H11.out.2.2.2.2.2.2.2.2.2.2.2.2.2.2.2.2.2.2.2.below B20) (And.intro n20 k20))))))))))))))))))))); clear n20 k20 B20 H11; clear hSS19; have hSS20 := And.intro ((H12.out.2.2.1).c0) (And.intro ((H12.out.2.2.1).c1) (And.intro ((H12.out.2.2.2.1).c0) (And.intro ((H12.out.2.2.2.1).c1) (And.intro ((H12.out.2.2.2.2.2.2.2.2.2.2.1).c0) (And.intro ((H12.out.2.2.2.2.2.2.2.2.2.2.1).c1) (And.intro ((H12.out.2.2.2.2.2.2.2.2.2.2.2.1).c0) ((H12.out.2.2.2.2.2.2.2.2.2.2.2.1).c1))))))))
      refine hK.out _ _ ?_ (fun hHeld => ?_)
      · assumption
      clear hK K
      refine wpAnyH_ready (rs := [17]) (by kernel_rfl) (by simp) ?_
      refine AllReadyH.cons rfl (fun K hK => ?_) AllReadyH.nil
      go_simp
      go_wp2_with (have hx := H12; go_at_call 27; clear hx; refine (cmp_lit H12.out.2.2.2.2.2.2.2.2.2.2.2.2.2.2.2.2.2.2.1 H12.out.2.2.2.2.2.2.2.2.2.2.2.2.2.2.2.2.2.2.2.2.1 (by decide) (by decide) (a := -1) (rest_less HYN.out (abs_of H12.out.2.2.2.2.2.2.2.2.1.dig H12.out.2.2.2.2.2.2.2.2.1.val) (abs_of H12.out.2.2.2.2.2.1.dig H12.out.2.2.2.2.2.1.val))).mono ?_; rintro e w21 ⟨rfl, B21⟩; have H13 := Lib.hid (And.intro (H12.out.1.below B21) (And.intro (H12.out.2.1.trans (B21.mono H12.out.2.1.size)) (And.intro (H12.out.2.2.1.below B21) (And.intro (H12.out.2.2.2.1.below B21) (And.intro (H12.out.2.2.2.2.1.below B21) (And.intro (H12.out.2.2.2.2.2.1.below B21) (And.intro (H12.out.2.2.2.2.2.2.1.below B21) (And.intro (H12.out.2.2.2.2.2.2.2.1.below B21) (And.intro (H12.out.2.2.2.2.2.2.2.2.1.below B21) (And.intro (H12.out.2.2.2.2.2.2.2.2.2.1.below B21) (And.intro (H12.out.2.2.2.2.2.2.2.2.2.2.1.below B21) (And.intro (H12.out.2.2.2.2.2.2.2.2.2.2.2.1.below B21) (And.intro (H12.out.2.2.2.2.2.2.2.2.2.2.2.2.1.below B21) (And.intro (H12.out.2.2.2.2.2.2.2.2.2.2.2.2.2.1.below B21) (And.intro (H12.out.2.2.2.2.2.2.2.2.2.2.2.2.2.2.1.below B21) (And.intro (H12.out.2.2.2.2.2.2.2.2.2.2.2.2.2.2.2.1.below B21) (And.intro (H12.out.2.2.2.2.2.2.2.2.2.2.2.2.2.2.2.2.1.below B21) (And.intro (H12.out.2.2.2.2.2.2.2.2.2.2.2.2.2.2.2.2.2.1.below B21) (And.intro (H12.out.2.2.2.2.2.2.2.2.2.2.2.2.2.2.2.2.2.2.1.below B21) (And.intro (H12.out.2.2.2.2.2.2.2.2.2.2.2.2.2.2.2.2.2.2.2.1.below B21) (And.intro (H12.out.2.2.2.2.2.2.2.2.2.2.2.2.2.2.2.2.2.2.2.2.1.below B21) (H12.out.2.2.2.2.2.2.2.2.2.2.2.2.2.2.2.2.2.2.2.2.2.below B21)))))))))))))))))))))); clear B21 H12; clear hSS20; have hSS21 := And.intro ((H13.out.2.2.1).c0) (And.intro ((H13.out.2.2.1).c1) (And.intro ((H13.out.2.2.2.1).c0) (And.intro ((H13.out.2.2.2.1).c1) (And.intro ((H13.out.2.2.2.2.2.2.2.2.2.2.1).c0) (And.intro ((H13.out.2.2.2.2.2.2.2.2.2.2.1).c1) (And.intro ((H13.out.2.2.2.2.2.2.2.2.2.2.2.1).c0) ((H13.out.2.2.2.2.2.2.2.2.2.2.2.1).c1))))))))
      refine hK.out _ _ ?_ (fun hHeld => ?_)
      · assumption
      clear hK K
      refine wpAnyH_take (i := 18) (oi := { dst := some 58, op := Op.binOp BinOp.lss 3 (Operand.tmp 57) (Operand.const (Value.int IntKind.i64 0)) 3, type := 4, pos := "outright.go:96", after := #[{ on := 17, ground := Ground.data }, { on := 12, ground := Ground.guard }], guard := some (12, true) }) (v := ?_) rfl (by kernel_rfl) (by kernel_rfl) (by kernel_rfl) (fun _ _ _ h => h) (Or.inl ⟨by rfl, ?_⟩) (by assumption) ?_
      rotate_left
      · (intro w0 hSw; (try dsimp only at hSw); go_simp; (try with_reducible rfl))
      try simp only [Act.put, List.setIfInBounds_toArray, List.set_cons_zero, List.set_cons_succ]
      refine wpAnyH_take (i := 19) (oi := { dst := some 59, op := Op.pick (Operand.tmp 52) (Operand.tmp 58) (Operand.const (Value.bool false)), type := 4, pos := "outright.go:96", after := #[{ on := 12, ground := Ground.data }, { on := 18, ground := Ground.data }], guard := none }) (v := ?_) rfl (by kernel_rfl) (by kernel_rfl) (by kernel_rfl) (fun _ _ _ h => h) (Or.inl ⟨by rfl, ?_⟩) (by assumption) ?_
      rotate_left
      · (intro w0 hSw; (try dsimp only at hSw); go_simp; (try with_reducible rfl))
      try simp only [Act.put, List.setIfInBounds_toArray, List.set_cons_zero, List.set_cons_succ]
      refine wpAnyH_take (i := 20) (oi := { dst := some 60, op := Op.move (Operand.tmp 59), type := 4, pos := "outright.go:96", after := #[{ on := 19, ground := Ground.data }, { on := 17, ground := Ground.chain }], guard := none }) (v := ?_) rfl (by kernel_rfl) (by kernel_rfl) (by kernel_rfl) (fun _ _ _ h => h) (Or.inl ⟨by rfl, ?_⟩) (by assumption) ?_
      rotate_left
      · (intro w0 hSw; (try dsimp only at hSw); go_simp; (try with_reducible rfl))
      try simp only [Act.put, List.setIfInBounds_toArray, List.set_cons_zero, List.set_cons_succ]
      refine wpAnyH_take (i := 21) (oi := { dst := some 61, op := Op.fieldAddr 24 (Operand.tmp 6) 1, type := 0, pos := "outright.go:96", after := #[{ on := 20, ground := Ground.guard }], guard := some (20, true) }) (v := ?_) rfl (by kernel_rfl) (by kernel_rfl) (by kernel_rfl) (fun _ _ _ h => h) (Or.inl ⟨by rfl, ?_⟩) (by assumption) ?_
      rotate_left
      · (intro w0 hSw; (try dsimp only at hSw); go_simp; (try with_reducible rfl))
      try simp only [Act.put, List.setIfInBounds_toArray, List.set_cons_zero, List.set_cons_succ]
      refine wpAnyH_take (i := 22) (oi := { dst := some 62, op := Op.load 22 (Operand.tmp 61), type := 22, pos := "outright.go:96", after := #[{ on := 21, ground := Ground.data }, { on := 20, ground := Ground.guard }], guard := some (20, true) }) (v := ?_) rfl (by kernel_rfl) (by kernel_rfl) (by kernel_rfl) (fun _ _ _ h => h) (Or.inl ⟨by rfl, ?_⟩) (by assumption) ?_
      rotate_left
      · (intro w0 hSw; (try dsimp only at hSw); go_simp; (try with_reducible rfl))
      try simp only [Act.put, List.setIfInBounds_toArray, List.set_cons_zero, List.set_cons_succ]
      refine wpAnyH_take (i := 23) (oi := { dst := some 63, op := Op.call { callee := Callee.builtin Builtin.len, args := #[Operand.tmp 62], argTypes := #[22] }, type := 3, pos := "outright.go:96", after := #[{ on := 22, ground := Ground.data }, { on := 20, ground := Ground.guard }], guard := some (20, true) }) (v := ?_) rfl (by kernel_rfl) (by kernel_rfl) (by kernel_rfl) (fun _ _ _ h => h) (Or.inl ⟨by rfl, ?_⟩) (by assumption) ?_
      rotate_left
      · (intro w0 hSw; (try dsimp only at hSw); go_simp; (try with_reducible rfl))
      try simp only [Act.put, List.setIfInBounds_toArray, List.set_cons_zero, List.set_cons_succ]
      refine wpAnyH_take (i := 24) (oi := { dst := some 64, op := Op.binOp BinOp.eql 3 (Operand.tmp 63) (Operand.const (Value.int IntKind.i64 0)) 3, type := 4, pos := "outright.go:96", after := #[{ on := 23, ground := Ground.data }, { on := 20, ground := Ground.guard }], guard := some (20, true) }) (v := ?_) rfl (by kernel_rfl) (by kernel_rfl) (by kernel_rfl) (fun _ _ _ h => h) (Or.inl ⟨by rfl, ?_⟩) (by assumption) ?_
      rotate_left
      · (intro w0 hSw; (try dsimp only at hSw); go_simp; (try with_reducible rfl))
      try simp only [Act.put, List.setIfInBounds_toArray, List.set_cons_zero, List.set_cons_succ]
      refine wpAnyH_take (i := 25) (oi := { dst := some 65, op := Op.move (Operand.tmp 64), type := 4, pos := "outright.go:96", after := #[{ on := 24, ground := Ground.data }, { on := 20, ground := Ground.chain }, { on := 20, ground := Ground.guard }], guard := some (20, true) }) (v := ?_) rfl (by kernel_rfl) (by kernel_rfl) (by kernel_rfl) (fun _ _ _ h => h) (Or.inl ⟨by rfl, ?_⟩) (by assumption) ?_
      rotate_left
      · (intro w0 hSw; (try dsimp only at hSw); go_simp; (try with_reducible rfl))
      try simp only [Act.put, List.setIfInBounds_toArray, List.set_cons_zero, List.set_cons_succ]
      refine wpAnyH_take (i := 26) (oi := { dst := some 66, op := Op.fieldAddr 24 (Operand.tmp 6) 0, type := 0, pos := "outright.go:96", after := #[{ on := 25, ground := Ground.guard }], guard := some (25, false) }) (v := ?_) rfl (by kernel_rfl) (by kernel_rfl) (by kernel_rfl) (fun _ _ _ h => h) (Or.inl ⟨by rfl, ?_⟩) (by assumption) ?_
      rotate_left
      · (intro w0 hSw; (try dsimp only at hSw); go_simp; (try with_reducible rfl))
      try simp only [Act.put, List.setIfInBounds_toArray, List.set_cons_zero, List.set_cons_succ]
      refine wpAnyH_take (i := 27) (oi := { dst := some 67, op := Op.load 4 (Operand.tmp 66), type := 4, pos := "outright.go:96", after := #[{ on := 26, ground := Ground.data }, { on := 25, ground := Ground.guard }], guard := some (25, false) }) (v := ?_) rfl (by kernel_rfl) (by kernel_rfl) (by kernel_rfl) (fun _ _ _ h => h) (Or.inl ⟨by rfl, ?_⟩) (by assumption) ?_
      rotate_left
      · (intro w0 hSw; (try dsimp only at hSw); go_simp; (try with_reducible rfl))
      try simp only [Act.put, List.setIfInBounds_toArray, List.set_cons_zero, List.set_cons_succ]
      refine wpAnyH_take (i := 28) (oi := { dst := some 68, op := Op.fieldAddr 24 (Operand.tmp 2) 0, type := 0, pos := "outright.go:96", after := #[{ on := 25, ground := Ground.guard }], guard := some (25, false) }) (v := ?_) rfl (by kernel_rfl) (by kernel_rfl) (by kernel_rfl) (fun _ _ _ h => h) (Or.inl ⟨by rfl, ?_⟩) (by assumption) ?_
      rotate_left
      · (intro w0 hSw; (try dsimp only at hSw); go_simp; (try with_reducible rfl))
      try simp only [Act.put, List.setIfInBounds_toArray, List.set_cons_zero, List.set_cons_succ]
      refine wpAnyH_take (i := 29) (oi := { dst := some 69, op := Op.load 4 (Operand.tmp 68), type := 4, pos := "outright.go:96", after := #[{ on := 28, ground := Ground.data }, { on := 25, ground := Ground.guard }], guard := some (25, false) }) (v := ?_) rfl (by kernel_rfl) (by kernel_rfl) (by kernel_rfl) (fun _ _ _ h => h) (Or.inl ⟨by rfl, ?_⟩) (by assumption) ?_
      rotate_left
      · (intro w0 hSw; (try dsimp only at hSw); go_simp; (try with_reducible rfl))
      try simp only [Act.put, List.setIfInBounds_toArray, List.set_cons_zero, List.set_cons_succ]
      refine wpAnyH_take (i := 30) (oi := { dst := some 70, op := Op.binOp BinOp.eql 4 (Operand.tmp 67) (Operand.tmp 69) 4, type := 4, pos := "outright.go:96", after := #[{ on := 27, ground := Ground.data }, { on := 29, ground := Ground.data }, { on := 25, ground := Ground.guard }], guard := some (25, false) }) (v := ?_) rfl (by kernel_rfl) (by kernel_rfl) (by kernel_rfl) (fun _ _ _ h => h) (Or.inl ⟨by rfl, ?_⟩) (by assumption) ?_
      rotate_left
      · (intro w0 hSw; (try dsimp only at hSw); go_simp; (try with_reducible rfl))
      try simp only [Act.put, List.setIfInBounds_toArray, List.set_cons_zero, List.set_cons_succ]
      refine wpAnyH_take (i := 31) (oi := { dst := some 71, op := Op.pick (Operand.tmp 65) (Operand.const (Value.bool true)) (Operand.tmp 70), type := 4, pos := "outright.go:96", after := #[{ on := 25, ground := Ground.data }, { on := 30, ground := Ground.data }, { on := 20, ground := Ground.guard }], guard := some (20, true) }) (v := ?_) rfl (by kernel_rfl) (by kernel_rfl) (by kernel_rfl) (fun _ _ _ h => h) (Or.inl ⟨by rfl, ?_⟩) (by assumption) ?_
      rotate_left
      · (intro w0 hSw; (try dsimp only at hSw); go_simp; (try with_reducible rfl))
      try simp only [Act.put, List.setIfInBounds_toArray, List.set_cons_zero, List.set_cons_succ]
      refine wpAnyH_take (i := 32) (oi := { dst := some 72, op := Op.pick (Operand.tmp 60) (Operand.tmp 71) (Operand.const (Value.bool false)), type := 4, pos := "outright.go:96", after := #[{ on := 20, ground := Ground.data }, { on := 31, ground := Ground.data }], guard := none }) (v := ?_) rfl (by kernel_rfl) (by kernel_rfl) (by kernel_rfl) (fun _ _ _ h => h) (Or.inl ⟨by rfl, ?_⟩) (by assumption) ?_
      rotate_left
      · (intro w0 hSw; (try dsimp only at hSw); go_simp; (try with_reducible rfl))
      try simp only [Act.put, List.setIfInBounds_toArray, List.set_cons_zero, List.set_cons_succ]
      refine wpAnyH_take (i := 33) (oi := { dst := some 73, op := Op.move (Operand.tmp 72), type := 4, pos := "outright.go:96", after := #[{ on := 32, ground := Ground.data }, { on := 25, ground := Ground.chain }], guard := none }) (v := ?_) rfl (by kernel_rfl) (by kernel_rfl) (by kernel_rfl) (fun _ _ _ h => h) (Or.inl ⟨by rfl, ?_⟩) (by assumption) ?_
      rotate_left
      · (intro w0 hSw; (try dsimp only at hSw); go_simp; (try with_reducible rfl))
      try simp only [Act.put, List.setIfInBounds_toArray, List.set_cons_zero, List.set_cons_succ]
      refine wpAnyH_ready (rs := [34]) (by kernel_rfl) (by simp) ?_
      refine AllReadyH.cons rfl (fun K hK => ?_) AllReadyH.nil
      go_simp
      go_wp2_with (have hx := H13; go_at_call 11; clear hx; refine (awake_at H13.out.1).mono ?_; rintro e w22 ⟨rfl, B22⟩; have H14 := Lib.hid (And.intro (H13.out.1.below B22) (And.intro (H13.out.2.1.trans (B22.mono H13.out.2.1.size)) (And.intro (H13.out.2.2.1.below B22) (And.intro (H13.out.2.2.2.1.below B22) (And.intro (H13.out.2.2.2.2.1.below B22) (And.intro (H13.out.2.2.2.2.2.1.below B22) (And.intro (H13.out.2.2.2.2.2.2.1.below B22) (And.intro (H13.out.2.2.2.2.2.2.2.1.below B22) (And.intro (H13.out.2.2.2.2.2.2.2.2.1.below B22) (And.intro (H13.out.2.2.2.2.2.2.2.2.2.1.below B22) (And.intro (H13.out.2.2.2.2.2.2.2.2.2.2.1.below B22) (And.intro (H13.out.2.2.2.2.2.2.2.2.2.2.2.1.below B22) (And.intro (H13.out.2.2.2.2.2.2.2.2.2.2.2.2.1.below B22) (And.intro (H13.out.2.2.2.2.2.2.2.2.2.2.2.2.2.1.below B22) (And.intro (H13.out.2.2.2.2.2.2.2.2.2.2.2.2.2.2.1.below B22) (And.intro (H13.out.2.2.2.2.2.2.2.2.2.2.2.2.2.2.2.1.below B22) (And.intro (H13.out.2.2.2.2.2.2.2.2.2.2.2.2.2.2.2.2.1.below B22) (And.intro (H13.out.2.2.2.2.2.2.2.2.2.2.2.2.2.2.2.2.2.1.below B22) (And.intro (H13.out.2.2.2.2.2.2.2.2.2.2.2.2.2.2.2.2.2.2.1.below B22) (And.intro (H13.out.2.2.2.2.2.2.2.2.2.2.2.2.2.2.2.2.2.2.2.1.below B22) (And.intro (H13.out.2.2.2.2.2.2.2.2.2.2.2.2.2.2.2.2.2.2.2.2.1.below B22) (H13.out.2.2.2.2.2.2.2.2.2.2.2.2.2.2.2.2.2.2.2.2.2.below B22)))))))))))))))))))))); clear B22 H13; clear hSS21; have hSS22 := And.intro ((H14.out.2.2.1).c0) (And.intro ((H14.out.2.2.1).c1) (And.intro ((H14.out.2.2.2.1).c0) (And.intro ((H14.out.2.2.2.1).c1) (And.intro ((H14.out.2.2.2.2.2.2.2.2.2.2.1).c0) (And.intro ((H14.out.2.2.2.2.2.2.2.2.2.2.1).c1) (And.intro ((H14.out.2.2.2.2.2.2.2.2.2.2.2.1).c0) ((H14.out.2.2.2.2.2.2.2.2.2.2.2.1).c1))))))))
      refine hK.out _ _ ?_ (fun hHeld => ?_)
      · assumption
      clear hK K
      refine wpAnyH_take (i := 35) (oi := { dst := some 75, op := Op.pick (Operand.tmp 73) (Operand.tmp 74) (Operand.const (Value.bool false)), type := 4, pos := "outright.go:96", after := #[{ on := 33, ground := Ground.data }, { on := 34, ground := Ground.data }], guard := none }) (v := ?_) rfl (by kernel_rfl) (by kernel_rfl) (by kernel_rfl) (fun _ _ _ h => h) (Or.inl ⟨by rfl, ?_⟩) (by assumption) ?_
      rotate_left
      · (intro w0 hSw; (try dsimp only at hSw); go_simp; (try with_reducible rfl))
      try simp only [Act.put, List.setIfInBounds_toArray, List.set_cons_zero, List.set_cons_succ]
      refine wpAnyH_take (i := 36) (oi := { dst := some 4, op := Op.assign (Operand.tmp 75), type := 4, pos := "outright.go:96", after := #[{ on := 35, ground := Ground.data }, { on := 34, ground := Ground.chain }, { on := 0, ground := Ground.phase }, { on := 1, ground := Ground.phase }, { on := 2, ground := Ground.phase }, { on := 3, ground := Ground.phase }, { on := 4, ground := Ground.phase }, { on := 5, ground := Ground.phase }, { on := 6, ground := Ground.phase }, { on := 7, ground := Ground.phase }, { on := 8, ground := Ground.phase }, { on := 9, ground := Ground.phase }, { on := 10, ground := Ground.phase }, { on := 11, ground := Ground.phase }, { on := 12, ground := Ground.phase }, { on := 13, ground := Ground.phase }, { on := 14, ground := Ground.phase }, { on := 15, ground := Ground.phase }, { on := 16, ground := Ground.phase }, { on := 17, ground := Ground.phase }, { on := 18, ground := Ground.phase }, { on := 19, ground := Ground.phase }, { on := 20, ground := Ground.phase }, { on := 21, ground := Ground.phase }, { on := 22, ground := Ground.phase }, { on := 23, ground := Ground.phase }, { on := 24, ground := Ground.phase }, { on := 25, ground := Ground.phase }, { on := 26, ground := Ground.phase }, { on := 27, ground := Ground.phase }, { on := 28, ground := Ground.phase }, { on := 29, ground := Ground.phase }, { on := 30, ground := Ground.phase }, { on := 31, ground := Ground.phase }, { on := 32, ground := Ground.phase }, { on := 33, ground := Ground.phase }, { on := 34, ground := Ground.phase }, { on := 35, ground := Ground.phase }], guard := none }) (v := ?_) rfl (by kernel_rfl) (by kernel_rfl) (by kernel_rfl) (fun _ _ _ h => h) (Or.inl ⟨by rfl, ?_⟩) (by assumption) ?_
      rotate_left
      · (intro w0 hSw; (try dsimp only at hSw); go_simp; (try with_reducible rfl))
      try simp only [Act.put, List.setIfInBounds_toArray, List.set_cons_zero, List.set_cons_succ]
      refine wpAnyH_done (by kernel_rfl) (NoPanic.normal ?_) _
      clear hSS22
      all_goals (go_wp2_with fail; go_ret; exact ⟨rfl, H14.out.2.1⟩)
end Go.Proofs.YtihgefllmkicaaaDoor
