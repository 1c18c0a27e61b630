/- Plain: the walk of BigNumbers. Conditions: the digits lie as told; the table lies. -/
import Derived.Test.YtihgefllmkicaaaDoorRbK
import Derived.Test.YtihgefllmkicaaaDoorBbF0
namespace Go.Proofs.YtihgefllmkicaaaDoor
open Go.RowKit Bg
set_option linter.unusedVariables false
set_option linter.unusedSimpArgs false


theorem dn_short {w : World} {s : Bool} {p : Option Addr} {c : Nat} {D : List Int} {x : Int} {n : Nat} (h : Dn w s p c D x) (hx : (x.natAbs : Int) < 10 ^ n) : D.length ≤ n := by
  obtain ⟨-, e2⟩ := can_val (by decide) h.can h.val
  by_cases h0 : D = []
  · rw [h0]; exact Nat.zero_le _
  have h1 := val_ge (by decide) h.can.dig h.can.tidy h0
  rcases Nat.lt_or_ge n D.length with h3 | h3
  · exfalso
    have := pow_le (show (1 : Int) ≤ 10 by decide) (show n ≤ D.length - 1 by omega)
    omega
  · exact h3
theorem fix_short {w : World} {s : Bool} {p : Option Addr} {c : Nat} {D : List Int} {x : Int} (h : Dn w s p c D x) (hf : isFix x = true) : D.length ≤ 18 := by
  unfold isFix at hf
  rw [decide_eq_true_eq] at hf
  have e : (10 : Int) ^ 9 = 1000000000 := by decide
  have := dn_short (n := 9) h (by rw [e]; omega)
  omega
theorem bnd_four {n : Int} (h : -9223372036854775808 ≤ n ∧ n < 9223372036854775808) : Bnd 4 n := by
  have e : (65536 : Int) ^ 4 = 18446744073709551616 := by decide
  unfold Bnd
  rw [e]
  omega
theorem within_lit {w : World} {p : Option Addr} {c : Nat} {l : List Int} {s : Bool} {x lo hi : Int} {r : Bool} (a : Dn w s p c l x) (t u : ByteArray) (ht : t.size ≤ 1000000) (hu : u.size ≤ 1000000) (kt : isDec (pBody t) = true) (ku : isDec (pBody u) = true) (vt : pVal t = lo) (vu : pVal u = hi) (hr : decide (lo ≤ x ∧ x ≤ hi) = r) :
    Calls Tryd.prog 18 #[.agg #[.bool s, .slice p l.length c], .string t, .string u] w fun e w' => e = .returned (.bool r) ∧ Below w.heap.size w w' := by
  rw [← hr]
  exact rwithin_at a t u ht hu kt ku vt vu
theorem small_lit {w : World} {p : Option Addr} {c : Nat} {l : List Int} {s : Bool} {x a : Int} {b : Bool} {n : Nat} (h : Nu n w s p c l x) (hn : n ≤ 100000) (ha : clip64 x = a) (hb : small64 x = b) :
    Calls Tryd.prog 17 #[.agg #[.bool s, .slice p l.length c]] w fun e w' => e = .returned (.tuple #[.int .i64 a, .bool b]) ∧ Below w.heap.size w w' := by
  rw [← ha, ← hb]
  exact small_nu h hn
theorem fix_lit' {w : World} {p : Option Addr} {c : Nat} {l : List Int} {s : Bool} {x a : Int} {b : Bool} {n : Nat} (h : Nu n w s p c l x) (hn : n ≤ 100000) (ha : clipFix x = a) (hb : isFix x = b) :
    Calls Tryd.prog 19 #[.agg #[.bool s, .slice p l.length c]] w fun e w' => e = .returned (.tuple #[.int .i64 a, .bool b]) ∧ Below w.heap.size w w' := by
  rw [← ha, ← hb]
  exact fix_nu h hn
theorem small_in {n : Int} (h : -9223372036854775808 ≤ n ∧ n < 9223372036854775808) : small64 n = true := by
  unfold small64; rw [decide_eq_true_eq]; omega
theorem clip_in {n : Int} (h : -9223372036854775808 ≤ n ∧ n < 9223372036854775808) : clip64 n = n := by
  unfold clip64; rw [small_in h, if_pos rfl]
set_option maxRecDepth 100000 in
set_option maxHeartbeats 40000000 in
theorem numbers_any {w : World} {p1 : Option Addr} {c1 : Nat} {l1 : List Int} {s1 : Bool} {x : Int} (a1 : Nm w s1 p1 c1 l1 x) (n : Int) (hn : -9223372036854775808 ≤ n ∧ n < 9223372036854775808) (ht : Tab w) :
    Calls Tryd.prog 3 #[.agg #[.bool s1, .slice p1 l1.length c1], .int .i64 n] w fun e w' => e = .returned (.bool true) ∧ Below w.heap.size w w' := by
  obtain ⟨W, hW⟩ : ∃ W, W = w.alloc (.cells #[.bool s1, .slice p1 l1.length c1] 24) := ⟨_, rfl⟩
  have hB : Below w.heap.size w W := by rw [hW]; exact (Below.refl _ _).alloc (Nat.le_refl _) _
  have x0 : Box W w.heap.size (.bool s1) (.slice p1 l1.length c1) := by rw [hW]; exact Box.fresh _ _ _ rfl
  have m0 := x0.c0
  have m1 := x0.c1
  have HN := Lib.hid hn
  have H0 := Lib.hid (And.intro (ht.below (hB.mono (Nat.le_refl _))) (And.intro hB (And.intro x0 (a1.below (hB.mono (Nat.le_refl _))))))
  clear a1 ht hB x0 hn
  go_enter Tryd.func3, Tryd.ntmps3
  by_cases hL : l1.length ≤ 60
  case neg =>
    have q1 : decide ((l1.length : Int) > 60) = true := by rw [decide_eq_true_eq]; omega
    go_wp2_with fail
    rw [← hW]
    clear hW
    refine (awake_at H0.out.1).mono ?_
    rintro e w11 ⟨rfl, B11⟩
    have H1 := Lib.hid (And.intro (H0.out.1.below B11) (And.intro (H0.out.2.1.trans (B11.mono H0.out.2.1.size)) (And.intro (H0.out.2.2.1.below B11) (H0.out.2.2.2.below B11))))
    clear B11
    go_wp2_with fail
    go_ret
    exact ⟨rfl, H1.out.2.1⟩
  have H1 := Lib.hid (And.intro H0.out.1 (And.intro H0.out.2.1 (And.intro H0.out.2.2.1 (Nu.mk (n := 60) H0.out.2.2.2 hL))))
  have q1 : decide ((l1.length : Int) > 60) = false := by rw [decide_eq_false_iff_not]; omega
  go_wp2_with fail
  rw [← hW]
  clear hW q1 m0 m1
  refine (of_num H1.out.2.2.2.toNm (by omega)).mono ?_
  rintro e w11 ⟨s11, p11, c11, D11, rfl, n11, z11, B11⟩
  have H2 := Lib.hid (And.intro (H1.out.1.below B11) (And.intro (H1.out.2.1.trans (B11.mono H1.out.2.1.size)) (And.intro (H1.out.2.2.1.below B11) (And.intro (H1.out.2.2.2.below B11) n11))))
  clear n11 B11
  obtain ⟨w12, hw12⟩ : ∃ w12, w12 = w11.alloc (.cells #[.bool s11, .slice p11 D11.length c11] 28) := ⟨_, rfl⟩
  have B12 : Below w11.heap.size w11 w12 := by rw [hw12]; exact (Below.refl _ _).alloc (Nat.le_refl _) _
  have X12 : Box w12 w11.heap.size (.bool s11) (.slice p11 D11.length c11) := by rw [hw12]; exact box_fresh 28 _ _ _ rfl
  have H3 := Lib.hid (And.intro (H2.out.1.below B12) (And.intro (H2.out.2.1.trans (B12.mono H2.out.2.1.size)) (And.intro (H2.out.2.2.1.below B12) (And.intro (H2.out.2.2.2.1.below B12) (And.intro (H2.out.2.2.2.2.below B12) X12)))))
  clear X12 B12
  go_upto_region 4 with fail
  rw [← hw12]
  clear hw12
  go_cut [33] (fun v wx => v = .bool false ∧ Hid (Below w12.heap.size w12 wx))
  case first =>
    have BZ := Below.refl w12.heap.size w12
    have B14 : Below w12.heap.size w12 w12.drew := (Below.refl _ _).drew
    have BZ := BZ.trans (B14.mono BZ.size)
    have H4 := Lib.hid (And.intro (H3.out.1.below B14) (And.intro (H3.out.2.1.trans (B14.mono H3.out.2.1.size)) (And.intro (H3.out.2.2.1.below B14) (And.intro (H3.out.2.2.2.1.below B14) (And.intro (H3.out.2.2.2.2.1.below B14) (H3.out.2.2.2.2.2.below B14))))))
    clear B14
    have hSS : w12.drew.cell? ⟨w.heap.size, 0, none⟩ = some (.bool s1) ∧ w12.drew.cell? ⟨w.heap.size, 1, none⟩ = some (.slice p1 l1.length c1) ∧ w12.drew.cell? ⟨w11.heap.size, 0, none⟩ = some (.bool s11) ∧ w12.drew.cell? ⟨w11.heap.size, 1, none⟩ = some (.slice p11 D11.length c11) := And.intro ((H4.out.2.2.1).c0) (And.intro ((H4.out.2.2.1).c1) (And.intro ((H4.out.2.2.2.2.2).c0) ((H4.out.2.2.2.2.2).c1)))
    refine wp_region_noPanic ?_
    refine wp_region_held_drew (S := fun w' => w'.cell? ⟨w.heap.size, 0, none⟩ = some (.bool s1) ∧ w'.cell? ⟨w.heap.size, 1, none⟩ = some (.slice p1 l1.length c1) ∧ w'.cell? ⟨w11.heap.size, 0, none⟩ = some (.bool s11) ∧ w'.cell? ⟨w11.heap.size, 1, none⟩ = some (.slice p11 D11.length c11)) (by kernel_rfl) hSS (fun hHeld => ?_)
    refine wpAnyH_take (i := 0) (oi := { dst := some 22, op := Op.load 24 (Operand.tmp 2), type := 24, pos := "law.go:36", after := #[], guard := none }) (v := ?_) rfl (by kernel_rfl) (by kernel_rfl) (by kernel_rfl) (fun _ _ _ h => h) (Or.inl ⟨by rfl, ?_⟩) (by assumption) ?_
    rotate_left
    · (intro w0 hSw; (try dsimp only at hSw); go_simp; (try with_reducible rfl))
    try simp only [Act.put, List.setIfInBounds_toArray, List.set_cons_zero, List.set_cons_succ]
    refine wpAnyH_take (i := 2) (oi := { dst := some 24, op := Op.load 28 (Operand.tmp 5), type := 28, pos := "law.go:36", after := #[], guard := none }) (v := ?_) rfl (by kernel_rfl) (by kernel_rfl) (by kernel_rfl) (fun _ _ _ h => h) (Or.inl ⟨by rfl, ?_⟩) (by assumption) ?_
    rotate_left
    · (intro w0 hSw; (try dsimp only at hSw); go_simp; (try with_reducible rfl))
    try simp only [Act.put, List.setIfInBounds_toArray, List.set_cons_zero, List.set_cons_succ]
    refine wpAnyH_ready (rs := [1]) (by kernel_rfl) (by simp) ?_
    refine AllReadyH.cons rfl (fun K hK => ?_) AllReadyH.nil
    go_simp
    go_wp2_with (have hx := H4; go_at_call 14; clear hx; refine (tidy_nu H4.out.2.2.2.1 (by decide)).mono ?_; rintro e w15 ⟨⟨s15, p15, c15, D15, rfl, n15, k15, -⟩, B15⟩; have BZ := BZ.trans (B15.mono BZ.size); have H5 := Lib.hid (And.intro (H4.out.1.below B15) (And.intro (H4.out.2.1.trans (B15.mono H4.out.2.1.size)) (And.intro (H4.out.2.2.1.below B15) (And.intro (H4.out.2.2.2.1.below B15) (And.intro (H4.out.2.2.2.2.1.below B15) (And.intro (H4.out.2.2.2.2.2.below B15) (And.intro n15 k15))))))); clear n15 k15 B15 H4; clear hSS; have hSS15 := And.intro ((H5.out.2.2.1).c0) (And.intro ((H5.out.2.2.1).c1) (And.intro ((H5.out.2.2.2.2.2.1).c0) ((H5.out.2.2.2.2.2.1).c1))))
    refine hK.out _ _ ?_ (fun hHeld => ?_)
    · assumption
    clear hK K
    refine wpAnyH_ready (rs := [3]) (by kernel_rfl) (by simp) ?_
    refine AllReadyH.cons rfl (fun K hK => ?_) AllReadyH.nil
    go_simp
    go_wp2_with (have hx := H5; go_at_call 13; clear hx; refine (alike_at H5.out.2.2.2.2.2.2.1.toNm H5.out.2.2.2.2.2.2.2 H5.out.2.2.2.2.1 (by omega)).mono ?_; rintro e w16 ⟨rfl, B16⟩; have BZ := BZ.trans (B16.mono BZ.size); have H6 := Lib.hid (And.intro (H5.out.1.below B16) (And.intro (H5.out.2.1.trans (B16.mono H5.out.2.1.size)) (And.intro (H5.out.2.2.1.below B16) (And.intro (H5.out.2.2.2.1.below B16) (And.intro (H5.out.2.2.2.2.1.below B16) (And.intro (H5.out.2.2.2.2.2.1.below B16) (And.intro (H5.out.2.2.2.2.2.2.1.below B16) (H5.out.2.2.2.2.2.2.2.below B16)))))))); clear B16 H5; clear hSS15; have hSS16 := And.intro ((H6.out.2.2.1).c0) (And.intro ((H6.out.2.2.1).c1) (And.intro ((H6.out.2.2.2.2.2.1).c0) ((H6.out.2.2.2.2.2.1).c1))))
    refine hK.out _ _ ?_ (fun hHeld => ?_)
    · assumption
    clear hK K
    refine wpAnyH_take (i := 4) (oi := { dst := some 26, op := Op.unOp UnOp.not 4 (Operand.tmp 25), type := 4, pos := "law.go:36", after := #[{ on := 3, ground := Ground.data }], guard := none }) (v := ?_) rfl (by kernel_rfl) (by kernel_rfl) (by kernel_rfl) (fun _ _ _ h => h) (Or.inl ⟨by rfl, ?_⟩) (by assumption) ?_
    rotate_left
    · (intro w0 hSw; (try dsimp only at hSw); go_simp; (try with_reducible rfl))
    try simp only [Act.put, List.setIfInBounds_toArray, List.set_cons_zero, List.set_cons_succ]
    refine wpAnyH_take (i := 5) (oi := { dst := some 27, op := Op.move (Operand.tmp 26), type := 4, pos := "law.go:36", after := #[{ on := 4, ground := Ground.data }, { on := 3, ground := Ground.chain }], guard := none }) (v := ?_) rfl (by kernel_rfl) (by kernel_rfl) (by kernel_rfl) (fun _ _ _ h => h) (Or.inl ⟨by rfl, ?_⟩) (by assumption) ?_
    rotate_left
    · (intro w0 hSw; (try dsimp only at hSw); go_simp; (try with_reducible rfl))
    try simp only [Act.put, List.setIfInBounds_toArray, List.set_cons_zero, List.set_cons_succ]
    refine wpAnyH_take (i := 6) (oi := { dst := some 28, op := Op.load 24 (Operand.tmp 2), type := 24, pos := "law.go:36", after := #[{ on := 5, ground := Ground.guard }], guard := some (5, false) }) (v := ?_) rfl (by kernel_rfl) (by kernel_rfl) (by kernel_rfl) (fun _ _ _ h => h) (Or.inl ⟨by rfl, ?_⟩) (by assumption) ?_
    rotate_left
    · (intro w0 hSw; (try dsimp only at hSw); go_simp; (try with_reducible rfl))
    try simp only [Act.put, List.setIfInBounds_toArray, List.set_cons_zero, List.set_cons_succ]
    refine wpAnyH_take (i := 8) (oi := { dst := some 30, op := Op.load 28 (Operand.tmp 5), type := 28, pos := "law.go:36", after := #[{ on := 5, ground := Ground.guard }], guard := some (5, false) }) (v := ?_) rfl (by kernel_rfl) (by kernel_rfl) (by kernel_rfl) (fun _ _ _ h => h) (Or.inl ⟨by rfl, ?_⟩) (by assumption) ?_
    rotate_left
    · (intro w0 hSw; (try dsimp only at hSw); go_simp; (try with_reducible rfl))
    try simp only [Act.put, List.setIfInBounds_toArray, List.set_cons_zero, List.set_cons_succ]
    refine wpAnyH_ready (rs := [7]) (by kernel_rfl) (by simp) ?_
    refine AllReadyH.cons rfl (fun K hK => ?_) AllReadyH.nil
    go_simp
    go_wp2_with (have hx := H6; go_at_call 15; clear hx; refine (text_nu H6.out.2.2.2.1 (by decide) H6.out.1).mono ?_; rintro e w17 ⟨rfl, B17⟩; have BZ := BZ.trans (B17.mono BZ.size); have H7 := Lib.hid (And.intro (H6.out.1.below B17) (And.intro (H6.out.2.1.trans (B17.mono H6.out.2.1.size)) (And.intro (H6.out.2.2.1.below B17) (And.intro (H6.out.2.2.2.1.below B17) (And.intro (H6.out.2.2.2.2.1.below B17) (And.intro (H6.out.2.2.2.2.2.1.below B17) (And.intro (H6.out.2.2.2.2.2.2.1.below B17) (H6.out.2.2.2.2.2.2.2.below B17)))))))); clear B17 H6; clear hSS16; have hSS17 := And.intro ((H7.out.2.2.1).c0) (And.intro ((H7.out.2.2.1).c1) (And.intro ((H7.out.2.2.2.2.2.1).c0) ((H7.out.2.2.2.2.2.1).c1))))
    refine hK.out _ _ ?_ (fun hHeld => ?_)
    · assumption
    clear hK K
    refine wpAnyH_ready (rs := [9]) (by kernel_rfl) (by simp) ?_
    refine AllReadyH.cons rfl (fun K hK => ?_) AllReadyH.nil
    go_simp
    go_wp2_with (have hx := H7; go_at_call 16; clear hx; refine (rtext_at H7.out.2.2.2.2.1 (by omega)).mono ?_; rintro e w18 ⟨rfl, B18⟩; have BZ := BZ.trans (B18.mono BZ.size); have H8 := Lib.hid (And.intro (H7.out.1.below B18) (And.intro (H7.out.2.1.trans (B18.mono H7.out.2.1.size)) (And.intro (H7.out.2.2.1.below B18) (And.intro (H7.out.2.2.2.1.below B18) (And.intro (H7.out.2.2.2.2.1.below B18) (And.intro (H7.out.2.2.2.2.2.1.below B18) (And.intro (H7.out.2.2.2.2.2.2.1.below B18) (H7.out.2.2.2.2.2.2.2.below B18)))))))); clear B18 H7; clear hSS17; have hSS18 := And.intro ((H8.out.2.2.1).c0) (And.intro ((H8.out.2.2.1).c1) (And.intro ((H8.out.2.2.2.2.2.1).c0) ((H8.out.2.2.2.2.2.1).c1))))
    refine hK.out _ _ ?_ (fun hHeld => ?_)
    · assumption
    clear hK K
    refine wpAnyH_take (i := 10) (oi := { dst := some 32, op := Op.binOp BinOp.neq 9 (Operand.tmp 29) (Operand.tmp 31) 9, type := 4, pos := "law.go:36", after := #[{ on := 7, ground := Ground.data }, { on := 9, ground := Ground.data }, { on := 5, ground := Ground.guard }], guard := some (5, false) }) (v := ?_) rfl (by kernel_rfl) (by kernel_rfl) (by kernel_rfl) (fun _ _ _ h => h) (Or.inl ⟨by rfl, ?_⟩) (by assumption) ?_
    rotate_left
    · (intro w0 hSw; (try dsimp only at hSw); go_simp; (try with_reducible rfl))
    try simp only [Act.put, List.setIfInBounds_toArray, List.set_cons_zero, List.set_cons_succ]
    refine wpAnyH_take (i := 11) (oi := { dst := some 33, op := Op.pick (Operand.tmp 27) (Operand.const (Value.bool true)) (Operand.tmp 32), type := 4, pos := "law.go:36", after := #[{ on := 5, ground := Ground.data }, { on := 10, ground := Ground.data }], guard := none }) (v := ?_) rfl (by kernel_rfl) (by kernel_rfl) (by kernel_rfl) (fun _ _ _ h => h) (Or.inl ⟨by rfl, ?_⟩) (by assumption) ?_
    rotate_left
    · (intro w0 hSw; (try dsimp only at hSw); go_simp; (try with_reducible rfl))
    try simp only [Act.put, List.setIfInBounds_toArray, List.set_cons_zero, List.set_cons_succ]
    refine wpAnyH_done (by kernel_rfl) (NoPanic.normal ?_) _
    clear hSS18
    all_goals (go_wp2_with fail; go_meet; exact ⟨rfl, BZ⟩)
  case rest =>
    obtain ⟨rfl, B13⟩ := hcut
    have H4 := Lib.hid (And.intro (H3.out.1.below B13.out) (And.intro (H3.out.2.1.trans (B13.out.mono H3.out.2.1.size)) (And.intro (H3.out.2.2.1.below B13.out) (And.intro (H3.out.2.2.2.1.below B13.out) (And.intro (H3.out.2.2.2.2.1.below B13.out) (H3.out.2.2.2.2.2.below B13.out))))))
    clear B13
    obtain ⟨w13, hw13⟩ : ∃ w13, w13 = wc := ⟨_, rfl⟩
    rw [← hw13] at H4 ⊢
    clear hw13
    obtain ⟨m, hm⟩ : ∃ m, clip64 x = m := ⟨_, rfl⟩
    obtain ⟨sm, hsm⟩ : ∃ sm, small64 x = sm := ⟨_, rfl⟩
    obtain ⟨f, hf⟩ : ∃ f, clipFix x = f := ⟨_, rfl⟩
    obtain ⟨fx, hfx⟩ : ∃ fx, isFix x = fx := ⟨_, rfl⟩
    have HV := Lib.hid (And.intro hm (And.intro hsm (And.intro hf hfx)))
    clear hm hsm hf hfx
    have yX1 := H4.out.2.2.1
    have yX10 := yX1.c0
    have yX11 := yX1.c1
    clear yX1
    go_wp2_with fail
    refine (small_lit H4.out.2.2.2.1 (by decide) HV.out.1 HV.out.2.1).mono ?_
    rintro e w19 ⟨rfl, B19⟩
    have H5 := Lib.hid (And.intro (H4.out.1.below B19) (And.intro (H4.out.2.1.trans (B19.mono H4.out.2.1.size)) (And.intro (H4.out.2.2.1.below B19) (And.intro (H4.out.2.2.2.1.below B19) (And.intro (H4.out.2.2.2.2.1.below B19) (H4.out.2.2.2.2.2.below B19))))))
    clear B19
    clear yX10 yX11
    have yXx := H5.out.2.2.2.2.2
    have yXx0 := yXx.c0
    have yXx1 := yXx.c1
    clear yXx
    go_wp2_with fail
    refine (within_lit (lo := -9223372036854775808) (hi := 9223372036854775807) H5.out.2.2.2.2.1 _ _ (by decide) (by decide) (by decide +kernel) (by decide +kernel) (by decide +kernel) (by decide +kernel) HV.out.2.1).mono ?_
    rintro e w20 ⟨rfl, B20⟩
    have H6 := Lib.hid (And.intro (H5.out.1.below B20) (And.intro (H5.out.2.1.trans (B20.mono H5.out.2.1.size)) (And.intro (H5.out.2.2.1.below B20) (And.intro (H5.out.2.2.2.1.below B20) (And.intro (H5.out.2.2.2.2.1.below B20) (H5.out.2.2.2.2.2.below B20))))))
    clear B20
    clear yXx0 yXx1
    have yX1 := H6.out.2.2.1
    have yX10 := yX1.c0
    have yX11 := yX1.c1
    clear yX1
    go_wp2_with fail
    refine (fix_lit' H6.out.2.2.2.1 (by decide) HV.out.2.2.1 HV.out.2.2.2).mono ?_
    rintro e w21 ⟨rfl, B21⟩
    have H7 := Lib.hid (And.intro (H6.out.1.below B21) (And.intro (H6.out.2.1.trans (B21.mono H6.out.2.1.size)) (And.intro (H6.out.2.2.1.below B21) (And.intro (H6.out.2.2.2.1.below B21) (And.intro (H6.out.2.2.2.2.1.below B21) (H6.out.2.2.2.2.2.below B21))))))
    clear B21
    clear yX10 yX11
    have yXx := H7.out.2.2.2.2.2
    have yXx0 := yXx.c0
    have yXx1 := yXx.c1
    clear yXx
    go_wp2_with fail
    refine (within_lit (lo := -536870912) (hi := 536870911) H7.out.2.2.2.2.1 _ _ (by decide) (by decide) (by decide +kernel) (by decide +kernel) (by decide +kernel) (by decide +kernel) HV.out.2.2.2).mono ?_
    rintro e w22 ⟨rfl, B22⟩
    have H8 := Lib.hid (And.intro (H7.out.1.below B22) (And.intro (H7.out.2.1.trans (B22.mono H7.out.2.1.size)) (And.intro (H7.out.2.2.1.below B22) (And.intro (H7.out.2.2.2.1.below B22) (And.intro (H7.out.2.2.2.2.1.below B22) (H7.out.2.2.2.2.2.below B22))))))
    clear B22
    clear yXx0 yXx1
    have hfs : fx = true → sm = true := fun h => by rw [← HV.out.2.1]; have h2 := HV.out.2.2.2; rw [h] at h2; unfold isFix at h2; unfold small64; rw [decide_eq_true_eq] at h2 ⊢; omega
    have hm1 : sm = true → m = x := fun h => by rw [← HV.out.1]; unfold clip64; rw [HV.out.2.1, h, if_pos rfl]
    have hm0 : sm = false → m = 0 := fun h => by rw [← HV.out.1]; unfold clip64; rw [HV.out.2.1, h]; rfl
    have hk1 : fx = true → f = x := fun h => by rw [← HV.out.2.2.1]; unfold clipFix; rw [HV.out.2.2.2, h, if_pos rfl]
    have hk0 : fx = false → f = 0 := fun h => by rw [← HV.out.2.2.1]; unfold clipFix; rw [HV.out.2.2.2, h]; rfl
    have hx9 : fx = true → D11.length ≤ 18 := fun h => fix_short H8.out.2.2.2.2.1 (HV.out.2.2.2.trans h)
    cases fx
    case true =>
      have e1 := hfs rfl
      subst e1
      have e2 := hm1 rfl
      have e3 := hk1 rfl
      have e4 := hx9 rfl
      rw [e2, e3]
      clear hfs hm1 hm0 hk1 hk0 hx9 e2 e3
      have d1 : decide ((D11.length : Int) ≤ 18) = true := by rw [decide_eq_true_eq]; omega
      have yXx := H8.out.2.2.2.2.2
      have yXx0 := yXx.c0
      have yXx1 := yXx.c1
      clear yXx
      go_wp2_with fail
      refine (rsmall_at H8.out.2.2.2.2.1 e4).mono ?_
      rintro e w23 ⟨rfl, B23⟩
      have H9 := Lib.hid (And.intro (H8.out.1.below B23) (And.intro (H8.out.2.1.trans (B23.mono H8.out.2.1.size)) (And.intro (H8.out.2.2.1.below B23) (And.intro (H8.out.2.2.2.1.below B23) (And.intro (H8.out.2.2.2.2.1.below B23) (H8.out.2.2.2.2.2.below B23))))))
      clear B23
      clear yXx0 yXx1
      have yXx := H9.out.2.2.2.2.2
      have yXx0 := yXx.c0
      have yXx1 := yXx.c1
      clear yXx
      go_wp2_with fail
      refine (rsmall_at H9.out.2.2.2.2.1 e4).mono ?_
      rintro e w24 ⟨rfl, B24⟩
      have H10 := Lib.hid (And.intro (H9.out.1.below B24) (And.intro (H9.out.2.1.trans (B24.mono H9.out.2.1.size)) (And.intro (H9.out.2.2.1.below B24) (And.intro (H9.out.2.2.2.1.below B24) (And.intro (H9.out.2.2.2.2.1.below B24) (H9.out.2.2.2.2.2.below B24))))))
      clear B24
      clear yXx0 yXx1
      go_upto_region 12 with fail
      go_wp2_with fail
      refine (of_at n HN.out w24).mono ?_
      rintro e w25 ⟨v25, rfl, m25, B25⟩
      obtain ⟨s25, p25, c25, D25, rfl, n25, k25, -⟩ := gives_of (n := 4) m25 (bnd_four HN.out)
      have H11 := Lib.hid (And.intro (H10.out.1.below B25) (And.intro (H10.out.2.1.trans (B25.mono H10.out.2.1.size)) (And.intro (H10.out.2.2.1.below B25) (And.intro (H10.out.2.2.2.1.below B25) (And.intro (H10.out.2.2.2.2.1.below B25) (And.intro (H10.out.2.2.2.2.2.below B25) (And.intro n25 k25)))))))
      clear n25 k25 m25 B25
      have H12 := Lib.hid (And.intro H11.out.1 (And.intro H11.out.2.1 (And.intro H11.out.2.2.2.2.2.2.1 H11.out.2.2.2.2.2.2.2)))
      obtain ⟨w26, hw26⟩ : ∃ w26, w26 = w25.alloc (.cells #[.bool s25, .slice p25 D25.length c25] 24) := ⟨_, rfl⟩
      have B26 : Below w25.heap.size w25 w26 := by rw [hw26]; exact (Below.refl _ _).alloc (Nat.le_refl _) _
      have X26 : Box w26 w25.heap.size (.bool s25) (.slice p25 D25.length c25) := by rw [hw26]; exact Box.fresh _ _ _ rfl
      have H13 := Lib.hid (And.intro (H12.out.1.below B26) (And.intro (H12.out.2.1.trans (B26.mono H12.out.2.1.size)) (And.intro (H12.out.2.2.1.below B26) (And.intro (H12.out.2.2.2.below B26) X26))))
      clear X26 B26
      go_upto_region 13 with fail
      rw [← hw26]
      clear hw26
      have yXy := H13.out.2.2.2.2
      have yXy0 := yXy.c0
      have yXy1 := yXy.c1
      clear yXy
      go_wp2_with fail
      refine (small_lit H13.out.2.2.1 (by decide) (a := n) (b := true) (clip_in HN.out) (small_in HN.out)).mono ?_
      rintro e w27 ⟨rfl, B27⟩
      have H14 := Lib.hid (And.intro (H13.out.1.below B27) (And.intro (H13.out.2.1.trans (B27.mono H13.out.2.1.size)) (And.intro (H13.out.2.2.1.below B27) (And.intro (H13.out.2.2.2.1.below B27) (H13.out.2.2.2.2.below B27)))))
      clear B27
      clear yXy0 yXy1
      go_upto_region 14 with fail
      have B28 : Below w27.heap.size w27 w27.drew := (Below.refl _ _).drew
      have H15 := Lib.hid (And.intro (H14.out.1.below B28) (And.intro (H14.out.2.1.trans (B28.mono H14.out.2.1.size)) (And.intro (H14.out.2.2.1.below B28) (And.intro (H14.out.2.2.2.1.below B28) (H14.out.2.2.2.2.below B28)))))
      clear B28
      have hSS : w27.drew.cell? ⟨w25.heap.size, 0, none⟩ = some (.bool s25) ∧ w27.drew.cell? ⟨w25.heap.size, 1, none⟩ = some (.slice p25 D25.length c25) := And.intro ((H15.out.2.2.2.2).c0) ((H15.out.2.2.2.2).c1)
      refine wp_region_noPanic ?_
      refine wp_region_held_drew (S := fun w' => w'.cell? ⟨w25.heap.size, 0, none⟩ = some (.bool s25) ∧ w'.cell? ⟨w25.heap.size, 1, none⟩ = some (.slice p25 D25.length c25)) (by kernel_rfl) hSS (fun hHeld => ?_)
      refine wpAnyH_take (i := 0) (oi := { dst := some 103, op := Op.move (Operand.tmp 14), type := 4, pos := "law.go:48", after := #[], guard := none }) (v := ?_) rfl (by kernel_rfl) (by kernel_rfl) (by kernel_rfl) (fun _ _ _ h => h) (Or.inl ⟨by rfl, ?_⟩) (by assumption) ?_
      rotate_left
      · (intro w0 hSw; (try dsimp only at hSw); go_simp; (try with_reducible rfl))
      try simp only [Act.put, List.setIfInBounds_toArray, List.set_cons_zero, List.set_cons_succ]
      refine wpAnyH_take (i := 1) (oi := { dst := some 104, op := Op.move (Operand.tmp 103), type := 4, pos := "law.go:48", after := #[{ on := 0, ground := Ground.data }], guard := none }) (v := ?_) rfl (by kernel_rfl) (by kernel_rfl) (by kernel_rfl) (fun _ _ _ h => h) (Or.inl ⟨by rfl, ?_⟩) (by assumption) ?_
      rotate_left
      · (intro w0 hSw; (try dsimp only at hSw); go_simp; (try with_reducible rfl))
      try simp only [Act.put, List.setIfInBounds_toArray, List.set_cons_zero, List.set_cons_succ]
      refine wpAnyH_take (i := 2) (oi := { dst := some 105, op := Op.move (Operand.tmp 13), type := 2, pos := "law.go:48", after := #[{ on := 1, ground := Ground.guard }], guard := some (1, true) }) (v := ?_) rfl (by kernel_rfl) (by kernel_rfl) (by kernel_rfl) (fun _ _ _ h => h) (Or.inl ⟨by rfl, ?_⟩) (by assumption) ?_
      rotate_left
      · (intro w0 hSw; (try dsimp only at hSw); go_simp; (try with_reducible rfl))
      try simp only [Act.put, List.setIfInBounds_toArray, List.set_cons_zero, List.set_cons_succ]
      refine wpAnyH_take (i := 3) (oi := { dst := some 106, op := Op.move (Operand.tmp 1), type := 2, pos := "law.go:48", after := #[{ on := 1, ground := Ground.guard }], guard := some (1, true) }) (v := ?_) rfl (by kernel_rfl) (by kernel_rfl) (by kernel_rfl) (fun _ _ _ h => h) (Or.inl ⟨by rfl, ?_⟩) (by assumption) ?_
      rotate_left
      · (intro w0 hSw; (try dsimp only at hSw); go_simp; (try with_reducible rfl))
      try simp only [Act.put, List.setIfInBounds_toArray, List.set_cons_zero, List.set_cons_succ]
      refine wpAnyH_take (i := 4) (oi := { dst := some 107, op := Op.binOp BinOp.eql 2 (Operand.tmp 105) (Operand.tmp 106) 2, type := 4, pos := "law.go:48", after := #[{ on := 2, ground := Ground.data }, { on := 3, ground := Ground.data }, { on := 1, ground := Ground.guard }], guard := some (1, true) }) (v := ?_) rfl (by kernel_rfl) (by kernel_rfl) (by kernel_rfl) (fun _ _ _ h => h) (Or.inl ⟨by rfl, ?_⟩) (by assumption) ?_
      rotate_left
      · (intro w0 hSw; (try dsimp only at hSw); go_simp; (try with_reducible rfl))
      try simp only [Act.put, List.setIfInBounds_toArray, List.set_cons_zero, List.set_cons_succ]
      refine wpAnyH_take (i := 5) (oi := { dst := some 108, op := Op.pick (Operand.tmp 104) (Operand.tmp 107) (Operand.const (Value.bool false)), type := 4, pos := "law.go:48", after := #[{ on := 1, ground := Ground.data }, { on := 4, ground := Ground.data }], guard := none }) (v := ?_) rfl (by kernel_rfl) (by kernel_rfl) (by kernel_rfl) (fun _ _ _ h => h) (Or.inl ⟨by rfl, ?_⟩) (by assumption) ?_
      rotate_left
      · (intro w0 hSw; (try dsimp only at hSw); go_simp; (try with_reducible rfl))
      try simp only [Act.put, List.setIfInBounds_toArray, List.set_cons_zero, List.set_cons_succ]
      refine wpAnyH_take (i := 6) (oi := { dst := some 109, op := Op.move (Operand.tmp 108), type := 4, pos := "law.go:48", after := #[{ on := 5, ground := Ground.data }, { on := 1, ground := Ground.chain }], guard := none }) (v := ?_) rfl (by kernel_rfl) (by kernel_rfl) (by kernel_rfl) (fun _ _ _ h => h) (Or.inl ⟨by rfl, ?_⟩) (by assumption) ?_
      rotate_left
      · (intro w0 hSw; (try dsimp only at hSw); go_simp; (try with_reducible rfl))
      try simp only [Act.put, List.setIfInBounds_toArray, List.set_cons_zero, List.set_cons_succ]
      refine wpAnyH_take (i := 7) (oi := { dst := some 110, op := Op.load 24 (Operand.tmp 12), type := 24, pos := "law.go:48", after := #[{ on := 6, ground := Ground.guard }], guard := some (6, true) }) (v := ?_) rfl (by kernel_rfl) (by kernel_rfl) (by kernel_rfl) (fun _ _ _ h => h) (Or.inl ⟨by rfl, ?_⟩) (by assumption) ?_
      rotate_left
      · (intro w0 hSw; (try dsimp only at hSw); go_simp; (try with_reducible rfl))
      try simp only [Act.put, List.setIfInBounds_toArray, List.set_cons_zero, List.set_cons_succ]
      refine wpAnyH_take (i := 8) (oi := { dst := some 111, op := Op.load 24 (Operand.tmp 12), type := 24, pos := "law.go:48", after := #[{ on := 6, ground := Ground.guard }], guard := some (6, true) }) (v := ?_) rfl (by kernel_rfl) (by kernel_rfl) (by kernel_rfl) (fun _ _ _ h => h) (Or.inl ⟨by rfl, ?_⟩) (by assumption) ?_
      rotate_left
      · (intro w0 hSw; (try dsimp only at hSw); go_simp; (try with_reducible rfl))
      try simp only [Act.put, List.setIfInBounds_toArray, List.set_cons_zero, List.set_cons_succ]
      refine wpAnyH_ready (rs := [9]) (by kernel_rfl) (by simp) ?_
      refine AllReadyH.cons rfl (fun K hK => ?_) AllReadyH.nil
      go_simp
      go_wp2_with (have hx := H15; go_at_call 12; clear hx; refine (of_num H15.out.2.2.1.toNm (by have := H15.out.2.2.1.len; omega)).mono ?_; rintro e w29 ⟨s29, p29, c29, D29, rfl, n29, z29, B29⟩; have H16 := Lib.hid (And.intro (H15.out.1.below B29) (And.intro (H15.out.2.1.trans (B29.mono H15.out.2.1.size)) (And.intro (H15.out.2.2.1.below B29) (And.intro (H15.out.2.2.2.1.below B29) (And.intro (H15.out.2.2.2.2.below B29) n29))))); clear n29 B29 H15; clear hSS; have hSS29 := And.intro ((H16.out.2.2.2.2.1).c0) ((H16.out.2.2.2.2.1).c1))
      refine hK.out _ _ ?_ (fun hHeld => ?_)
      · assumption
      clear hK K
      refine wpAnyH_ready (rs := [10]) (by kernel_rfl) (by simp) ?_
      refine AllReadyH.cons rfl (fun K hK => ?_) AllReadyH.nil
      go_simp
      go_wp2_with (have hx := H16; go_at_call 13; clear hx; refine (alike_at H16.out.2.2.1.toNm H16.out.2.2.2.1 H16.out.2.2.2.2.2 (by have := H16.out.2.2.1.len; omega)).mono ?_; rintro e w30 ⟨rfl, B30⟩; have H17 := Lib.hid (And.intro (H16.out.1.below B30) (And.intro (H16.out.2.1.trans (B30.mono H16.out.2.1.size)) (And.intro (H16.out.2.2.1.below B30) (And.intro (H16.out.2.2.2.1.below B30) (And.intro (H16.out.2.2.2.2.1.below B30) (H16.out.2.2.2.2.2.below B30)))))); clear B30 H16; clear hSS29; have hSS30 := And.intro ((H17.out.2.2.2.2.1).c0) ((H17.out.2.2.2.2.1).c1))
      refine hK.out _ _ ?_ (fun hHeld => ?_)
      · assumption
      clear hK K
      refine wpAnyH_take (i := 11) (oi := { dst := some 114, op := Op.pick (Operand.tmp 109) (Operand.tmp 113) (Operand.const (Value.bool false)), type := 4, pos := "law.go:48", after := #[{ on := 6, ground := Ground.data }, { on := 10, ground := Ground.data }], guard := none }) (v := ?_) rfl (by kernel_rfl) (by kernel_rfl) (by kernel_rfl) (fun _ _ _ h => h) (Or.inl ⟨by rfl, ?_⟩) (by assumption) ?_
      rotate_left
      · (intro w0 hSw; (try dsimp only at hSw); go_simp; (try with_reducible rfl))
      try simp only [Act.put, List.setIfInBounds_toArray, List.set_cons_zero, List.set_cons_succ]
      refine wpAnyH_take (i := 12) (oi := { dst := some 115, op := Op.move (Operand.tmp 114), type := 4, pos := "law.go:48", after := #[{ on := 11, ground := Ground.data }, { on := 10, ground := Ground.chain }], guard := none }) (v := ?_) rfl (by kernel_rfl) (by kernel_rfl) (by kernel_rfl) (fun _ _ _ h => h) (Or.inl ⟨by rfl, ?_⟩) (by assumption) ?_
      rotate_left
      · (intro w0 hSw; (try dsimp only at hSw); go_simp; (try with_reducible rfl))
      try simp only [Act.put, List.setIfInBounds_toArray, List.set_cons_zero, List.set_cons_succ]
      refine wpAnyH_ready (rs := [13]) (by kernel_rfl) (by simp) ?_
      refine AllReadyH.cons rfl (fun K hK => ?_) AllReadyH.nil
      go_simp
      go_wp2_with (have hx := H17; go_at_call 11; clear hx; refine (awake_at H17.out.1).mono ?_; rintro e w31 ⟨rfl, B31⟩; have H18 := Lib.hid (And.intro (H17.out.1.below B31) (And.intro (H17.out.2.1.trans (B31.mono H17.out.2.1.size)) (And.intro (H17.out.2.2.1.below B31) (And.intro (H17.out.2.2.2.1.below B31) (And.intro (H17.out.2.2.2.2.1.below B31) (H17.out.2.2.2.2.2.below B31)))))); clear B31 H17; clear hSS30; have hSS31 := And.intro ((H18.out.2.2.2.2.1).c0) ((H18.out.2.2.2.2.1).c1))
      refine hK.out _ _ ?_ (fun hHeld => ?_)
      · assumption
      clear hK K
      refine wpAnyH_take (i := 14) (oi := { dst := some 117, op := Op.pick (Operand.tmp 115) (Operand.tmp 116) (Operand.const (Value.bool false)), type := 4, pos := "law.go:48", after := #[{ on := 12, ground := Ground.data }, { on := 13, ground := Ground.data }], guard := none }) (v := ?_) rfl (by kernel_rfl) (by kernel_rfl) (by kernel_rfl) (fun _ _ _ h => h) (Or.inl ⟨by rfl, ?_⟩) (by assumption) ?_
      rotate_left
      · (intro w0 hSw; (try dsimp only at hSw); go_simp; (try with_reducible rfl))
      try simp only [Act.put, List.setIfInBounds_toArray, List.set_cons_zero, List.set_cons_succ]
      refine wpAnyH_take (i := 15) (oi := { dst := some 4, op := Op.assign (Operand.tmp 117), type := 4, pos := "law.go:48", after := #[{ on := 14, ground := Ground.data }, { on := 13, ground := Ground.chain }, { on := 0, ground := Ground.phase }, { on := 1, ground := Ground.phase }, { on := 2, ground := Ground.phase }, { on := 3, ground := Ground.phase }, { on := 4, ground := Ground.phase }, { on := 5, ground := Ground.phase }, { on := 6, ground := Ground.phase }, { on := 7, ground := Ground.phase }, { on := 8, ground := Ground.phase }, { on := 9, ground := Ground.phase }, { on := 10, ground := Ground.phase }, { on := 11, ground := Ground.phase }, { on := 12, ground := Ground.phase }, { on := 13, ground := Ground.phase }, { on := 14, ground := Ground.phase }], guard := none }) (v := ?_) rfl (by kernel_rfl) (by kernel_rfl) (by kernel_rfl) (fun _ _ _ h => h) (Or.inl ⟨by rfl, ?_⟩) (by assumption) ?_
      rotate_left
      · (intro w0 hSw; (try dsimp only at hSw); go_simp; (try with_reducible rfl))
      try simp only [Act.put, List.setIfInBounds_toArray, List.set_cons_zero, List.set_cons_succ]
      refine wpAnyH_done (by kernel_rfl) (NoPanic.normal ?_) _
      clear hSS31
      go_wp2_with fail
      go_ret
      exact ⟨rfl, H18.out.2.1⟩
    case false =>
      cases sm
      case false =>
        have e2 := hm0 rfl
        have e3 := hk0 rfl
        rw [e2, e3]
        clear hfs hm1 hm0 hk1 hk0 hx9 e2 e3
        go_upto_region 12 with fail
        go_wp2_with fail
        refine (of_at n HN.out w22).mono ?_
        rintro e w23 ⟨v23, rfl, m23, B23⟩
        obtain ⟨s23, p23, c23, D23, rfl, n23, k23, -⟩ := gives_of (n := 4) m23 (bnd_four HN.out)
        have H9 := Lib.hid (And.intro (H8.out.1.below B23) (And.intro (H8.out.2.1.trans (B23.mono H8.out.2.1.size)) (And.intro (H8.out.2.2.1.below B23) (And.intro (H8.out.2.2.2.1.below B23) (And.intro (H8.out.2.2.2.2.1.below B23) (And.intro (H8.out.2.2.2.2.2.below B23) (And.intro n23 k23)))))))
        clear n23 k23 m23 B23
        have H10 := Lib.hid (And.intro H9.out.1 (And.intro H9.out.2.1 (And.intro H9.out.2.2.2.2.2.2.1 H9.out.2.2.2.2.2.2.2)))
        obtain ⟨w24, hw24⟩ : ∃ w24, w24 = w23.alloc (.cells #[.bool s23, .slice p23 D23.length c23] 24) := ⟨_, rfl⟩
        have B24 : Below w23.heap.size w23 w24 := by rw [hw24]; exact (Below.refl _ _).alloc (Nat.le_refl _) _
        have X24 : Box w24 w23.heap.size (.bool s23) (.slice p23 D23.length c23) := by rw [hw24]; exact Box.fresh _ _ _ rfl
        have H11 := Lib.hid (And.intro (H10.out.1.below B24) (And.intro (H10.out.2.1.trans (B24.mono H10.out.2.1.size)) (And.intro (H10.out.2.2.1.below B24) (And.intro (H10.out.2.2.2.below B24) X24))))
        clear X24 B24
        go_upto_region 13 with fail
        rw [← hw24]
        clear hw24
        have yXy := H11.out.2.2.2.2
        have yXy0 := yXy.c0
        have yXy1 := yXy.c1
        clear yXy
        go_wp2_with fail
        refine (small_lit H11.out.2.2.1 (by decide) (a := n) (b := true) (clip_in HN.out) (small_in HN.out)).mono ?_
        rintro e w25 ⟨rfl, B25⟩
        have H12 := Lib.hid (And.intro (H11.out.1.below B25) (And.intro (H11.out.2.1.trans (B25.mono H11.out.2.1.size)) (And.intro (H11.out.2.2.1.below B25) (And.intro (H11.out.2.2.2.1.below B25) (H11.out.2.2.2.2.below B25)))))
        clear B25
        clear yXy0 yXy1
        go_upto_region 14 with fail
        have B26 : Below w25.heap.size w25 w25.drew := (Below.refl _ _).drew
        have H13 := Lib.hid (And.intro (H12.out.1.below B26) (And.intro (H12.out.2.1.trans (B26.mono H12.out.2.1.size)) (And.intro (H12.out.2.2.1.below B26) (And.intro (H12.out.2.2.2.1.below B26) (H12.out.2.2.2.2.below B26)))))
        clear B26
        have hSS : w25.drew.cell? ⟨w23.heap.size, 0, none⟩ = some (.bool s23) ∧ w25.drew.cell? ⟨w23.heap.size, 1, none⟩ = some (.slice p23 D23.length c23) := And.intro ((H13.out.2.2.2.2).c0) ((H13.out.2.2.2.2).c1)
        refine wp_region_noPanic ?_
        refine wp_region_held_drew (S := fun w' => w'.cell? ⟨w23.heap.size, 0, none⟩ = some (.bool s23) ∧ w'.cell? ⟨w23.heap.size, 1, none⟩ = some (.slice p23 D23.length c23)) (by kernel_rfl) hSS (fun hHeld => ?_)
        refine wpAnyH_take (i := 0) (oi := { dst := some 103, op := Op.move (Operand.tmp 14), type := 4, pos := "law.go:48", after := #[], guard := none }) (v := ?_) rfl (by kernel_rfl) (by kernel_rfl) (by kernel_rfl) (fun _ _ _ h => h) (Or.inl ⟨by rfl, ?_⟩) (by assumption) ?_
        rotate_left
        · (intro w0 hSw; (try dsimp only at hSw); go_simp; (try with_reducible rfl))
        try simp only [Act.put, List.setIfInBounds_toArray, List.set_cons_zero, List.set_cons_succ]
        refine wpAnyH_take (i := 1) (oi := { dst := some 104, op := Op.move (Operand.tmp 103), type := 4, pos := "law.go:48", after := #[{ on := 0, ground := Ground.data }], guard := none }) (v := ?_) rfl (by kernel_rfl) (by kernel_rfl) (by kernel_rfl) (fun _ _ _ h => h) (Or.inl ⟨by rfl, ?_⟩) (by assumption) ?_
        rotate_left
        · (intro w0 hSw; (try dsimp only at hSw); go_simp; (try with_reducible rfl))
        try simp only [Act.put, List.setIfInBounds_toArray, List.set_cons_zero, List.set_cons_succ]
        refine wpAnyH_take (i := 2) (oi := { dst := some 105, op := Op.move (Operand.tmp 13), type := 2, pos := "law.go:48", after := #[{ on := 1, ground := Ground.guard }], guard := some (1, true) }) (v := ?_) rfl (by kernel_rfl) (by kernel_rfl) (by kernel_rfl) (fun _ _ _ h => h) (Or.inl ⟨by rfl, ?_⟩) (by assumption) ?_
        rotate_left
        · (intro w0 hSw; (try dsimp only at hSw); go_simp; (try with_reducible rfl))
        try simp only [Act.put, List.setIfInBounds_toArray, List.set_cons_zero, List.set_cons_succ]
        refine wpAnyH_take (i := 3) (oi := { dst := some 106, op := Op.move (Operand.tmp 1), type := 2, pos := "law.go:48", after := #[{ on := 1, ground := Ground.guard }], guard := some (1, true) }) (v := ?_) rfl (by kernel_rfl) (by kernel_rfl) (by kernel_rfl) (fun _ _ _ h => h) (Or.inl ⟨by rfl, ?_⟩) (by assumption) ?_
        rotate_left
        · (intro w0 hSw; (try dsimp only at hSw); go_simp; (try with_reducible rfl))
        try simp only [Act.put, List.setIfInBounds_toArray, List.set_cons_zero, List.set_cons_succ]
        refine wpAnyH_take (i := 4) (oi := { dst := some 107, op := Op.binOp BinOp.eql 2 (Operand.tmp 105) (Operand.tmp 106) 2, type := 4, pos := "law.go:48", after := #[{ on := 2, ground := Ground.data }, { on := 3, ground := Ground.data }, { on := 1, ground := Ground.guard }], guard := some (1, true) }) (v := ?_) rfl (by kernel_rfl) (by kernel_rfl) (by kernel_rfl) (fun _ _ _ h => h) (Or.inl ⟨by rfl, ?_⟩) (by assumption) ?_
        rotate_left
        · (intro w0 hSw; (try dsimp only at hSw); go_simp; (try with_reducible rfl))
        try simp only [Act.put, List.setIfInBounds_toArray, List.set_cons_zero, List.set_cons_succ]
        refine wpAnyH_take (i := 5) (oi := { dst := some 108, op := Op.pick (Operand.tmp 104) (Operand.tmp 107) (Operand.const (Value.bool false)), type := 4, pos := "law.go:48", after := #[{ on := 1, ground := Ground.data }, { on := 4, ground := Ground.data }], guard := none }) (v := ?_) rfl (by kernel_rfl) (by kernel_rfl) (by kernel_rfl) (fun _ _ _ h => h) (Or.inl ⟨by rfl, ?_⟩) (by assumption) ?_
        rotate_left
        · (intro w0 hSw; (try dsimp only at hSw); go_simp; (try with_reducible rfl))
        try simp only [Act.put, List.setIfInBounds_toArray, List.set_cons_zero, List.set_cons_succ]
        refine wpAnyH_take (i := 6) (oi := { dst := some 109, op := Op.move (Operand.tmp 108), type := 4, pos := "law.go:48", after := #[{ on := 5, ground := Ground.data }, { on := 1, ground := Ground.chain }], guard := none }) (v := ?_) rfl (by kernel_rfl) (by kernel_rfl) (by kernel_rfl) (fun _ _ _ h => h) (Or.inl ⟨by rfl, ?_⟩) (by assumption) ?_
        rotate_left
        · (intro w0 hSw; (try dsimp only at hSw); go_simp; (try with_reducible rfl))
        try simp only [Act.put, List.setIfInBounds_toArray, List.set_cons_zero, List.set_cons_succ]
        refine wpAnyH_take (i := 7) (oi := { dst := some 110, op := Op.load 24 (Operand.tmp 12), type := 24, pos := "law.go:48", after := #[{ on := 6, ground := Ground.guard }], guard := some (6, true) }) (v := ?_) rfl (by kernel_rfl) (by kernel_rfl) (by kernel_rfl) (fun _ _ _ h => h) (Or.inl ⟨by rfl, ?_⟩) (by assumption) ?_
        rotate_left
        · (intro w0 hSw; (try dsimp only at hSw); go_simp; (try with_reducible rfl))
        try simp only [Act.put, List.setIfInBounds_toArray, List.set_cons_zero, List.set_cons_succ]
        refine wpAnyH_take (i := 8) (oi := { dst := some 111, op := Op.load 24 (Operand.tmp 12), type := 24, pos := "law.go:48", after := #[{ on := 6, ground := Ground.guard }], guard := some (6, true) }) (v := ?_) rfl (by kernel_rfl) (by kernel_rfl) (by kernel_rfl) (fun _ _ _ h => h) (Or.inl ⟨by rfl, ?_⟩) (by assumption) ?_
        rotate_left
        · (intro w0 hSw; (try dsimp only at hSw); go_simp; (try with_reducible rfl))
        try simp only [Act.put, List.setIfInBounds_toArray, List.set_cons_zero, List.set_cons_succ]
        refine wpAnyH_ready (rs := [9]) (by kernel_rfl) (by simp) ?_
        refine AllReadyH.cons rfl (fun K hK => ?_) AllReadyH.nil
        go_simp
        go_wp2_with (have hx := H13; go_at_call 12; clear hx; refine (of_num H13.out.2.2.1.toNm (by have := H13.out.2.2.1.len; omega)).mono ?_; rintro e w27 ⟨s27, p27, c27, D27, rfl, n27, z27, B27⟩; have H14 := Lib.hid (And.intro (H13.out.1.below B27) (And.intro (H13.out.2.1.trans (B27.mono H13.out.2.1.size)) (And.intro (H13.out.2.2.1.below B27) (And.intro (H13.out.2.2.2.1.below B27) (And.intro (H13.out.2.2.2.2.below B27) n27))))); clear n27 B27 H13; clear hSS; have hSS27 := And.intro ((H14.out.2.2.2.2.1).c0) ((H14.out.2.2.2.2.1).c1))
        refine hK.out _ _ ?_ (fun hHeld => ?_)
        · assumption
        clear hK K
        refine wpAnyH_ready (rs := [10]) (by kernel_rfl) (by simp) ?_
        refine AllReadyH.cons rfl (fun K hK => ?_) AllReadyH.nil
        go_simp
        go_wp2_with (have hx := H14; go_at_call 13; clear hx; refine (alike_at H14.out.2.2.1.toNm H14.out.2.2.2.1 H14.out.2.2.2.2.2 (by have := H14.out.2.2.1.len; omega)).mono ?_; rintro e w28 ⟨rfl, B28⟩; have H15 := Lib.hid (And.intro (H14.out.1.below B28) (And.intro (H14.out.2.1.trans (B28.mono H14.out.2.1.size)) (And.intro (H14.out.2.2.1.below B28) (And.intro (H14.out.2.2.2.1.below B28) (And.intro (H14.out.2.2.2.2.1.below B28) (H14.out.2.2.2.2.2.below B28)))))); clear B28 H14; clear hSS27; have hSS28 := And.intro ((H15.out.2.2.2.2.1).c0) ((H15.out.2.2.2.2.1).c1))
        refine hK.out _ _ ?_ (fun hHeld => ?_)
        · assumption
        clear hK K
        refine wpAnyH_take (i := 11) (oi := { dst := some 114, op := Op.pick (Operand.tmp 109) (Operand.tmp 113) (Operand.const (Value.bool false)), type := 4, pos := "law.go:48", after := #[{ on := 6, ground := Ground.data }, { on := 10, ground := Ground.data }], guard := none }) (v := ?_) rfl (by kernel_rfl) (by kernel_rfl) (by kernel_rfl) (fun _ _ _ h => h) (Or.inl ⟨by rfl, ?_⟩) (by assumption) ?_
        rotate_left
        · (intro w0 hSw; (try dsimp only at hSw); go_simp; (try with_reducible rfl))
        try simp only [Act.put, List.setIfInBounds_toArray, List.set_cons_zero, List.set_cons_succ]
        refine wpAnyH_take (i := 12) (oi := { dst := some 115, op := Op.move (Operand.tmp 114), type := 4, pos := "law.go:48", after := #[{ on := 11, ground := Ground.data }, { on := 10, ground := Ground.chain }], guard := none }) (v := ?_) rfl (by kernel_rfl) (by kernel_rfl) (by kernel_rfl) (fun _ _ _ h => h) (Or.inl ⟨by rfl, ?_⟩) (by assumption) ?_
        rotate_left
        · (intro w0 hSw; (try dsimp only at hSw); go_simp; (try with_reducible rfl))
        try simp only [Act.put, List.setIfInBounds_toArray, List.set_cons_zero, List.set_cons_succ]
        refine wpAnyH_ready (rs := [13]) (by kernel_rfl) (by simp) ?_
        refine AllReadyH.cons rfl (fun K hK => ?_) AllReadyH.nil
        go_simp
        go_wp2_with (have hx := H15; go_at_call 11; clear hx; refine (awake_at H15.out.1).mono ?_; rintro e w29 ⟨rfl, B29⟩; have H16 := Lib.hid (And.intro (H15.out.1.below B29) (And.intro (H15.out.2.1.trans (B29.mono H15.out.2.1.size)) (And.intro (H15.out.2.2.1.below B29) (And.intro (H15.out.2.2.2.1.below B29) (And.intro (H15.out.2.2.2.2.1.below B29) (H15.out.2.2.2.2.2.below B29)))))); clear B29 H15; clear hSS28; have hSS29 := And.intro ((H16.out.2.2.2.2.1).c0) ((H16.out.2.2.2.2.1).c1))
        refine hK.out _ _ ?_ (fun hHeld => ?_)
        · assumption
        clear hK K
        refine wpAnyH_take (i := 14) (oi := { dst := some 117, op := Op.pick (Operand.tmp 115) (Operand.tmp 116) (Operand.const (Value.bool false)), type := 4, pos := "law.go:48", after := #[{ on := 12, ground := Ground.data }, { on := 13, ground := Ground.data }], guard := none }) (v := ?_) rfl (by kernel_rfl) (by kernel_rfl) (by kernel_rfl) (fun _ _ _ h => h) (Or.inl ⟨by rfl, ?_⟩) (by assumption) ?_
        rotate_left
        · (intro w0 hSw; (try dsimp only at hSw); go_simp; (try with_reducible rfl))
        try simp only [Act.put, List.setIfInBounds_toArray, List.set_cons_zero, List.set_cons_succ]
        refine wpAnyH_take (i := 15) (oi := { dst := some 4, op := Op.assign (Operand.tmp 117), type := 4, pos := "law.go:48", after := #[{ on := 14, ground := Ground.data }, { on := 13, ground := Ground.chain }, { on := 0, ground := Ground.phase }, { on := 1, ground := Ground.phase }, { on := 2, ground := Ground.phase }, { on := 3, ground := Ground.phase }, { on := 4, ground := Ground.phase }, { on := 5, ground := Ground.phase }, { on := 6, ground := Ground.phase }, { on := 7, ground := Ground.phase }, { on := 8, ground := Ground.phase }, { on := 9, ground := Ground.phase }, { on := 10, ground := Ground.phase }, { on := 11, ground := Ground.phase }, { on := 12, ground := Ground.phase }, { on := 13, ground := Ground.phase }, { on := 14, ground := Ground.phase }], guard := none }) (v := ?_) rfl (by kernel_rfl) (by kernel_rfl) (by kernel_rfl) (fun _ _ _ h => h) (Or.inl ⟨by rfl, ?_⟩) (by assumption) ?_
        rotate_left
        · (intro w0 hSw; (try dsimp only at hSw); go_simp; (try with_reducible rfl))
        try simp only [Act.put, List.setIfInBounds_toArray, List.set_cons_zero, List.set_cons_succ]
        refine wpAnyH_done (by kernel_rfl) (NoPanic.normal ?_) _
        clear hSS29
        go_wp2_with fail
        go_ret
        exact ⟨rfl, H16.out.2.1⟩
      case true =>
        have e2 := hm1 rfl
        have e3 := hk0 rfl
        rw [e2, e3]
        clear hfs hm1 hm0 hk1 hk0 hx9 e2 e3
        by_cases e4 : D11.length ≤ 18
        · have d1 : decide ((D11.length : Int) ≤ 18) = true := by rw [decide_eq_true_eq]; omega
          have yXx := H8.out.2.2.2.2.2
          have yXx0 := yXx.c0
          have yXx1 := yXx.c1
          clear yXx
          go_wp2_with fail
          refine (rsmall_at H8.out.2.2.2.2.1 e4).mono ?_
          rintro e w23 ⟨rfl, B23⟩
          have H9 := Lib.hid (And.intro (H8.out.1.below B23) (And.intro (H8.out.2.1.trans (B23.mono H8.out.2.1.size)) (And.intro (H8.out.2.2.1.below B23) (And.intro (H8.out.2.2.2.1.below B23) (And.intro (H8.out.2.2.2.2.1.below B23) (H8.out.2.2.2.2.2.below B23))))))
          clear B23
          clear yXx0 yXx1
          go_upto_region 12 with fail
          go_wp2_with fail
          refine (of_at n HN.out w23).mono ?_
          rintro e w24 ⟨v24, rfl, m24, B24⟩
          obtain ⟨s24, p24, c24, D24, rfl, n24, k24, -⟩ := gives_of (n := 4) m24 (bnd_four HN.out)
          have H10 := Lib.hid (And.intro (H9.out.1.below B24) (And.intro (H9.out.2.1.trans (B24.mono H9.out.2.1.size)) (And.intro (H9.out.2.2.1.below B24) (And.intro (H9.out.2.2.2.1.below B24) (And.intro (H9.out.2.2.2.2.1.below B24) (And.intro (H9.out.2.2.2.2.2.below B24) (And.intro n24 k24)))))))
          clear n24 k24 m24 B24
          have H11 := Lib.hid (And.intro H10.out.1 (And.intro H10.out.2.1 (And.intro H10.out.2.2.2.2.2.2.1 H10.out.2.2.2.2.2.2.2)))
          obtain ⟨w25, hw25⟩ : ∃ w25, w25 = w24.alloc (.cells #[.bool s24, .slice p24 D24.length c24] 24) := ⟨_, rfl⟩
          have B25 : Below w24.heap.size w24 w25 := by rw [hw25]; exact (Below.refl _ _).alloc (Nat.le_refl _) _
          have X25 : Box w25 w24.heap.size (.bool s24) (.slice p24 D24.length c24) := by rw [hw25]; exact Box.fresh _ _ _ rfl
          have H12 := Lib.hid (And.intro (H11.out.1.below B25) (And.intro (H11.out.2.1.trans (B25.mono H11.out.2.1.size)) (And.intro (H11.out.2.2.1.below B25) (And.intro (H11.out.2.2.2.below B25) X25))))
          clear X25 B25
          go_upto_region 13 with fail
          rw [← hw25]
          clear hw25
          have yXy := H12.out.2.2.2.2
          have yXy0 := yXy.c0
          have yXy1 := yXy.c1
          clear yXy
          go_wp2_with fail
          refine (small_lit H12.out.2.2.1 (by decide) (a := n) (b := true) (clip_in HN.out) (small_in HN.out)).mono ?_
          rintro e w26 ⟨rfl, B26⟩
          have H13 := Lib.hid (And.intro (H12.out.1.below B26) (And.intro (H12.out.2.1.trans (B26.mono H12.out.2.1.size)) (And.intro (H12.out.2.2.1.below B26) (And.intro (H12.out.2.2.2.1.below B26) (H12.out.2.2.2.2.below B26)))))
          clear B26
          clear yXy0 yXy1
          go_upto_region 14 with fail
          have B27 : Below w26.heap.size w26 w26.drew := (Below.refl _ _).drew
          have H14 := Lib.hid (And.intro (H13.out.1.below B27) (And.intro (H13.out.2.1.trans (B27.mono H13.out.2.1.size)) (And.intro (H13.out.2.2.1.below B27) (And.intro (H13.out.2.2.2.1.below B27) (H13.out.2.2.2.2.below B27)))))
          clear B27
          have hSS : w26.drew.cell? ⟨w24.heap.size, 0, none⟩ = some (.bool s24) ∧ w26.drew.cell? ⟨w24.heap.size, 1, none⟩ = some (.slice p24 D24.length c24) := And.intro ((H14.out.2.2.2.2).c0) ((H14.out.2.2.2.2).c1)
          refine wp_region_noPanic ?_
          refine wp_region_held_drew (S := fun w' => w'.cell? ⟨w24.heap.size, 0, none⟩ = some (.bool s24) ∧ w'.cell? ⟨w24.heap.size, 1, none⟩ = some (.slice p24 D24.length c24)) (by kernel_rfl) hSS (fun hHeld => ?_)
          refine wpAnyH_take (i := 0) (oi := { dst := some 103, op := Op.move (Operand.tmp 14), type := 4, pos := "law.go:48", after := #[], guard := none }) (v := ?_) rfl (by kernel_rfl) (by kernel_rfl) (by kernel_rfl) (fun _ _ _ h => h) (Or.inl ⟨by rfl, ?_⟩) (by assumption) ?_
          rotate_left
          · (intro w0 hSw; (try dsimp only at hSw); go_simp; (try with_reducible rfl))
          try simp only [Act.put, List.setIfInBounds_toArray, List.set_cons_zero, List.set_cons_succ]
          refine wpAnyH_take (i := 1) (oi := { dst := some 104, op := Op.move (Operand.tmp 103), type := 4, pos := "law.go:48", after := #[{ on := 0, ground := Ground.data }], guard := none }) (v := ?_) rfl (by kernel_rfl) (by kernel_rfl) (by kernel_rfl) (fun _ _ _ h => h) (Or.inl ⟨by rfl, ?_⟩) (by assumption) ?_
          rotate_left
          · (intro w0 hSw; (try dsimp only at hSw); go_simp; (try with_reducible rfl))
          try simp only [Act.put, List.setIfInBounds_toArray, List.set_cons_zero, List.set_cons_succ]
          refine wpAnyH_take (i := 2) (oi := { dst := some 105, op := Op.move (Operand.tmp 13), type := 2, pos := "law.go:48", after := #[{ on := 1, ground := Ground.guard }], guard := some (1, true) }) (v := ?_) rfl (by kernel_rfl) (by kernel_rfl) (by kernel_rfl) (fun _ _ _ h => h) (Or.inl ⟨by rfl, ?_⟩) (by assumption) ?_
          rotate_left
          · (intro w0 hSw; (try dsimp only at hSw); go_simp; (try with_reducible rfl))
          try simp only [Act.put, List.setIfInBounds_toArray, List.set_cons_zero, List.set_cons_succ]
          refine wpAnyH_take (i := 3) (oi := { dst := some 106, op := Op.move (Operand.tmp 1), type := 2, pos := "law.go:48", after := #[{ on := 1, ground := Ground.guard }], guard := some (1, true) }) (v := ?_) rfl (by kernel_rfl) (by kernel_rfl) (by kernel_rfl) (fun _ _ _ h => h) (Or.inl ⟨by rfl, ?_⟩) (by assumption) ?_
          rotate_left
          · (intro w0 hSw; (try dsimp only at hSw); go_simp; (try with_reducible rfl))
          try simp only [Act.put, List.setIfInBounds_toArray, List.set_cons_zero, List.set_cons_succ]
          refine wpAnyH_take (i := 4) (oi := { dst := some 107, op := Op.binOp BinOp.eql 2 (Operand.tmp 105) (Operand.tmp 106) 2, type := 4, pos := "law.go:48", after := #[{ on := 2, ground := Ground.data }, { on := 3, ground := Ground.data }, { on := 1, ground := Ground.guard }], guard := some (1, true) }) (v := ?_) rfl (by kernel_rfl) (by kernel_rfl) (by kernel_rfl) (fun _ _ _ h => h) (Or.inl ⟨by rfl, ?_⟩) (by assumption) ?_
          rotate_left
          · (intro w0 hSw; (try dsimp only at hSw); go_simp; (try with_reducible rfl))
          try simp only [Act.put, List.setIfInBounds_toArray, List.set_cons_zero, List.set_cons_succ]
          refine wpAnyH_take (i := 5) (oi := { dst := some 108, op := Op.pick (Operand.tmp 104) (Operand.tmp 107) (Operand.const (Value.bool false)), type := 4, pos := "law.go:48", after := #[{ on := 1, ground := Ground.data }, { on := 4, ground := Ground.data }], guard := none }) (v := ?_) rfl (by kernel_rfl) (by kernel_rfl) (by kernel_rfl) (fun _ _ _ h => h) (Or.inl ⟨by rfl, ?_⟩) (by assumption) ?_
          rotate_left
          · (intro w0 hSw; (try dsimp only at hSw); go_simp; (try with_reducible rfl))
          try simp only [Act.put, List.setIfInBounds_toArray, List.set_cons_zero, List.set_cons_succ]
          refine wpAnyH_take (i := 6) (oi := { dst := some 109, op := Op.move (Operand.tmp 108), type := 4, pos := "law.go:48", after := #[{ on := 5, ground := Ground.data }, { on := 1, ground := Ground.chain }], guard := none }) (v := ?_) rfl (by kernel_rfl) (by kernel_rfl) (by kernel_rfl) (fun _ _ _ h => h) (Or.inl ⟨by rfl, ?_⟩) (by assumption) ?_
          rotate_left
          · (intro w0 hSw; (try dsimp only at hSw); go_simp; (try with_reducible rfl))
          try simp only [Act.put, List.setIfInBounds_toArray, List.set_cons_zero, List.set_cons_succ]
          refine wpAnyH_take (i := 7) (oi := { dst := some 110, op := Op.load 24 (Operand.tmp 12), type := 24, pos := "law.go:48", after := #[{ on := 6, ground := Ground.guard }], guard := some (6, true) }) (v := ?_) rfl (by kernel_rfl) (by kernel_rfl) (by kernel_rfl) (fun _ _ _ h => h) (Or.inl ⟨by rfl, ?_⟩) (by assumption) ?_
          rotate_left
          · (intro w0 hSw; (try dsimp only at hSw); go_simp; (try with_reducible rfl))
          try simp only [Act.put, List.setIfInBounds_toArray, List.set_cons_zero, List.set_cons_succ]
          refine wpAnyH_take (i := 8) (oi := { dst := some 111, op := Op.load 24 (Operand.tmp 12), type := 24, pos := "law.go:48", after := #[{ on := 6, ground := Ground.guard }], guard := some (6, true) }) (v := ?_) rfl (by kernel_rfl) (by kernel_rfl) (by kernel_rfl) (fun _ _ _ h => h) (Or.inl ⟨by rfl, ?_⟩) (by assumption) ?_
          rotate_left
          · (intro w0 hSw; (try dsimp only at hSw); go_simp; (try with_reducible rfl))
          try simp only [Act.put, List.setIfInBounds_toArray, List.set_cons_zero, List.set_cons_succ]
          refine wpAnyH_ready (rs := [9]) (by kernel_rfl) (by simp) ?_
          refine AllReadyH.cons rfl (fun K hK => ?_) AllReadyH.nil
          go_simp
          go_wp2_with (have hx := H14; go_at_call 12; clear hx; refine (of_num H14.out.2.2.1.toNm (by have := H14.out.2.2.1.len; omega)).mono ?_; rintro e w28 ⟨s28, p28, c28, D28, rfl, n28, z28, B28⟩; have H15 := Lib.hid (And.intro (H14.out.1.below B28) (And.intro (H14.out.2.1.trans (B28.mono H14.out.2.1.size)) (And.intro (H14.out.2.2.1.below B28) (And.intro (H14.out.2.2.2.1.below B28) (And.intro (H14.out.2.2.2.2.below B28) n28))))); clear n28 B28 H14; clear hSS; have hSS28 := And.intro ((H15.out.2.2.2.2.1).c0) ((H15.out.2.2.2.2.1).c1))
          refine hK.out _ _ ?_ (fun hHeld => ?_)
          · assumption
          clear hK K
          refine wpAnyH_ready (rs := [10]) (by kernel_rfl) (by simp) ?_
          refine AllReadyH.cons rfl (fun K hK => ?_) AllReadyH.nil
          go_simp
          go_wp2_with (have hx := H15; go_at_call 13; clear hx; refine (alike_at H15.out.2.2.1.toNm H15.out.2.2.2.1 H15.out.2.2.2.2.2 (by have := H15.out.2.2.1.len; omega)).mono ?_; rintro e w29 ⟨rfl, B29⟩; have H16 := Lib.hid (And.intro (H15.out.1.below B29) (And.intro (H15.out.2.1.trans (B29.mono H15.out.2.1.size)) (And.intro (H15.out.2.2.1.below B29) (And.intro (H15.out.2.2.2.1.below B29) (And.intro (H15.out.2.2.2.2.1.below B29) (H15.out.2.2.2.2.2.below B29)))))); clear B29 H15; clear hSS28; have hSS29 := And.intro ((H16.out.2.2.2.2.1).c0) ((H16.out.2.2.2.2.1).c1))
          refine hK.out _ _ ?_ (fun hHeld => ?_)
          · assumption
          clear hK K
          refine wpAnyH_take (i := 11) (oi := { dst := some 114, op := Op.pick (Operand.tmp 109) (Operand.tmp 113) (Operand.const (Value.bool false)), type := 4, pos := "law.go:48", after := #[{ on := 6, ground := Ground.data }, { on := 10, ground := Ground.data }], guard := none }) (v := ?_) rfl (by kernel_rfl) (by kernel_rfl) (by kernel_rfl) (fun _ _ _ h => h) (Or.inl ⟨by rfl, ?_⟩) (by assumption) ?_
          rotate_left
          · (intro w0 hSw; (try dsimp only at hSw); go_simp; (try with_reducible rfl))
          try simp only [Act.put, List.setIfInBounds_toArray, List.set_cons_zero, List.set_cons_succ]
          refine wpAnyH_take (i := 12) (oi := { dst := some 115, op := Op.move (Operand.tmp 114), type := 4, pos := "law.go:48", after := #[{ on := 11, ground := Ground.data }, { on := 10, ground := Ground.chain }], guard := none }) (v := ?_) rfl (by kernel_rfl) (by kernel_rfl) (by kernel_rfl) (fun _ _ _ h => h) (Or.inl ⟨by rfl, ?_⟩) (by assumption) ?_
          rotate_left
          · (intro w0 hSw; (try dsimp only at hSw); go_simp; (try with_reducible rfl))
          try simp only [Act.put, List.setIfInBounds_toArray, List.set_cons_zero, List.set_cons_succ]
          refine wpAnyH_ready (rs := [13]) (by kernel_rfl) (by simp) ?_
          refine AllReadyH.cons rfl (fun K hK => ?_) AllReadyH.nil
          go_simp
          go_wp2_with (have hx := H16; go_at_call 11; clear hx; refine (awake_at H16.out.1).mono ?_; rintro e w30 ⟨rfl, B30⟩; have H17 := Lib.hid (And.intro (H16.out.1.below B30) (And.intro (H16.out.2.1.trans (B30.mono H16.out.2.1.size)) (And.intro (H16.out.2.2.1.below B30) (And.intro (H16.out.2.2.2.1.below B30) (And.intro (H16.out.2.2.2.2.1.below B30) (H16.out.2.2.2.2.2.below B30)))))); clear B30 H16; clear hSS29; have hSS30 := And.intro ((H17.out.2.2.2.2.1).c0) ((H17.out.2.2.2.2.1).c1))
          refine hK.out _ _ ?_ (fun hHeld => ?_)
          · assumption
          clear hK K
          refine wpAnyH_take (i := 14) (oi := { dst := some 117, op := Op.pick (Operand.tmp 115) (Operand.tmp 116) (Operand.const (Value.bool false)), type := 4, pos := "law.go:48", after := #[{ on := 12, ground := Ground.data }, { on := 13, ground := Ground.data }], guard := none }) (v := ?_) rfl (by kernel_rfl) (by kernel_rfl) (by kernel_rfl) (fun _ _ _ h => h) (Or.inl ⟨by rfl, ?_⟩) (by assumption) ?_
          rotate_left
          · (intro w0 hSw; (try dsimp only at hSw); go_simp; (try with_reducible rfl))
          try simp only [Act.put, List.setIfInBounds_toArray, List.set_cons_zero, List.set_cons_succ]
          refine wpAnyH_take (i := 15) (oi := { dst := some 4, op := Op.assign (Operand.tmp 117), type := 4, pos := "law.go:48", after := #[{ on := 14, ground := Ground.data }, { on := 13, ground := Ground.chain }, { on := 0, ground := Ground.phase }, { on := 1, ground := Ground.phase }, { on := 2, ground := Ground.phase }, { on := 3, ground := Ground.phase }, { on := 4, ground := Ground.phase }, { on := 5, ground := Ground.phase }, { on := 6, ground := Ground.phase }, { on := 7, ground := Ground.phase }, { on := 8, ground := Ground.phase }, { on := 9, ground := Ground.phase }, { on := 10, ground := Ground.phase }, { on := 11, ground := Ground.phase }, { on := 12, ground := Ground.phase }, { on := 13, ground := Ground.phase }, { on := 14, ground := Ground.phase }], guard := none }) (v := ?_) rfl (by kernel_rfl) (by kernel_rfl) (by kernel_rfl) (fun _ _ _ h => h) (Or.inl ⟨by rfl, ?_⟩) (by assumption) ?_
          rotate_left
          · (intro w0 hSw; (try dsimp only at hSw); go_simp; (try with_reducible rfl))
          try simp only [Act.put, List.setIfInBounds_toArray, List.set_cons_zero, List.set_cons_succ]
          refine wpAnyH_done (by kernel_rfl) (NoPanic.normal ?_) _
          clear hSS30
          go_wp2_with fail
          go_ret
          exact ⟨rfl, H17.out.2.1⟩
        · have d1 : decide ((D11.length : Int) ≤ 18) = false := by rw [decide_eq_false_iff_not]; omega
          have yXx := H8.out.2.2.2.2.2
          have yXx0 := yXx.c0
          have yXx1 := yXx.c1
          clear yXx
          go_upto_region 12 with fail
          go_wp2_with fail
          refine (of_at n HN.out w22).mono ?_
          rintro e w23 ⟨v23, rfl, m23, B23⟩
          obtain ⟨s23, p23, c23, D23, rfl, n23, k23, -⟩ := gives_of (n := 4) m23 (bnd_four HN.out)
          have H9 := Lib.hid (And.intro (H8.out.1.below B23) (And.intro (H8.out.2.1.trans (B23.mono H8.out.2.1.size)) (And.intro (H8.out.2.2.1.below B23) (And.intro (H8.out.2.2.2.1.below B23) (And.intro (H8.out.2.2.2.2.1.below B23) (And.intro (H8.out.2.2.2.2.2.below B23) (And.intro n23 k23)))))))
          clear n23 k23 m23 B23
          have H10 := Lib.hid (And.intro H9.out.1 (And.intro H9.out.2.1 (And.intro H9.out.2.2.2.2.2.2.1 H9.out.2.2.2.2.2.2.2)))
          obtain ⟨w24, hw24⟩ : ∃ w24, w24 = w23.alloc (.cells #[.bool s23, .slice p23 D23.length c23] 24) := ⟨_, rfl⟩
          have B24 : Below w23.heap.size w23 w24 := by rw [hw24]; exact (Below.refl _ _).alloc (Nat.le_refl _) _
          have X24 : Box w24 w23.heap.size (.bool s23) (.slice p23 D23.length c23) := by rw [hw24]; exact Box.fresh _ _ _ rfl
          have H11 := Lib.hid (And.intro (H10.out.1.below B24) (And.intro (H10.out.2.1.trans (B24.mono H10.out.2.1.size)) (And.intro (H10.out.2.2.1.below B24) (And.intro (H10.out.2.2.2.below B24) X24))))
          clear X24 B24
          go_upto_region 13 with fail
          rw [← hw24]
          clear hw24
          have yXy := H11.out.2.2.2.2
          have yXy0 := yXy.c0
          have yXy1 := yXy.c1
          clear yXy
          go_wp2_with fail
          refine (small_lit H11.out.2.2.1 (by decide) (a := n) (b := true) (clip_in HN.out) (small_in HN.out)).mono ?_
          rintro e w25 ⟨rfl, B25⟩
          have H12 := Lib.hid (And.intro (H11.out.1.below B25) (And.intro (H11.out.2.1.trans (B25.mono H11.out.2.1.size)) (And.intro (H11.out.2.2.1.below B25) (And.intro (H11.out.2.2.2.1.below B25) (H11.out.2.2.2.2.below B25)))))
          clear B25
          clear yXx0 yXx1
          clear yXy0 yXy1
          go_upto_region 14 with fail
          have B26 : Below w25.heap.size w25 w25.drew := (Below.refl _ _).drew
          have H13 := Lib.hid (And.intro (H12.out.1.below B26) (And.intro (H12.out.2.1.trans (B26.mono H12.out.2.1.size)) (And.intro (H12.out.2.2.1.below B26) (And.intro (H12.out.2.2.2.1.below B26) (H12.out.2.2.2.2.below B26)))))
          clear B26
          have hSS : w25.drew.cell? ⟨w23.heap.size, 0, none⟩ = some (.bool s23) ∧ w25.drew.cell? ⟨w23.heap.size, 1, none⟩ = some (.slice p23 D23.length c23) := And.intro ((H13.out.2.2.2.2).c0) ((H13.out.2.2.2.2).c1)
          refine wp_region_noPanic ?_
          refine wp_region_held_drew (S := fun w' => w'.cell? ⟨w23.heap.size, 0, none⟩ = some (.bool s23) ∧ w'.cell? ⟨w23.heap.size, 1, none⟩ = some (.slice p23 D23.length c23)) (by kernel_rfl) hSS (fun hHeld => ?_)
          refine wpAnyH_take (i := 0) (oi := { dst := some 103, op := Op.move (Operand.tmp 14), type := 4, pos := "law.go:48", after := #[], guard := none }) (v := ?_) rfl (by kernel_rfl) (by kernel_rfl) (by kernel_rfl) (fun _ _ _ h => h) (Or.inl ⟨by rfl, ?_⟩) (by assumption) ?_
          rotate_left
          · (intro w0 hSw; (try dsimp only at hSw); go_simp; (try with_reducible rfl))
          try simp only [Act.put, List.setIfInBounds_toArray, List.set_cons_zero, List.set_cons_succ]
          refine wpAnyH_take (i := 1) (oi := { dst := some 104, op := Op.move (Operand.tmp 103), type := 4, pos := "law.go:48", after := #[{ on := 0, ground := Ground.data }], guard := none }) (v := ?_) rfl (by kernel_rfl) (by kernel_rfl) (by kernel_rfl) (fun _ _ _ h => h) (Or.inl ⟨by rfl, ?_⟩) (by assumption) ?_
          rotate_left
          · (intro w0 hSw; (try dsimp only at hSw); go_simp; (try with_reducible rfl))
          try simp only [Act.put, List.setIfInBounds_toArray, List.set_cons_zero, List.set_cons_succ]
          refine wpAnyH_take (i := 2) (oi := { dst := some 105, op := Op.move (Operand.tmp 13), type := 2, pos := "law.go:48", after := #[{ on := 1, ground := Ground.guard }], guard := some (1, true) }) (v := ?_) rfl (by kernel_rfl) (by kernel_rfl) (by kernel_rfl) (fun _ _ _ h => h) (Or.inl ⟨by rfl, ?_⟩) (by assumption) ?_
          rotate_left
          · (intro w0 hSw; (try dsimp only at hSw); go_simp; (try with_reducible rfl))
          try simp only [Act.put, List.setIfInBounds_toArray, List.set_cons_zero, List.set_cons_succ]
          refine wpAnyH_take (i := 3) (oi := { dst := some 106, op := Op.move (Operand.tmp 1), type := 2, pos := "law.go:48", after := #[{ on := 1, ground := Ground.guard }], guard := some (1, true) }) (v := ?_) rfl (by kernel_rfl) (by kernel_rfl) (by kernel_rfl) (fun _ _ _ h => h) (Or.inl ⟨by rfl, ?_⟩) (by assumption) ?_
          rotate_left
          · (intro w0 hSw; (try dsimp only at hSw); go_simp; (try with_reducible rfl))
          try simp only [Act.put, List.setIfInBounds_toArray, List.set_cons_zero, List.set_cons_succ]
          refine wpAnyH_take (i := 4) (oi := { dst := some 107, op := Op.binOp BinOp.eql 2 (Operand.tmp 105) (Operand.tmp 106) 2, type := 4, pos := "law.go:48", after := #[{ on := 2, ground := Ground.data }, { on := 3, ground := Ground.data }, { on := 1, ground := Ground.guard }], guard := some (1, true) }) (v := ?_) rfl (by kernel_rfl) (by kernel_rfl) (by kernel_rfl) (fun _ _ _ h => h) (Or.inl ⟨by rfl, ?_⟩) (by assumption) ?_
          rotate_left
          · (intro w0 hSw; (try dsimp only at hSw); go_simp; (try with_reducible rfl))
          try simp only [Act.put, List.setIfInBounds_toArray, List.set_cons_zero, List.set_cons_succ]
          refine wpAnyH_take (i := 5) (oi := { dst := some 108, op := Op.pick (Operand.tmp 104) (Operand.tmp 107) (Operand.const (Value.bool false)), type := 4, pos := "law.go:48", after := #[{ on := 1, ground := Ground.data }, { on := 4, ground := Ground.data }], guard := none }) (v := ?_) rfl (by kernel_rfl) (by kernel_rfl) (by kernel_rfl) (fun _ _ _ h => h) (Or.inl ⟨by rfl, ?_⟩) (by assumption) ?_
          rotate_left
          · (intro w0 hSw; (try dsimp only at hSw); go_simp; (try with_reducible rfl))
          try simp only [Act.put, List.setIfInBounds_toArray, List.set_cons_zero, List.set_cons_succ]
          refine wpAnyH_take (i := 6) (oi := { dst := some 109, op := Op.move (Operand.tmp 108), type := 4, pos := "law.go:48", after := #[{ on := 5, ground := Ground.data }, { on := 1, ground := Ground.chain }], guard := none }) (v := ?_) rfl (by kernel_rfl) (by kernel_rfl) (by kernel_rfl) (fun _ _ _ h => h) (Or.inl ⟨by rfl, ?_⟩) (by assumption) ?_
          rotate_left
          · (intro w0 hSw; (try dsimp only at hSw); go_simp; (try with_reducible rfl))
          try simp only [Act.put, List.setIfInBounds_toArray, List.set_cons_zero, List.set_cons_succ]
          refine wpAnyH_take (i := 7) (oi := { dst := some 110, op := Op.load 24 (Operand.tmp 12), type := 24, pos := "law.go:48", after := #[{ on := 6, ground := Ground.guard }], guard := some (6, true) }) (v := ?_) rfl (by kernel_rfl) (by kernel_rfl) (by kernel_rfl) (fun _ _ _ h => h) (Or.inl ⟨by rfl, ?_⟩) (by assumption) ?_
          rotate_left
          · (intro w0 hSw; (try dsimp only at hSw); go_simp; (try with_reducible rfl))
          try simp only [Act.put, List.setIfInBounds_toArray, List.set_cons_zero, List.set_cons_succ]
          refine wpAnyH_take (i := 8) (oi := { dst := some 111, op := Op.load 24 (Operand.tmp 12), type := 24, pos := "law.go:48", after := #[{ on := 6, ground := Ground.guard }], guard := some (6, true) }) (v := ?_) rfl (by kernel_rfl) (by kernel_rfl) (by kernel_rfl) (fun _ _ _ h => h) (Or.inl ⟨by rfl, ?_⟩) (by assumption) ?_
          rotate_left
          · (intro w0 hSw; (try dsimp only at hSw); go_simp; (try with_reducible rfl))
          try simp only [Act.put, List.setIfInBounds_toArray, List.set_cons_zero, List.set_cons_succ]
          refine wpAnyH_ready (rs := [9]) (by kernel_rfl) (by simp) ?_
          refine AllReadyH.cons rfl (fun K hK => ?_) AllReadyH.nil
          go_simp
          go_wp2_with (have hx := H13; go_at_call 12; clear hx; refine (of_num H13.out.2.2.1.toNm (by have := H13.out.2.2.1.len; omega)).mono ?_; rintro e w27 ⟨s27, p27, c27, D27, rfl, n27, z27, B27⟩; have H14 := Lib.hid (And.intro (H13.out.1.below B27) (And.intro (H13.out.2.1.trans (B27.mono H13.out.2.1.size)) (And.intro (H13.out.2.2.1.below B27) (And.intro (H13.out.2.2.2.1.below B27) (And.intro (H13.out.2.2.2.2.below B27) n27))))); clear n27 B27 H13; clear hSS; have hSS27 := And.intro ((H14.out.2.2.2.2.1).c0) ((H14.out.2.2.2.2.1).c1))
          refine hK.out _ _ ?_ (fun hHeld => ?_)
          · assumption
          clear hK K
          refine wpAnyH_ready (rs := [10]) (by kernel_rfl) (by simp) ?_
          refine AllReadyH.cons rfl (fun K hK => ?_) AllReadyH.nil
          go_simp
          go_wp2_with (have hx := H14; go_at_call 13; clear hx; refine (alike_at H14.out.2.2.1.toNm H14.out.2.2.2.1 H14.out.2.2.2.2.2 (by have := H14.out.2.2.1.len; omega)).mono ?_; rintro e w28 ⟨rfl, B28⟩; have H15 := Lib.hid (And.intro (H14.out.1.below B28) (And.intro (H14.out.2.1.trans (B28.mono H14.out.2.1.size)) (And.intro (H14.out.2.2.1.below B28) (And.intro (H14.out.2.2.2.1.below B28) (And.intro (H14.out.2.2.2.2.1.below B28) (H14.out.2.2.2.2.2.below B28)))))); clear B28 H14; clear hSS27; have hSS28 := And.intro ((H15.out.2.2.2.2.1).c0) ((H15.out.2.2.2.2.1).c1))
          refine hK.out _ _ ?_ (fun hHeld => ?_)
          · assumption
          clear hK K
          refine wpAnyH_take (i := 11) (oi := { dst := some 114, op := Op.pick (Operand.tmp 109) (Operand.tmp 113) (Operand.const (Value.bool false)), type := 4, pos := "law.go:48", after := #[{ on := 6, ground := Ground.data }, { on := 10, ground := Ground.data }], guard := none }) (v := ?_) rfl (by kernel_rfl) (by kernel_rfl) (by kernel_rfl) (fun _ _ _ h => h) (Or.inl ⟨by rfl, ?_⟩) (by assumption) ?_
          rotate_left
          · (intro w0 hSw; (try dsimp only at hSw); go_simp; (try with_reducible rfl))
          try simp only [Act.put, List.setIfInBounds_toArray, List.set_cons_zero, List.set_cons_succ]
          refine wpAnyH_take (i := 12) (oi := { dst := some 115, op := Op.move (Operand.tmp 114), type := 4, pos := "law.go:48", after := #[{ on := 11, ground := Ground.data }, { on := 10, ground := Ground.chain }], guard := none }) (v := ?_) rfl (by kernel_rfl) (by kernel_rfl) (by kernel_rfl) (fun _ _ _ h => h) (Or.inl ⟨by rfl, ?_⟩) (by assumption) ?_
          rotate_left
          · (intro w0 hSw; (try dsimp only at hSw); go_simp; (try with_reducible rfl))
          try simp only [Act.put, List.setIfInBounds_toArray, List.set_cons_zero, List.set_cons_succ]
          refine wpAnyH_ready (rs := [13]) (by kernel_rfl) (by simp) ?_
          refine AllReadyH.cons rfl (fun K hK => ?_) AllReadyH.nil
          go_simp
          go_wp2_with (have hx := H15; go_at_call 11; clear hx; refine (awake_at H15.out.1).mono ?_; rintro e w29 ⟨rfl, B29⟩; have H16 := Lib.hid (And.intro (H15.out.1.below B29) (And.intro (H15.out.2.1.trans (B29.mono H15.out.2.1.size)) (And.intro (H15.out.2.2.1.below B29) (And.intro (H15.out.2.2.2.1.below B29) (And.intro (H15.out.2.2.2.2.1.below B29) (H15.out.2.2.2.2.2.below B29)))))); clear B29 H15; clear hSS28; have hSS29 := And.intro ((H16.out.2.2.2.2.1).c0) ((H16.out.2.2.2.2.1).c1))
          refine hK.out _ _ ?_ (fun hHeld => ?_)
          · assumption
          clear hK K
          refine wpAnyH_take (i := 14) (oi := { dst := some 117, op := Op.pick (Operand.tmp 115) (Operand.tmp 116) (Operand.const (Value.bool false)), type := 4, pos := "law.go:48", after := #[{ on := 12, ground := Ground.data }, { on := 13, ground := Ground.data }], guard := none }) (v := ?_) rfl (by kernel_rfl) (by kernel_rfl) (by kernel_rfl) (fun _ _ _ h => h) (Or.inl ⟨by rfl, ?_⟩) (by assumption) ?_
          rotate_left
          · (intro w0 hSw; (try dsimp only at hSw); go_simp; (try with_reducible rfl))
          try simp only [Act.put, List.setIfInBounds_toArray, List.set_cons_zero, List.set_cons_succ]
          refine wpAnyH_take (i := 15) (oi := { dst := some 4, op := Op.assign (Operand.tmp 117), type := 4, pos := "law.go:48", after := #[{ on := 14, ground := Ground.data }, { on := 13, ground := Ground.chain }, { on := 0, ground := Ground.phase }, { on := 1, ground := Ground.phase }, { on := 2, ground := Ground.phase }, { on := 3, ground := Ground.phase }, { on := 4, ground := Ground.phase }, { on := 5, ground := Ground.phase }, { on := 6, ground := Ground.phase }, { on := 7, ground := Ground.phase }, { on := 8, ground := Ground.phase }, { on := 9, ground := Ground.phase }, { on := 10, ground := Ground.phase }, { on := 11, ground := Ground.phase }, { on := 12, ground := Ground.phase }, { on := 13, ground := Ground.phase }, { on := 14, ground := Ground.phase }], guard := none }) (v := ?_) rfl (by kernel_rfl) (by kernel_rfl) (by kernel_rfl) (fun _ _ _ h => h) (Or.inl ⟨by rfl, ?_⟩) (by assumption) ?_
          rotate_left
          · (intro w0 hSw; (try dsimp only at hSw); go_simp; (try with_reducible rfl))
          try simp only [Act.put, List.setIfInBounds_toArray, List.set_cons_zero, List.set_cons_succ]
          refine wpAnyH_done (by kernel_rfl) (NoPanic.normal ?_) _
          clear hSS29
          go_wp2_with fail
          go_ret
          exact ⟨rfl, H16.out.2.1⟩
end Go.Proofs.YtihgefllmkicaaaDoor
