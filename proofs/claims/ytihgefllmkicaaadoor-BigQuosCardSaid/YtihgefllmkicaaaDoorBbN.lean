/- Plain: the walk of BigQuos. Conditions: the digits lie as told; the table lies. -/
import Derived.Test.YtihgefllmkicaaaDoorRbO
import Derived.Test.YtihgefllmkicaaaDoorBbF0
namespace Go.Proofs.YtihgefllmkicaaaDoor
open Go.RowKit Bg
set_option linter.unusedVariables false
set_option linter.unusedSimpArgs false

theorem of_fresh {w : World} {p : Option Addr} {c : Nat} {l : List Int} {s : Bool} {x : Int} (a : Nm w s p c l x) (hn : l.length ≤ 10000) :
    Calls Tryd.prog 12 #[.agg #[.bool s, .slice p l.length c]] w fun e w' => ∃ t q d D, e = .returned (.agg #[.bool t, .slice q D.length d]) ∧ Dn w' t q d D x ∧ D.length ≤ 7 * l.length ∧ (∀ g o, q = some ⟨g, o, none⟩ → w.heap.size ≤ g) ∧ Below w.heap.size w w' := by
  obtain ⟨W, hW⟩ : ∃ W, W = (w.alloc (.cells #[.bool s, .slice p l.length c] 24)).alloc (.cells #[.bool false, .slice none 0 0] 28) := ⟨_, rfl⟩
  have hB : Below w.heap.size w W := by rw [hW]; exact ((Below.refl _ _).alloc (Nat.le_refl _) _).alloc (by simp) _
  have x0 : Box W w.heap.size (.bool s) (.slice p l.length c) := by rw [hW]; exact (Box.fresh _ _ _ rfl).alloc _
  have x1 : Box W (w.heap.size + 1) (.bool false) (.slice none 0 0) := by rw [hW]; exact box_fresh 28 _ _ _ (by simp)
  have hS : W.heap.size = w.heap.size + 2 := by rw [hW]; simp
  have T := Lib.hid (rfrom_at (s := s) (a.arg.below hB) a.dig hn)
  rw [a.val] at T
  have c0 := x0.c0
  have c1 := x0.c1
  have H := Lib.hid (And.intro hB (And.intro x1 hS))
  clear a hB x0 x1 hS
  go_enter Tryd.func12, Tryd.ntmps12
  go_wp2_with fail
  rw [← hW]
  clear hW
  refine T.out.mono ?_
  rintro e w1 ⟨t, q, d, D, rfl, hD, hl, hq, B1⟩
  have hx := H.out.2.1.below B1
  have k7 := hx.first (.bool t)
  have k6 := (hx.store (.bool t) (.slice q D.length d)).2
  have hf0 := hx.f0
  have hf1 := hx.f1
  have hc0 := hx.c0
  have hc1 := hx.c1
  have H1 := Lib.hid (And.intro hD (And.intro hl (And.intro hq (H.out.1.trans (B1.mono H.out.1.size)))))
  clear hD hl hq B1 hx c0 c1
  go_wp2_with fail
  refine bodyPost_ret (v := .agg #[.bool t, .slice q D.length d]) (by simp [results, Tryd.results12, go_sem, k6, k7]) rfl ⟨t, q, d, D, rfl, ⟨?_, H1.out.1.can, H1.out.1.val⟩, H1.out.2.1, ?_, ?_⟩
  · refine H1.out.1.arg.put (fun g o he hg => ?_) _ _
    rcases H1.out.2.2.1 with h | ⟨g', h, hg'⟩
    · rw [h] at he; cases he
    · rw [h] at he; cases he
      have := H.out.2.2
      omega
  · intro g o he
    rcases H1.out.2.2.1 with h | ⟨g', h, hg'⟩
    · rw [h] at he; cases he
    · rw [h] at he; cases he
      have := H.out.2.2
      omega
  · exact box_kept H1.out.2.2.2 (by omega) _ _
def Apart (b : Nat) (q : Option Addr) (D : List Int) : Prop := ∀ g o, q = some ⟨g, o, none⟩ → 0 < D.length → g ≠ b
theorem lt_of_box {w : World} {b : Nat} {x y : Value} (h : Box w b x y) : b < w.heap.size := World.block_lt_of_cell? w _ h.c0
theorem apart_old {w : World} {s : Bool} {q : Option Addr} {d : Nat} {D : List Int} {x : Int} {b : Nat} (h : Dn w s q d D x) (hb : w.heap.size ≤ b) : Apart b q D := fun g o he h0 hg => by
  obtain ⟨g', off, he2, hc⟩ := h.arg.at h0
  rw [he] at he2
  cases he2
  have := World.block_lt_of_cell? w _ (hc 0 h0)
  simp only at this
  omega
theorem apart_new {q : Option Addr} {D : List Int} {b n : Nat} (h : ∀ g o, q = some ⟨g, o, none⟩ → n ≤ g) (hb : b < n) : Apart b q D := fun g o he _ hg => by have := h g o he; omega
theorem Dn.apart {w : World} {s : Bool} {p : Option Addr} {c : Nat} {D : List Int} {x : Int} (h : Dn w s p c D x) {b : Nat} (hp : Apart b p D) (u v : Value) : Dn ((w.setCell ⟨b, 0, none⟩ u).setCell ⟨b, 1, none⟩ v) s p c D x := by
  refine ⟨⟨h.arg.nil, h.arg.le, h.arg.max, fun i hi => ?_⟩, h.can, h.val⟩
  obtain ⟨g, off, he, hc⟩ := h.arg.cell i hi
  refine ⟨g, off, he, (World.cell?_of_block (w := w) ?_).trans hc⟩
  exact (Below.heap_setCell _ _ _ _ (fun e => hp g off he (by omega) e)).trans (Below.heap_setCell _ _ _ _ (fun e => hp g off he (by omega) e))
theorem box_cell {w : World} {b : Nat} {x y : Value} (h : Box w b x y) {g : Nat} (hne : b ≠ g) (i : Nat) (v : Value) : Box (w.setCell ⟨g, i, none⟩ v) b x y := by
  have e : (w.setCell ⟨g, i, none⟩ v).heap[b]? = w.heap[b]? := Below.heap_setCell _ _ _ _ hne
  exact ⟨(World.cell?_of_block (w := w) e).trans h.c0, (World.cell?_of_block (w := w) e).trans h.c1, (World.frozen?_of_block (w := w) e).trans h.f0, (World.frozen?_of_block (w := w) e).trans h.f1⟩
theorem rcmp_zero {w : World} {p p' : Option Addr} {c c' : Nat} {l m : List Int} {s t : Bool} {x : Int} (a : Dn w s p c l x) (b : Dn w t p' c' m x) :
    Calls Tryd.prog 28 #[.agg #[.bool s, .slice p l.length c], .agg #[.bool t, .slice p' m.length c']] w fun e w' => e = .returned (.int .i64 0) ∧ Below w.heap.size w w' := by
  have := rcmp_at a b
  rw [sgn_eq] at this
  exact this

set_option maxRecDepth 100000 in
set_option maxHeartbeats 40000000 in
theorem quos_any {w : World} {p1 p2 : Option Addr} {c1 c2 : Nat} {l1 l2 : List Int} {s1 s2 : Bool} {x y : Int} (a1 : Nm w s1 p1 c1 l1 x) (a2 : Nm w s2 p2 c2 l2 y) (ht : Tab w) :
    Calls Tryd.prog 6 #[.agg #[.bool s1, .slice p1 l1.length c1], .agg #[.bool s2, .slice p2 l2.length c2]] w fun e w' => e = .returned (.bool true) ∧ Below w.heap.size w w' := by
  obtain ⟨W, hW, hB, hS, h0, h1⟩ := two_boxes w (.bool s1) (.slice p1 l1.length c1) (.bool s2) (.slice p2 l2.length c2)
  have x0 := Box.of h0
  have x1 := Box.of h1
  have m0 := x0.c0
  have m1 := x0.c1
  have m2 := x1.c0
  have m3 := x1.c1
  have HT := Lib.hid (ht.below (hB.mono (Nat.le_refl _)))
  have H0 := Lib.hid (And.intro x0 (And.intro hB (And.intro x0 (And.intro x1 (And.intro (a1.below hB) (a2.below hB))))))
  clear a1 a2 ht hB hS h0 h1 x0 x1
  go_enter Tryd.func6, Tryd.ntmps6
  by_cases hL : l1.length ≤ 60 ∧ l2.length ≤ 60
  case neg =>
    have hT : Tab W := HT.out
    by_cases h1 : l1.length ≤ 60
    · have q1 : decide ((l1.length : Int) > 60) = false := by rw [decide_eq_false_iff_not]; omega
      have q2 : decide ((l2.length : Int) > 60) = true := by rw [decide_eq_true_eq]; omega
      go_wp2_with fail
      rw [← hW]
      clear hW m0 m1 m2 m3
      refine (awake_at hT).mono ?_
      rintro e w9 ⟨rfl, B9⟩
      have hb := Lib.hid (H0.out.2.1.trans (B9.mono H0.out.2.1.size))
      clear B9
      go_wp2_with fail
      go_ret
      exact ⟨rfl, hb.out⟩
    · have q1 : decide ((l1.length : Int) > 60) = true := by rw [decide_eq_true_eq]; omega
      go_wp2_with fail
      rw [← hW]
      clear hW m0 m1 m2 m3
      refine (awake_at hT).mono ?_
      rintro e w9 ⟨rfl, B9⟩
      have hb := Lib.hid (H0.out.2.1.trans (B9.mono H0.out.2.1.size))
      clear B9
      go_wp2_with fail
      go_ret
      exact ⟨rfl, hb.out⟩
  have q1 : decide ((l1.length : Int) > 60) = false := by rw [decide_eq_false_iff_not]; omega
  have q2 : decide ((l2.length : Int) > 60) = false := by rw [decide_eq_false_iff_not]; omega
  go_wp2_with fail
  rw [← hW]
  clear hW q1 q2 m0 m1 m2 m3
  have H1 := Lib.hid (And.intro H0.out.1 (And.intro H0.out.2.1 (And.intro H0.out.2.2.1 (And.intro H0.out.2.2.2.1 (And.intro (Nu.mk (n := 60) H0.out.2.2.2.2.1 hL.1) (Nu.mk (n := 60) H0.out.2.2.2.2.2 hL.2))))))
  go_cut [5, 6] (fun u v wx => ∃ (b5 b6 : Nat) (sx sy : Bool) (qx qy : Option Addr) (dx dy : Nat) (Dx Dy : List Int), u = .pointer (some ⟨b5, 0, none⟩) ∧ v = .pointer (some ⟨b6, 0, none⟩) ∧ Hid (Box wx b5 (.bool sx) (.slice qx Dx.length dx) ∧ Box wx b6 (.bool sy) (.slice qy Dy.length dy) ∧ Dn wx sx qx dx Dx x ∧ Dn wx sy qy dy Dy y ∧ Dx.length ≤ 420 ∧ Dy.length ≤ 420 ∧ Below W.heap.size W wx))
  case first =>
    have BZ := Below.refl W.heap.size W
    have hl1 := (H1.out.2.2.2.2.1).len
    have hl2 := (H1.out.2.2.2.2.2).len
    have B11 : Below W.heap.size W W.drew := (Below.refl _ _).drew
    have BZ := BZ.trans (B11.mono BZ.size)
    have H2 := Lib.hid (And.intro (H1.out.1.below B11) (And.intro (H1.out.2.1.trans (B11.mono H1.out.2.1.size)) (And.intro (H1.out.2.2.1.below B11) (And.intro (H1.out.2.2.2.1.below B11) (And.intro (H1.out.2.2.2.2.1.below B11) (H1.out.2.2.2.2.2.below B11))))))
    clear B11
    have hSS : W.drew.cell? ⟨w.heap.size, 0, none⟩ = some (.bool s1) ∧ W.drew.cell? ⟨w.heap.size, 1, none⟩ = some (.slice p1 l1.length c1) ∧ W.drew.cell? ⟨w.heap.size + 1, 0, none⟩ = some (.bool s2) ∧ W.drew.cell? ⟨w.heap.size + 1, 1, none⟩ = some (.slice p2 l2.length c2) := And.intro ((H2.out.2.2.1).c0) (And.intro ((H2.out.2.2.1).c1) (And.intro ((H2.out.2.2.2.1).c0) ((H2.out.2.2.2.1).c1)))
    refine wp_region_noPanic ?_
    refine wp_region_held_drew (S := fun w' => w'.cell? ⟨w.heap.size, 0, none⟩ = some (.bool s1) ∧ w'.cell? ⟨w.heap.size, 1, none⟩ = some (.slice p1 l1.length c1) ∧ w'.cell? ⟨w.heap.size + 1, 0, none⟩ = some (.bool s2) ∧ w'.cell? ⟨w.heap.size + 1, 1, none⟩ = some (.slice p2 l2.length c2)) (by kernel_rfl) hSS (fun hHeld => ?_)
    obtain ⟨wd, hwd⟩ : ∃ wd, wd = W.drew := ⟨_, rfl⟩
    rw [← hwd] at hSS hHeld H2 BZ ⊢
    clear hwd
    refine wpAnyH_take (i := 0) (oi := { dst := some 26, op := Op.load 24 (Operand.tmp 2), type := 24, pos := "law.go:85", after := #[], guard := none }) (v := ?_) rfl (by kernel_rfl) (by kernel_rfl) (by kernel_rfl) (fun _ _ _ h => h) (Or.inl ⟨by rfl, ?_⟩) (by assumption) ?_
    rotate_left
    · (intro w0 hSw; (try dsimp only at hSw); go_simp; (try with_reducible rfl))
    try simp only [Act.put, List.setIfInBounds_toArray, List.set_cons_zero, List.set_cons_succ]
    refine wpAnyH_take (i := 2) (oi := { dst := some 28, op := Op.load 24 (Operand.tmp 3), type := 24, pos := "law.go:85", after := #[], guard := none }) (v := ?_) rfl (by kernel_rfl) (by kernel_rfl) (by kernel_rfl) (fun _ _ _ h => h) (Or.inl ⟨by rfl, ?_⟩) (by assumption) ?_
    rotate_left
    · (intro w0 hSw; (try dsimp only at hSw); go_simp; (try with_reducible rfl))
    try simp only [Act.put, List.setIfInBounds_toArray, List.set_cons_zero, List.set_cons_succ]
    refine wpAnyH_ready (rs := [1, 4, 5]) (by kernel_rfl) (by simp) ?_
    refine AllReadyH.cons rfl (fun K hK => ?_) (AllReadyH.cons rfl (fun K hK => ?_) (AllReadyH.cons rfl (fun K hK => ?_) AllReadyH.nil))
    · go_simp
      go_wp2_with (have hx := H2; go_at_call 12; clear hx; refine (of_fresh (H2.out.2.2.2.2.1).toNm (by omega)).mono ?_; rintro e w12 ⟨s12, p12, c12, D12, rfl, n12, z12, f12, B12⟩; have ZLx := Lib.hid z12;  skip; have BZ := BZ.trans (B12.mono BZ.size); have H3 := Lib.hid (And.intro (H2.out.1.below B12) (And.intro (H2.out.2.1.trans (B12.mono H2.out.2.1.size)) (And.intro (H2.out.2.2.1.below B12) (And.intro (H2.out.2.2.2.1.below B12) (And.intro (H2.out.2.2.2.2.1.below B12) (And.intro (H2.out.2.2.2.2.2.below B12) n12)))))); clear n12 z12 f12 B12 H2; clear hSS; have hSSrw12 := And.intro ((H3.out.2.2.1).c0) (And.intro ((H3.out.2.2.1).c1) (And.intro ((H3.out.2.2.2.1).c0) ((H3.out.2.2.2.1).c1))))
      refine hK.out _ _ ?_ (fun hHeld => ?_)
      · assumption
      clear hK K
      refine wpAnyH_ready (rs := [3, 4, 5]) (by kernel_rfl) (by simp) ?_
      refine AllReadyH.cons rfl (fun K hK => ?_) (AllReadyH.cons rfl (fun K hK => ?_) (AllReadyH.cons rfl (fun K hK => ?_) AllReadyH.nil))
      · go_simp
        go_wp2_with (have hx := H3; go_at_call 12; clear hx; refine (of_fresh (H3.out.2.2.2.2.2.1).toNm (by omega)).mono ?_; rintro e w13 ⟨s13, p13, c13, D13, rfl, n13, z13, f13, B13⟩; have ZLy := Lib.hid z13;  skip; have BZ := BZ.trans (B13.mono BZ.size); have H4 := Lib.hid (And.intro (H3.out.1.below B13) (And.intro (H3.out.2.1.trans (B13.mono H3.out.2.1.size)) (And.intro (H3.out.2.2.1.below B13) (And.intro (H3.out.2.2.2.1.below B13) (And.intro (H3.out.2.2.2.2.1.below B13) (And.intro (H3.out.2.2.2.2.2.1.below B13) (And.intro (H3.out.2.2.2.2.2.2.below B13) n13))))))); clear n13 z13 f13 B13 H3; clear hSSrw12; have hSSrw13 := And.intro ((H4.out.2.2.1).c0) (And.intro ((H4.out.2.2.1).c1) (And.intro ((H4.out.2.2.2.1).c0) ((H4.out.2.2.2.1).c1))))
        refine hK.out _ _ ?_ (fun hHeld => ?_)
        · assumption
        clear hK K
        refine wpAnyH_ready (rs := [4, 5]) (by kernel_rfl) (by simp) ?_
        refine AllReadyH.cons rfl (fun K hK => ?_) (AllReadyH.cons rfl (fun K hK => ?_) AllReadyH.nil)
        · go_simp
          have LWB5 := BZ.size
          have LTB5X1 := lt_of_box (H4.out.2.2.1)
          have LTB5X2 := lt_of_box (H4.out.2.2.2.1)
          have APxB5 := Lib.hid (apart_old (H4.out.2.2.2.2.2.2.1) (Nat.le_refl w13.heap.size))
          have APyB5 := Lib.hid (apart_old (H4.out.2.2.2.2.2.2.2) (Nat.le_refl w13.heap.size))
          obtain ⟨w14, hw14⟩ : ∃ w14, w14 = w13.alloc (.cells #[.bool false, .slice none 0 0] 28) := ⟨_, rfl⟩
          rw [← hw14]
          have B14 : Below w13.heap.size w13 w14 := by rw [hw14]; exact (Below.refl _ _).alloc (Nat.le_refl _) _
          have BZ := BZ.trans (B14.mono BZ.size)
          have N14 : Box w14 w13.heap.size (.bool false) (.slice none 0 0) := by rw [hw14]; exact box_fresh 28 _ _ _ rfl
          have H5 := Lib.hid (And.intro (H4.out.1.below B14) (And.intro (H4.out.2.1.trans (B14.mono H4.out.2.1.size)) (And.intro (H4.out.2.2.1.below B14) (And.intro (H4.out.2.2.2.1.below B14) (And.intro (H4.out.2.2.2.2.1.below B14) (And.intro (H4.out.2.2.2.2.2.1.below B14) (And.intro (H4.out.2.2.2.2.2.2.1.below B14) (And.intro (H4.out.2.2.2.2.2.2.2.below B14) N14))))))))
          clear hw14 B14 N14 H4
          clear hSSrw13
          have hSSa14 := And.intro ((H5.out.2.2.1).c0) (And.intro ((H5.out.2.2.1).c1) (And.intro ((H5.out.2.2.2.1).c0) ((H5.out.2.2.2.1).c1)))
          refine hK.out _ _ ?_ (fun hHeld => ?_)
          · assumption
          clear hK K
          refine wpAnyH_ready (rs := [5]) (by kernel_rfl) (by simp) ?_
          refine AllReadyH.cons rfl (fun K hK => ?_) AllReadyH.nil
          go_simp
          have LWB6 := BZ.size
          have LTB6X1 := lt_of_box (H5.out.2.2.1)
          have LTB6X2 := lt_of_box (H5.out.2.2.2.1)
          have LTB6B5 := lt_of_box (H5.out.2.2.2.2.2.2.2.2)
          have APxB6 := Lib.hid (apart_old (H5.out.2.2.2.2.2.2.1) (Nat.le_refl w14.heap.size))
          have APyB6 := Lib.hid (apart_old (H5.out.2.2.2.2.2.2.2.1) (Nat.le_refl w14.heap.size))
          obtain ⟨w15, hw15⟩ : ∃ w15, w15 = w14.alloc (.cells #[.bool false, .slice none 0 0] 28) := ⟨_, rfl⟩
          rw [← hw15]
          have B15 : Below w14.heap.size w14 w15 := by rw [hw15]; exact (Below.refl _ _).alloc (Nat.le_refl _) _
          have BZ := BZ.trans (B15.mono BZ.size)
          have N15 : Box w15 w14.heap.size (.bool false) (.slice none 0 0) := by rw [hw15]; exact box_fresh 28 _ _ _ rfl
          have H6 := Lib.hid (And.intro (H5.out.1.below B15) (And.intro (H5.out.2.1.trans (B15.mono H5.out.2.1.size)) (And.intro (H5.out.2.2.1.below B15) (And.intro (H5.out.2.2.2.1.below B15) (And.intro (H5.out.2.2.2.2.1.below B15) (And.intro (H5.out.2.2.2.2.2.1.below B15) (And.intro (H5.out.2.2.2.2.2.2.1.below B15) (And.intro (H5.out.2.2.2.2.2.2.2.1.below B15) (And.intro (H5.out.2.2.2.2.2.2.2.2.below B15) N15)))))))))
          clear hw15 B15 N15 H5
          clear hSSa14
          have hSSa15 := And.intro ((H6.out.2.2.1).c0) (And.intro ((H6.out.2.2.1).c1) (And.intro ((H6.out.2.2.2.1).c0) ((H6.out.2.2.2.1).c1)))
          refine hK.out _ _ ?_ (fun hHeld => ?_)
          · assumption
          clear hK K
          refine wpAnyH_ready (rs := [6]) (by kernel_rfl) (by simp) ?_
          refine AllReadyH.cons rfl (fun K hK => ?_) AllReadyH.nil
          have H7 := Lib.hid (And.intro H6.out.1 (And.intro H6.out.2.1 (And.intro H6.out.2.2.1 (And.intro H6.out.2.2.2.1 (And.intro H6.out.2.2.2.2.2.2.1 (And.intro H6.out.2.2.2.2.2.2.2.1 (And.intro H6.out.2.2.2.2.2.2.2.2.1 H6.out.2.2.2.2.2.2.2.2.2)))))))
          have hf0 := (H7.out.2.2.2.2.2.2.1).f0
          have hf1 := (H7.out.2.2.2.2.2.2.1).f1
          have hc0 := (H7.out.2.2.2.2.2.2.1).c0
          have hc1 := (H7.out.2.2.2.2.2.2.1).c1
          go_simp
          clear hf0 hf1 hc0 hc1
          obtain ⟨w16, hw16⟩ : ∃ w16, w16 = (w15.setCell ⟨w13.heap.size, 0, none⟩ (.bool s12)).setCell ⟨w13.heap.size, 1, none⟩ (.slice p12 D12.length c12) := ⟨_, rfl⟩
          rw [← hw16]
          have M16z : Box w16 (w.heap.size) (.bool s1) (.slice p1 l1.length c1) := by rw [hw16]; exact (H7.out.1).far (by omega) _ _
          have M16b : Below w.heap.size w w16 := by rw [hw16]; exact box_kept (H7.out.2.1) (by omega) _ _
          have M16X1 : Box w16 (w.heap.size) (.bool s1) (.slice p1 l1.length c1) := by rw [hw16]; exact (H7.out.2.2.1).far (by omega) _ _
          have M16X2 : Box w16 (w.heap.size + 1) (.bool s2) (.slice p2 l2.length c2) := by rw [hw16]; exact (H7.out.2.2.2.1).far (by omega) _ _
          have M16x : Dn w16 s12 p12 c12 D12 x := by rw [hw16]; exact (H7.out.2.2.2.2.1).apart APxB5.out _ _
          have M16y : Dn w16 s13 p13 c13 D13 y := by rw [hw16]; exact (H7.out.2.2.2.2.2.1).apart APyB5.out _ _
          have M16B5 : Box w16 (w13.heap.size) (.bool s12) (.slice p12 D12.length c12) := by rw [hw16]; exact (H7.out.2.2.2.2.2.2.1).put _ _
          have M16B6 : Box w16 (w14.heap.size) (.bool false) (.slice none 0 0) := by rw [hw16]; exact (H7.out.2.2.2.2.2.2.2).far (by omega) _ _
          have BZ : Below W.heap.size W w16 := by rw [hw16]; exact box_kept BZ (by omega) _ _
          have H8 := Lib.hid (And.intro M16z (And.intro M16b (And.intro M16X1 (And.intro M16X2 (And.intro M16x (And.intro M16y (And.intro M16B5 M16B6)))))))
          clear M16z M16b M16X1 M16X2 M16x M16y M16B5 M16B6 hw16 H7
          clear hSSa15
          have hSSb16 := And.intro ((H8.out.2.2.1).c0) (And.intro ((H8.out.2.2.1).c1) (And.intro ((H8.out.2.2.2.1).c0) ((H8.out.2.2.2.1).c1)))
          refine hK.out _ _ ?_ (fun hHeld => ?_)
          · assumption
          clear hK K
          refine wpAnyH_ready (rs := [7]) (by kernel_rfl) (by simp) ?_
          refine AllReadyH.cons rfl (fun K hK => ?_) AllReadyH.nil
          have hf0 := (H8.out.2.2.2.2.2.2.2).f0
          have hf1 := (H8.out.2.2.2.2.2.2.2).f1
          have hc0 := (H8.out.2.2.2.2.2.2.2).c0
          have hc1 := (H8.out.2.2.2.2.2.2.2).c1
          go_simp
          clear hf0 hf1 hc0 hc1
          obtain ⟨w17, hw17⟩ : ∃ w17, w17 = (w16.setCell ⟨w14.heap.size, 0, none⟩ (.bool s13)).setCell ⟨w14.heap.size, 1, none⟩ (.slice p13 D13.length c13) := ⟨_, rfl⟩
          rw [← hw17]
          have M17z : Box w17 (w.heap.size) (.bool s1) (.slice p1 l1.length c1) := by rw [hw17]; exact (H8.out.1).far (by omega) _ _
          have M17b : Below w.heap.size w w17 := by rw [hw17]; exact box_kept (H8.out.2.1) (by omega) _ _
          have M17X1 : Box w17 (w.heap.size) (.bool s1) (.slice p1 l1.length c1) := by rw [hw17]; exact (H8.out.2.2.1).far (by omega) _ _
          have M17X2 : Box w17 (w.heap.size + 1) (.bool s2) (.slice p2 l2.length c2) := by rw [hw17]; exact (H8.out.2.2.2.1).far (by omega) _ _
          have M17x : Dn w17 s12 p12 c12 D12 x := by rw [hw17]; exact (H8.out.2.2.2.2.1).apart APxB6.out _ _
          have M17y : Dn w17 s13 p13 c13 D13 y := by rw [hw17]; exact (H8.out.2.2.2.2.2.1).apart APyB6.out _ _
          have M17B5 : Box w17 (w13.heap.size) (.bool s12) (.slice p12 D12.length c12) := by rw [hw17]; exact (H8.out.2.2.2.2.2.2.1).far (by omega) _ _
          have M17B6 : Box w17 (w14.heap.size) (.bool s13) (.slice p13 D13.length c13) := by rw [hw17]; exact (H8.out.2.2.2.2.2.2.2).put _ _
          have BZ : Below W.heap.size W w17 := by rw [hw17]; exact box_kept BZ (by omega) _ _
          have H9 := Lib.hid (And.intro M17z (And.intro M17b (And.intro M17X1 (And.intro M17X2 (And.intro M17x (And.intro M17y (And.intro M17B5 M17B6)))))))
          clear M17z M17b M17X1 M17X2 M17x M17y M17B5 M17B6 hw17 H8
          clear hSSb16
          have hSSb17 := And.intro ((H9.out.2.2.1).c0) (And.intro ((H9.out.2.2.1).c1) (And.intro ((H9.out.2.2.2.1).c0) ((H9.out.2.2.2.1).c1)))
          refine hK.out _ _ ?_ (fun hHeld => ?_)
          · assumption
          clear hK K
          refine wpAnyH_done (by kernel_rfl) (NoPanic.normal ?_) _
          clear hSSb17
          go_wp2_with fail
          go_meet
          exact ⟨_, _, s12, s13, p12, p13, c12, c13, D12, D13, rfl, rfl, H9.out.2.2.2.2.2.2.1, H9.out.2.2.2.2.2.2.2, H9.out.2.2.2.2.1, H9.out.2.2.2.2.2.1, by have := ZLx.out; omega, by have := ZLy.out; omega, BZ⟩
        · go_simp
          have LWB6 := BZ.size
          have LTB6X1 := lt_of_box (H4.out.2.2.1)
          have LTB6X2 := lt_of_box (H4.out.2.2.2.1)
          have APxB6 := Lib.hid (apart_old (H4.out.2.2.2.2.2.2.1) (Nat.le_refl w13.heap.size))
          have APyB6 := Lib.hid (apart_old (H4.out.2.2.2.2.2.2.2) (Nat.le_refl w13.heap.size))
          obtain ⟨w14, hw14⟩ : ∃ w14, w14 = w13.alloc (.cells #[.bool false, .slice none 0 0] 28) := ⟨_, rfl⟩
          rw [← hw14]
          have B14 : Below w13.heap.size w13 w14 := by rw [hw14]; exact (Below.refl _ _).alloc (Nat.le_refl _) _
          have BZ := BZ.trans (B14.mono BZ.size)
          have N14 : Box w14 w13.heap.size (.bool false) (.slice none 0 0) := by rw [hw14]; exact box_fresh 28 _ _ _ rfl
          have H5 := Lib.hid (And.intro (H4.out.1.below B14) (And.intro (H4.out.2.1.trans (B14.mono H4.out.2.1.size)) (And.intro (H4.out.2.2.1.below B14) (And.intro (H4.out.2.2.2.1.below B14) (And.intro (H4.out.2.2.2.2.1.below B14) (And.intro (H4.out.2.2.2.2.2.1.below B14) (And.intro (H4.out.2.2.2.2.2.2.1.below B14) (And.intro (H4.out.2.2.2.2.2.2.2.below B14) N14))))))))
          clear hw14 B14 N14 H4
          clear hSSrw13
          have hSSa14 := And.intro ((H5.out.2.2.1).c0) (And.intro ((H5.out.2.2.1).c1) (And.intro ((H5.out.2.2.2.1).c0) ((H5.out.2.2.2.1).c1)))
          refine hK.out _ _ ?_ (fun hHeld => ?_)
          · assumption
          clear hK K
          refine wpAnyH_ready (rs := [4]) (by kernel_rfl) (by simp) ?_
          refine AllReadyH.cons rfl (fun K hK => ?_) AllReadyH.nil
          go_simp
          have LWB5 := BZ.size
          have LTB5X1 := lt_of_box (H5.out.2.2.1)
          have LTB5X2 := lt_of_box (H5.out.2.2.2.1)
          have LTB5B6 := lt_of_box (H5.out.2.2.2.2.2.2.2.2)
          have APxB5 := Lib.hid (apart_old (H5.out.2.2.2.2.2.2.1) (Nat.le_refl w14.heap.size))
          have APyB5 := Lib.hid (apart_old (H5.out.2.2.2.2.2.2.2.1) (Nat.le_refl w14.heap.size))
          obtain ⟨w15, hw15⟩ : ∃ w15, w15 = w14.alloc (.cells #[.bool false, .slice none 0 0] 28) := ⟨_, rfl⟩
          rw [← hw15]
          have B15 : Below w14.heap.size w14 w15 := by rw [hw15]; exact (Below.refl _ _).alloc (Nat.le_refl _) _
          have BZ := BZ.trans (B15.mono BZ.size)
          have N15 : Box w15 w14.heap.size (.bool false) (.slice none 0 0) := by rw [hw15]; exact box_fresh 28 _ _ _ rfl
          have H6 := Lib.hid (And.intro (H5.out.1.below B15) (And.intro (H5.out.2.1.trans (B15.mono H5.out.2.1.size)) (And.intro (H5.out.2.2.1.below B15) (And.intro (H5.out.2.2.2.1.below B15) (And.intro (H5.out.2.2.2.2.1.below B15) (And.intro (H5.out.2.2.2.2.2.1.below B15) (And.intro (H5.out.2.2.2.2.2.2.1.below B15) (And.intro (H5.out.2.2.2.2.2.2.2.1.below B15) (And.intro (H5.out.2.2.2.2.2.2.2.2.below B15) N15)))))))))
          clear hw15 B15 N15 H5
          clear hSSa14
          have hSSa15 := And.intro ((H6.out.2.2.1).c0) (And.intro ((H6.out.2.2.1).c1) (And.intro ((H6.out.2.2.2.1).c0) ((H6.out.2.2.2.1).c1)))
          refine hK.out _ _ ?_ (fun hHeld => ?_)
          · assumption
          clear hK K
          refine wpAnyH_ready (rs := [6]) (by kernel_rfl) (by simp) ?_
          refine AllReadyH.cons rfl (fun K hK => ?_) AllReadyH.nil
          have H7 := Lib.hid (And.intro H6.out.1 (And.intro H6.out.2.1 (And.intro H6.out.2.2.1 (And.intro H6.out.2.2.2.1 (And.intro H6.out.2.2.2.2.2.2.1 (And.intro H6.out.2.2.2.2.2.2.2.1 (And.intro H6.out.2.2.2.2.2.2.2.2.1 H6.out.2.2.2.2.2.2.2.2.2)))))))
          have hf0 := (H7.out.2.2.2.2.2.2.2).f0
          have hf1 := (H7.out.2.2.2.2.2.2.2).f1
          have hc0 := (H7.out.2.2.2.2.2.2.2).c0
          have hc1 := (H7.out.2.2.2.2.2.2.2).c1
          go_simp
          clear hf0 hf1 hc0 hc1
          obtain ⟨w16, hw16⟩ : ∃ w16, w16 = (w15.setCell ⟨w14.heap.size, 0, none⟩ (.bool s12)).setCell ⟨w14.heap.size, 1, none⟩ (.slice p12 D12.length c12) := ⟨_, rfl⟩
          rw [← hw16]
          have M16z : Box w16 (w.heap.size) (.bool s1) (.slice p1 l1.length c1) := by rw [hw16]; exact (H7.out.1).far (by omega) _ _
          have M16b : Below w.heap.size w w16 := by rw [hw16]; exact box_kept (H7.out.2.1) (by omega) _ _
          have M16X1 : Box w16 (w.heap.size) (.bool s1) (.slice p1 l1.length c1) := by rw [hw16]; exact (H7.out.2.2.1).far (by omega) _ _
          have M16X2 : Box w16 (w.heap.size + 1) (.bool s2) (.slice p2 l2.length c2) := by rw [hw16]; exact (H7.out.2.2.2.1).far (by omega) _ _
          have M16x : Dn w16 s12 p12 c12 D12 x := by rw [hw16]; exact (H7.out.2.2.2.2.1).apart APxB5.out _ _
          have M16y : Dn w16 s13 p13 c13 D13 y := by rw [hw16]; exact (H7.out.2.2.2.2.2.1).apart APyB5.out _ _
          have M16B6 : Box w16 (w13.heap.size) (.bool false) (.slice none 0 0) := by rw [hw16]; exact (H7.out.2.2.2.2.2.2.1).far (by omega) _ _
          have M16B5 : Box w16 (w14.heap.size) (.bool s12) (.slice p12 D12.length c12) := by rw [hw16]; exact (H7.out.2.2.2.2.2.2.2).put _ _
          have BZ : Below W.heap.size W w16 := by rw [hw16]; exact box_kept BZ (by omega) _ _
          have H8 := Lib.hid (And.intro M16z (And.intro M16b (And.intro M16X1 (And.intro M16X2 (And.intro M16x (And.intro M16y (And.intro M16B6 M16B5)))))))
          clear M16z M16b M16X1 M16X2 M16x M16y M16B6 M16B5 hw16 H7
          clear hSSa15
          have hSSb16 := And.intro ((H8.out.2.2.1).c0) (And.intro ((H8.out.2.2.1).c1) (And.intro ((H8.out.2.2.2.1).c0) ((H8.out.2.2.2.1).c1)))
          refine hK.out _ _ ?_ (fun hHeld => ?_)
          · assumption
          clear hK K
          refine wpAnyH_ready (rs := [7]) (by kernel_rfl) (by simp) ?_
          refine AllReadyH.cons rfl (fun K hK => ?_) AllReadyH.nil
          have hf0 := (H8.out.2.2.2.2.2.2.1).f0
          have hf1 := (H8.out.2.2.2.2.2.2.1).f1
          have hc0 := (H8.out.2.2.2.2.2.2.1).c0
          have hc1 := (H8.out.2.2.2.2.2.2.1).c1
          go_simp
          clear hf0 hf1 hc0 hc1
          obtain ⟨w17, hw17⟩ : ∃ w17, w17 = (w16.setCell ⟨w13.heap.size, 0, none⟩ (.bool s13)).setCell ⟨w13.heap.size, 1, none⟩ (.slice p13 D13.length c13) := ⟨_, rfl⟩
          rw [← hw17]
          have M17z : Box w17 (w.heap.size) (.bool s1) (.slice p1 l1.length c1) := by rw [hw17]; exact (H8.out.1).far (by omega) _ _
          have M17b : Below w.heap.size w w17 := by rw [hw17]; exact box_kept (H8.out.2.1) (by omega) _ _
          have M17X1 : Box w17 (w.heap.size) (.bool s1) (.slice p1 l1.length c1) := by rw [hw17]; exact (H8.out.2.2.1).far (by omega) _ _
          have M17X2 : Box w17 (w.heap.size + 1) (.bool s2) (.slice p2 l2.length c2) := by rw [hw17]; exact (H8.out.2.2.2.1).far (by omega) _ _
          have M17x : Dn w17 s12 p12 c12 D12 x := by rw [hw17]; exact (H8.out.2.2.2.2.1).apart APxB6.out _ _
          have M17y : Dn w17 s13 p13 c13 D13 y := by rw [hw17]; exact (H8.out.2.2.2.2.2.1).apart APyB6.out _ _
          have M17B6 : Box w17 (w13.heap.size) (.bool s13) (.slice p13 D13.length c13) := by rw [hw17]; exact (H8.out.2.2.2.2.2.2.1).put _ _
          have M17B5 : Box w17 (w14.heap.size) (.bool s12) (.slice p12 D12.length c12) := by rw [hw17]; exact (H8.out.2.2.2.2.2.2.2).far (by omega) _ _
          have BZ : Below W.heap.size W w17 := by rw [hw17]; exact box_kept BZ (by omega) _ _
          have H9 := Lib.hid (And.intro M17z (And.intro M17b (And.intro M17X1 (And.intro M17X2 (And.intro M17x (And.intro M17y (And.intro M17B6 M17B5)))))))
          clear M17z M17b M17X1 M17X2 M17x M17y M17B6 M17B5 hw17 H8
          clear hSSb16
          have hSSb17 := And.intro ((H9.out.2.2.1).c0) (And.intro ((H9.out.2.2.1).c1) (And.intro ((H9.out.2.2.2.1).c0) ((H9.out.2.2.2.1).c1)))
          refine hK.out _ _ ?_ (fun hHeld => ?_)
          · assumption
          clear hK K
          refine wpAnyH_done (by kernel_rfl) (NoPanic.normal ?_) _
          clear hSSb17
          go_wp2_with fail
          go_meet
          exact ⟨_, _, s12, s13, p12, p13, c12, c13, D12, D13, rfl, rfl, H9.out.2.2.2.2.2.2.2, H9.out.2.2.2.2.2.2.1, H9.out.2.2.2.2.1, H9.out.2.2.2.2.2.1, by have := ZLx.out; omega, by have := ZLy.out; omega, BZ⟩
      · go_simp
        have LWB5 := BZ.size
        have LTB5X1 := lt_of_box (H3.out.2.2.1)
        have LTB5X2 := lt_of_box (H3.out.2.2.2.1)
        have APxB5 := Lib.hid (apart_old (H3.out.2.2.2.2.2.2) (Nat.le_refl w12.heap.size))
        obtain ⟨w13, hw13⟩ : ∃ w13, w13 = w12.alloc (.cells #[.bool false, .slice none 0 0] 28) := ⟨_, rfl⟩
        rw [← hw13]
        have B13 : Below w12.heap.size w12 w13 := by rw [hw13]; exact (Below.refl _ _).alloc (Nat.le_refl _) _
        have BZ := BZ.trans (B13.mono BZ.size)
        have N13 : Box w13 w12.heap.size (.bool false) (.slice none 0 0) := by rw [hw13]; exact box_fresh 28 _ _ _ rfl
        have H4 := Lib.hid (And.intro (H3.out.1.below B13) (And.intro (H3.out.2.1.trans (B13.mono H3.out.2.1.size)) (And.intro (H3.out.2.2.1.below B13) (And.intro (H3.out.2.2.2.1.below B13) (And.intro (H3.out.2.2.2.2.1.below B13) (And.intro (H3.out.2.2.2.2.2.1.below B13) (And.intro (H3.out.2.2.2.2.2.2.below B13) N13)))))))
        clear hw13 B13 N13 H3
        clear hSSrw12
        have hSSa13 := And.intro ((H4.out.2.2.1).c0) (And.intro ((H4.out.2.2.1).c1) (And.intro ((H4.out.2.2.2.1).c0) ((H4.out.2.2.2.1).c1)))
        refine hK.out _ _ ?_ (fun hHeld => ?_)
        · assumption
        clear hK K
        refine wpAnyH_ready (rs := [3, 5]) (by kernel_rfl) (by simp) ?_
        refine AllReadyH.cons rfl (fun K hK => ?_) (AllReadyH.cons rfl (fun K hK => ?_) AllReadyH.nil)
        · go_simp
          go_wp2_with (have hx := H4; go_at_call 12; clear hx; refine (of_fresh (H4.out.2.2.2.2.2.1).toNm (by omega)).mono ?_; rintro e w14 ⟨s14, p14, c14, D14, rfl, n14, z14, f14, B14⟩; have ZLy := Lib.hid z14; have Q14B5 := lt_of_box (H4.out.2.2.2.2.2.2.2); have APyB5 := Lib.hid (apart_new (D := D14) f14 Q14B5); clear Q14B5;  skip; have BZ := BZ.trans (B14.mono BZ.size); have H5 := Lib.hid (And.intro (H4.out.1.below B14) (And.intro (H4.out.2.1.trans (B14.mono H4.out.2.1.size)) (And.intro (H4.out.2.2.1.below B14) (And.intro (H4.out.2.2.2.1.below B14) (And.intro (H4.out.2.2.2.2.1.below B14) (And.intro (H4.out.2.2.2.2.2.1.below B14) (And.intro (H4.out.2.2.2.2.2.2.1.below B14) (And.intro (H4.out.2.2.2.2.2.2.2.below B14) n14)))))))); clear n14 z14 f14 B14 H4; clear hSSa13; have hSSrw14 := And.intro ((H5.out.2.2.1).c0) (And.intro ((H5.out.2.2.1).c1) (And.intro ((H5.out.2.2.2.1).c0) ((H5.out.2.2.2.1).c1))))
          refine hK.out _ _ ?_ (fun hHeld => ?_)
          · assumption
          clear hK K
          refine wpAnyH_ready (rs := [5]) (by kernel_rfl) (by simp) ?_
          refine AllReadyH.cons rfl (fun K hK => ?_) AllReadyH.nil
          go_simp
          have LWB6 := BZ.size
          have LTB6X1 := lt_of_box (H5.out.2.2.1)
          have LTB6X2 := lt_of_box (H5.out.2.2.2.1)
          have LTB6B5 := lt_of_box (H5.out.2.2.2.2.2.2.2.1)
          have APxB6 := Lib.hid (apart_old (H5.out.2.2.2.2.2.2.1) (Nat.le_refl w14.heap.size))
          have APyB6 := Lib.hid (apart_old (H5.out.2.2.2.2.2.2.2.2) (Nat.le_refl w14.heap.size))
          obtain ⟨w15, hw15⟩ : ∃ w15, w15 = w14.alloc (.cells #[.bool false, .slice none 0 0] 28) := ⟨_, rfl⟩
          rw [← hw15]
          have B15 : Below w14.heap.size w14 w15 := by rw [hw15]; exact (Below.refl _ _).alloc (Nat.le_refl _) _
          have BZ := BZ.trans (B15.mono BZ.size)
          have N15 : Box w15 w14.heap.size (.bool false) (.slice none 0 0) := by rw [hw15]; exact box_fresh 28 _ _ _ rfl
          have H6 := Lib.hid (And.intro (H5.out.1.below B15) (And.intro (H5.out.2.1.trans (B15.mono H5.out.2.1.size)) (And.intro (H5.out.2.2.1.below B15) (And.intro (H5.out.2.2.2.1.below B15) (And.intro (H5.out.2.2.2.2.1.below B15) (And.intro (H5.out.2.2.2.2.2.1.below B15) (And.intro (H5.out.2.2.2.2.2.2.1.below B15) (And.intro (H5.out.2.2.2.2.2.2.2.1.below B15) (And.intro (H5.out.2.2.2.2.2.2.2.2.below B15) N15)))))))))
          clear hw15 B15 N15 H5
          clear hSSrw14
          have hSSa15 := And.intro ((H6.out.2.2.1).c0) (And.intro ((H6.out.2.2.1).c1) (And.intro ((H6.out.2.2.2.1).c0) ((H6.out.2.2.2.1).c1)))
          refine hK.out _ _ ?_ (fun hHeld => ?_)
          · assumption
          clear hK K
          refine wpAnyH_ready (rs := [6]) (by kernel_rfl) (by simp) ?_
          refine AllReadyH.cons rfl (fun K hK => ?_) AllReadyH.nil
          have H7 := Lib.hid (And.intro H6.out.1 (And.intro H6.out.2.1 (And.intro H6.out.2.2.1 (And.intro H6.out.2.2.2.1 (And.intro H6.out.2.2.2.2.2.2.1 (And.intro H6.out.2.2.2.2.2.2.2.1 (And.intro H6.out.2.2.2.2.2.2.2.2.1 H6.out.2.2.2.2.2.2.2.2.2)))))))
          have hf0 := (H7.out.2.2.2.2.2.1).f0
          have hf1 := (H7.out.2.2.2.2.2.1).f1
          have hc0 := (H7.out.2.2.2.2.2.1).c0
          have hc1 := (H7.out.2.2.2.2.2.1).c1
          go_simp
          clear hf0 hf1 hc0 hc1
          obtain ⟨w16, hw16⟩ : ∃ w16, w16 = (w15.setCell ⟨w12.heap.size, 0, none⟩ (.bool s12)).setCell ⟨w12.heap.size, 1, none⟩ (.slice p12 D12.length c12) := ⟨_, rfl⟩
          rw [← hw16]
          have M16z : Box w16 (w.heap.size) (.bool s1) (.slice p1 l1.length c1) := by rw [hw16]; exact (H7.out.1).far (by omega) _ _
          have M16b : Below w.heap.size w w16 := by rw [hw16]; exact box_kept (H7.out.2.1) (by omega) _ _
          have M16X1 : Box w16 (w.heap.size) (.bool s1) (.slice p1 l1.length c1) := by rw [hw16]; exact (H7.out.2.2.1).far (by omega) _ _
          have M16X2 : Box w16 (w.heap.size + 1) (.bool s2) (.slice p2 l2.length c2) := by rw [hw16]; exact (H7.out.2.2.2.1).far (by omega) _ _
          have M16x : Dn w16 s12 p12 c12 D12 x := by rw [hw16]; exact (H7.out.2.2.2.2.1).apart APxB5.out _ _
          have M16B5 : Box w16 (w12.heap.size) (.bool s12) (.slice p12 D12.length c12) := by rw [hw16]; exact (H7.out.2.2.2.2.2.1).put _ _
          have M16y : Dn w16 s14 p14 c14 D14 y := by rw [hw16]; exact (H7.out.2.2.2.2.2.2.1).apart APyB5.out _ _
          have M16B6 : Box w16 (w14.heap.size) (.bool false) (.slice none 0 0) := by rw [hw16]; exact (H7.out.2.2.2.2.2.2.2).far (by omega) _ _
          have BZ : Below W.heap.size W w16 := by rw [hw16]; exact box_kept BZ (by omega) _ _
          have H8 := Lib.hid (And.intro M16z (And.intro M16b (And.intro M16X1 (And.intro M16X2 (And.intro M16x (And.intro M16B5 (And.intro M16y M16B6)))))))
          clear M16z M16b M16X1 M16X2 M16x M16B5 M16y M16B6 hw16 H7
          clear hSSa15
          have hSSb16 := And.intro ((H8.out.2.2.1).c0) (And.intro ((H8.out.2.2.1).c1) (And.intro ((H8.out.2.2.2.1).c0) ((H8.out.2.2.2.1).c1)))
          refine hK.out _ _ ?_ (fun hHeld => ?_)
          · assumption
          clear hK K
          refine wpAnyH_ready (rs := [7]) (by kernel_rfl) (by simp) ?_
          refine AllReadyH.cons rfl (fun K hK => ?_) AllReadyH.nil
          have hf0 := (H8.out.2.2.2.2.2.2.2).f0
          have hf1 := (H8.out.2.2.2.2.2.2.2).f1
          have hc0 := (H8.out.2.2.2.2.2.2.2).c0
          have hc1 := (H8.out.2.2.2.2.2.2.2).c1
          go_simp
          clear hf0 hf1 hc0 hc1
          obtain ⟨w17, hw17⟩ : ∃ w17, w17 = (w16.setCell ⟨w14.heap.size, 0, none⟩ (.bool s14)).setCell ⟨w14.heap.size, 1, none⟩ (.slice p14 D14.length c14) := ⟨_, rfl⟩
          rw [← hw17]
          have M17z : Box w17 (w.heap.size) (.bool s1) (.slice p1 l1.length c1) := by rw [hw17]; exact (H8.out.1).far (by omega) _ _
          have M17b : Below w.heap.size w w17 := by rw [hw17]; exact box_kept (H8.out.2.1) (by omega) _ _
          have M17X1 : Box w17 (w.heap.size) (.bool s1) (.slice p1 l1.length c1) := by rw [hw17]; exact (H8.out.2.2.1).far (by omega) _ _
          have M17X2 : Box w17 (w.heap.size + 1) (.bool s2) (.slice p2 l2.length c2) := by rw [hw17]; exact (H8.out.2.2.2.1).far (by omega) _ _
          have M17x : Dn w17 s12 p12 c12 D12 x := by rw [hw17]; exact (H8.out.2.2.2.2.1).apart APxB6.out _ _
          have M17B5 : Box w17 (w12.heap.size) (.bool s12) (.slice p12 D12.length c12) := by rw [hw17]; exact (H8.out.2.2.2.2.2.1).far (by omega) _ _
          have M17y : Dn w17 s14 p14 c14 D14 y := by rw [hw17]; exact (H8.out.2.2.2.2.2.2.1).apart APyB6.out _ _
          have M17B6 : Box w17 (w14.heap.size) (.bool s14) (.slice p14 D14.length c14) := by rw [hw17]; exact (H8.out.2.2.2.2.2.2.2).put _ _
          have BZ : Below W.heap.size W w17 := by rw [hw17]; exact box_kept BZ (by omega) _ _
          have H9 := Lib.hid (And.intro M17z (And.intro M17b (And.intro M17X1 (And.intro M17X2 (And.intro M17x (And.intro M17B5 (And.intro M17y M17B6)))))))
          clear M17z M17b M17X1 M17X2 M17x M17B5 M17y M17B6 hw17 H8
          clear hSSb16
          have hSSb17 := And.intro ((H9.out.2.2.1).c0) (And.intro ((H9.out.2.2.1).c1) (And.intro ((H9.out.2.2.2.1).c0) ((H9.out.2.2.2.1).c1)))
          refine hK.out _ _ ?_ (fun hHeld => ?_)
          · assumption
          clear hK K
          refine wpAnyH_done (by kernel_rfl) (NoPanic.normal ?_) _
          clear hSSb17
          go_wp2_with fail
          go_meet
          exact ⟨_, _, s12, s14, p12, p14, c12, c14, D12, D14, rfl, rfl, H9.out.2.2.2.2.2.1, H9.out.2.2.2.2.2.2.2, H9.out.2.2.2.2.1, H9.out.2.2.2.2.2.2.1, by have := ZLx.out; omega, by have := ZLy.out; omega, BZ⟩
        · go_simp
          have LWB6 := BZ.size
          have LTB6X1 := lt_of_box (H4.out.2.2.1)
          have LTB6X2 := lt_of_box (H4.out.2.2.2.1)
          have LTB6B5 := lt_of_box (H4.out.2.2.2.2.2.2.2)
          have APxB6 := Lib.hid (apart_old (H4.out.2.2.2.2.2.2.1) (Nat.le_refl w13.heap.size))
          obtain ⟨w14, hw14⟩ : ∃ w14, w14 = w13.alloc (.cells #[.bool false, .slice none 0 0] 28) := ⟨_, rfl⟩
          rw [← hw14]
          have B14 : Below w13.heap.size w13 w14 := by rw [hw14]; exact (Below.refl _ _).alloc (Nat.le_refl _) _
          have BZ := BZ.trans (B14.mono BZ.size)
          have N14 : Box w14 w13.heap.size (.bool false) (.slice none 0 0) := by rw [hw14]; exact box_fresh 28 _ _ _ rfl
          have H5 := Lib.hid (And.intro (H4.out.1.below B14) (And.intro (H4.out.2.1.trans (B14.mono H4.out.2.1.size)) (And.intro (H4.out.2.2.1.below B14) (And.intro (H4.out.2.2.2.1.below B14) (And.intro (H4.out.2.2.2.2.1.below B14) (And.intro (H4.out.2.2.2.2.2.1.below B14) (And.intro (H4.out.2.2.2.2.2.2.1.below B14) (And.intro (H4.out.2.2.2.2.2.2.2.below B14) N14))))))))
          clear hw14 B14 N14 H4
          clear hSSa13
          have hSSa14 := And.intro ((H5.out.2.2.1).c0) (And.intro ((H5.out.2.2.1).c1) (And.intro ((H5.out.2.2.2.1).c0) ((H5.out.2.2.2.1).c1)))
          refine hK.out _ _ ?_ (fun hHeld => ?_)
          · assumption
          clear hK K
          refine wpAnyH_ready (rs := [3]) (by kernel_rfl) (by simp) ?_
          refine AllReadyH.cons rfl (fun K hK => ?_) AllReadyH.nil
          go_simp
          go_wp2_with (have hx := H5; go_at_call 12; clear hx; refine (of_fresh (H5.out.2.2.2.2.2.1).toNm (by omega)).mono ?_; rintro e w15 ⟨s15, p15, c15, D15, rfl, n15, z15, f15, B15⟩; have ZLy := Lib.hid z15; have Q15B5 := lt_of_box (H5.out.2.2.2.2.2.2.2.1); have Q15B6 := lt_of_box (H5.out.2.2.2.2.2.2.2.2); have APyB5 := Lib.hid (apart_new (D := D15) f15 Q15B5); clear Q15B5; have APyB6 := Lib.hid (apart_new (D := D15) f15 Q15B6); clear Q15B6;  skip; have BZ := BZ.trans (B15.mono BZ.size); have H6 := Lib.hid (And.intro (H5.out.1.below B15) (And.intro (H5.out.2.1.trans (B15.mono H5.out.2.1.size)) (And.intro (H5.out.2.2.1.below B15) (And.intro (H5.out.2.2.2.1.below B15) (And.intro (H5.out.2.2.2.2.1.below B15) (And.intro (H5.out.2.2.2.2.2.1.below B15) (And.intro (H5.out.2.2.2.2.2.2.1.below B15) (And.intro (H5.out.2.2.2.2.2.2.2.1.below B15) (And.intro (H5.out.2.2.2.2.2.2.2.2.below B15) n15))))))))); clear n15 z15 f15 B15 H5; clear hSSa14; have hSSrw15 := And.intro ((H6.out.2.2.1).c0) (And.intro ((H6.out.2.2.1).c1) (And.intro ((H6.out.2.2.2.1).c0) ((H6.out.2.2.2.1).c1))))
          refine hK.out _ _ ?_ (fun hHeld => ?_)
          · assumption
          clear hK K
          refine wpAnyH_ready (rs := [6]) (by kernel_rfl) (by simp) ?_
          refine AllReadyH.cons rfl (fun K hK => ?_) AllReadyH.nil
          have H7 := Lib.hid (And.intro H6.out.1 (And.intro H6.out.2.1 (And.intro H6.out.2.2.1 (And.intro H6.out.2.2.2.1 (And.intro H6.out.2.2.2.2.2.2.1 (And.intro H6.out.2.2.2.2.2.2.2.1 (And.intro H6.out.2.2.2.2.2.2.2.2.1 H6.out.2.2.2.2.2.2.2.2.2)))))))
          have hf0 := (H7.out.2.2.2.2.2.1).f0
          have hf1 := (H7.out.2.2.2.2.2.1).f1
          have hc0 := (H7.out.2.2.2.2.2.1).c0
          have hc1 := (H7.out.2.2.2.2.2.1).c1
          go_simp
          clear hf0 hf1 hc0 hc1
          obtain ⟨w16, hw16⟩ : ∃ w16, w16 = (w15.setCell ⟨w12.heap.size, 0, none⟩ (.bool s12)).setCell ⟨w12.heap.size, 1, none⟩ (.slice p12 D12.length c12) := ⟨_, rfl⟩
          rw [← hw16]
          have M16z : Box w16 (w.heap.size) (.bool s1) (.slice p1 l1.length c1) := by rw [hw16]; exact (H7.out.1).far (by omega) _ _
          have M16b : Below w.heap.size w w16 := by rw [hw16]; exact box_kept (H7.out.2.1) (by omega) _ _
          have M16X1 : Box w16 (w.heap.size) (.bool s1) (.slice p1 l1.length c1) := by rw [hw16]; exact (H7.out.2.2.1).far (by omega) _ _
          have M16X2 : Box w16 (w.heap.size + 1) (.bool s2) (.slice p2 l2.length c2) := by rw [hw16]; exact (H7.out.2.2.2.1).far (by omega) _ _
          have M16x : Dn w16 s12 p12 c12 D12 x := by rw [hw16]; exact (H7.out.2.2.2.2.1).apart APxB5.out _ _
          have M16B5 : Box w16 (w12.heap.size) (.bool s12) (.slice p12 D12.length c12) := by rw [hw16]; exact (H7.out.2.2.2.2.2.1).put _ _
          have M16B6 : Box w16 (w13.heap.size) (.bool false) (.slice none 0 0) := by rw [hw16]; exact (H7.out.2.2.2.2.2.2.1).far (by omega) _ _
          have M16y : Dn w16 s15 p15 c15 D15 y := by rw [hw16]; exact (H7.out.2.2.2.2.2.2.2).apart APyB5.out _ _
          have BZ : Below W.heap.size W w16 := by rw [hw16]; exact box_kept BZ (by omega) _ _
          have H8 := Lib.hid (And.intro M16z (And.intro M16b (And.intro M16X1 (And.intro M16X2 (And.intro M16x (And.intro M16B5 (And.intro M16B6 M16y)))))))
          clear M16z M16b M16X1 M16X2 M16x M16B5 M16B6 M16y hw16 H7
          clear hSSrw15
          have hSSb16 := And.intro ((H8.out.2.2.1).c0) (And.intro ((H8.out.2.2.1).c1) (And.intro ((H8.out.2.2.2.1).c0) ((H8.out.2.2.2.1).c1)))
          refine hK.out _ _ ?_ (fun hHeld => ?_)
          · assumption
          clear hK K
          refine wpAnyH_ready (rs := [7]) (by kernel_rfl) (by simp) ?_
          refine AllReadyH.cons rfl (fun K hK => ?_) AllReadyH.nil
          have hf0 := (H8.out.2.2.2.2.2.2.1).f0
          have hf1 := (H8.out.2.2.2.2.2.2.1).f1
          have hc0 := (H8.out.2.2.2.2.2.2.1).c0
          have hc1 := (H8.out.2.2.2.2.2.2.1).c1
          go_simp
          clear hf0 hf1 hc0 hc1
          obtain ⟨w17, hw17⟩ : ∃ w17, w17 = (w16.setCell ⟨w13.heap.size, 0, none⟩ (.bool s15)).setCell ⟨w13.heap.size, 1, none⟩ (.slice p15 D15.length c15) := ⟨_, rfl⟩
          rw [← hw17]
          have M17z : Box w17 (w.heap.size) (.bool s1) (.slice p1 l1.length c1) := by rw [hw17]; exact (H8.out.1).far (by omega) _ _
          have M17b : Below w.heap.size w w17 := by rw [hw17]; exact box_kept (H8.out.2.1) (by omega) _ _
          have M17X1 : Box w17 (w.heap.size) (.bool s1) (.slice p1 l1.length c1) := by rw [hw17]; exact (H8.out.2.2.1).far (by omega) _ _
          have M17X2 : Box w17 (w.heap.size + 1) (.bool s2) (.slice p2 l2.length c2) := by rw [hw17]; exact (H8.out.2.2.2.1).far (by omega) _ _
          have M17x : Dn w17 s12 p12 c12 D12 x := by rw [hw17]; exact (H8.out.2.2.2.2.1).apart APxB6.out _ _
          have M17B5 : Box w17 (w12.heap.size) (.bool s12) (.slice p12 D12.length c12) := by rw [hw17]; exact (H8.out.2.2.2.2.2.1).far (by omega) _ _
          have M17B6 : Box w17 (w13.heap.size) (.bool s15) (.slice p15 D15.length c15) := by rw [hw17]; exact (H8.out.2.2.2.2.2.2.1).put _ _
          have M17y : Dn w17 s15 p15 c15 D15 y := by rw [hw17]; exact (H8.out.2.2.2.2.2.2.2).apart APyB6.out _ _
          have BZ : Below W.heap.size W w17 := by rw [hw17]; exact box_kept BZ (by omega) _ _
          have H9 := Lib.hid (And.intro M17z (And.intro M17b (And.intro M17X1 (And.intro M17X2 (And.intro M17x (And.intro M17B5 (And.intro M17B6 M17y)))))))
          clear M17z M17b M17X1 M17X2 M17x M17B5 M17B6 M17y hw17 H8
          clear hSSb16
          have hSSb17 := And.intro ((H9.out.2.2.1).c0) (And.intro ((H9.out.2.2.1).c1) (And.intro ((H9.out.2.2.2.1).c0) ((H9.out.2.2.2.1).c1)))
          refine hK.out _ _ ?_ (fun hHeld => ?_)
          · assumption
          clear hK K
          refine wpAnyH_done (by kernel_rfl) (NoPanic.normal ?_) _
          clear hSSb17
          go_wp2_with fail
          go_meet
          exact ⟨_, _, s12, s15, p12, p15, c12, c15, D12, D15, rfl, rfl, H9.out.2.2.2.2.2.1, H9.out.2.2.2.2.2.2.1, H9.out.2.2.2.2.1, H9.out.2.2.2.2.2.2.2, by have := ZLx.out; omega, by have := ZLy.out; omega, BZ⟩
      · go_simp
        have LWB6 := BZ.size
        have LTB6X1 := lt_of_box (H3.out.2.2.1)
        have LTB6X2 := lt_of_box (H3.out.2.2.2.1)
        have APxB6 := Lib.hid (apart_old (H3.out.2.2.2.2.2.2) (Nat.le_refl w12.heap.size))
        obtain ⟨w13, hw13⟩ : ∃ w13, w13 = w12.alloc (.cells #[.bool false, .slice none 0 0] 28) := ⟨_, rfl⟩
        rw [← hw13]
        have B13 : Below w12.heap.size w12 w13 := by rw [hw13]; exact (Below.refl _ _).alloc (Nat.le_refl _) _
        have BZ := BZ.trans (B13.mono BZ.size)
        have N13 : Box w13 w12.heap.size (.bool false) (.slice none 0 0) := by rw [hw13]; exact box_fresh 28 _ _ _ rfl
        have H4 := Lib.hid (And.intro (H3.out.1.below B13) (And.intro (H3.out.2.1.trans (B13.mono H3.out.2.1.size)) (And.intro (H3.out.2.2.1.below B13) (And.intro (H3.out.2.2.2.1.below B13) (And.intro (H3.out.2.2.2.2.1.below B13) (And.intro (H3.out.2.2.2.2.2.1.below B13) (And.intro (H3.out.2.2.2.2.2.2.below B13) N13)))))))
        clear hw13 B13 N13 H3
        clear hSSrw12
        have hSSa13 := And.intro ((H4.out.2.2.1).c0) (And.intro ((H4.out.2.2.1).c1) (And.intro ((H4.out.2.2.2.1).c0) ((H4.out.2.2.2.1).c1)))
        refine hK.out _ _ ?_ (fun hHeld => ?_)
        · assumption
        clear hK K
        refine wpAnyH_ready (rs := [3, 4]) (by kernel_rfl) (by simp) ?_
        refine AllReadyH.cons rfl (fun K hK => ?_) (AllReadyH.cons rfl (fun K hK => ?_) AllReadyH.nil)
        · go_simp
          go_wp2_with (have hx := H4; go_at_call 12; clear hx; refine (of_fresh (H4.out.2.2.2.2.2.1).toNm (by omega)).mono ?_; rintro e w14 ⟨s14, p14, c14, D14, rfl, n14, z14, f14, B14⟩; have ZLy := Lib.hid z14; have Q14B6 := lt_of_box (H4.out.2.2.2.2.2.2.2); have APyB6 := Lib.hid (apart_new (D := D14) f14 Q14B6); clear Q14B6;  skip; have BZ := BZ.trans (B14.mono BZ.size); have H5 := Lib.hid (And.intro (H4.out.1.below B14) (And.intro (H4.out.2.1.trans (B14.mono H4.out.2.1.size)) (And.intro (H4.out.2.2.1.below B14) (And.intro (H4.out.2.2.2.1.below B14) (And.intro (H4.out.2.2.2.2.1.below B14) (And.intro (H4.out.2.2.2.2.2.1.below B14) (And.intro (H4.out.2.2.2.2.2.2.1.below B14) (And.intro (H4.out.2.2.2.2.2.2.2.below B14) n14)))))))); clear n14 z14 f14 B14 H4; clear hSSa13; have hSSrw14 := And.intro ((H5.out.2.2.1).c0) (And.intro ((H5.out.2.2.1).c1) (And.intro ((H5.out.2.2.2.1).c0) ((H5.out.2.2.2.1).c1))))
          refine hK.out _ _ ?_ (fun hHeld => ?_)
          · assumption
          clear hK K
          refine wpAnyH_ready (rs := [4]) (by kernel_rfl) (by simp) ?_
          refine AllReadyH.cons rfl (fun K hK => ?_) AllReadyH.nil
          go_simp
          have LWB5 := BZ.size
          have LTB5X1 := lt_of_box (H5.out.2.2.1)
          have LTB5X2 := lt_of_box (H5.out.2.2.2.1)
          have LTB5B6 := lt_of_box (H5.out.2.2.2.2.2.2.2.1)
          have APxB5 := Lib.hid (apart_old (H5.out.2.2.2.2.2.2.1) (Nat.le_refl w14.heap.size))
          have APyB5 := Lib.hid (apart_old (H5.out.2.2.2.2.2.2.2.2) (Nat.le_refl w14.heap.size))
          obtain ⟨w15, hw15⟩ : ∃ w15, w15 = w14.alloc (.cells #[.bool false, .slice none 0 0] 28) := ⟨_, rfl⟩
          rw [← hw15]
          have B15 : Below w14.heap.size w14 w15 := by rw [hw15]; exact (Below.refl _ _).alloc (Nat.le_refl _) _
          have BZ := BZ.trans (B15.mono BZ.size)
          have N15 : Box w15 w14.heap.size (.bool false) (.slice none 0 0) := by rw [hw15]; exact box_fresh 28 _ _ _ rfl
          have H6 := Lib.hid (And.intro (H5.out.1.below B15) (And.intro (H5.out.2.1.trans (B15.mono H5.out.2.1.size)) (And.intro (H5.out.2.2.1.below B15) (And.intro (H5.out.2.2.2.1.below B15) (And.intro (H5.out.2.2.2.2.1.below B15) (And.intro (H5.out.2.2.2.2.2.1.below B15) (And.intro (H5.out.2.2.2.2.2.2.1.below B15) (And.intro (H5.out.2.2.2.2.2.2.2.1.below B15) (And.intro (H5.out.2.2.2.2.2.2.2.2.below B15) N15)))))))))
          clear hw15 B15 N15 H5
          clear hSSrw14
          have hSSa15 := And.intro ((H6.out.2.2.1).c0) (And.intro ((H6.out.2.2.1).c1) (And.intro ((H6.out.2.2.2.1).c0) ((H6.out.2.2.2.1).c1)))
          refine hK.out _ _ ?_ (fun hHeld => ?_)
          · assumption
          clear hK K
          refine wpAnyH_ready (rs := [6]) (by kernel_rfl) (by simp) ?_
          refine AllReadyH.cons rfl (fun K hK => ?_) AllReadyH.nil
          have H7 := Lib.hid (And.intro H6.out.1 (And.intro H6.out.2.1 (And.intro H6.out.2.2.1 (And.intro H6.out.2.2.2.1 (And.intro H6.out.2.2.2.2.2.2.1 (And.intro H6.out.2.2.2.2.2.2.2.1 (And.intro H6.out.2.2.2.2.2.2.2.2.1 H6.out.2.2.2.2.2.2.2.2.2)))))))
          have hf0 := (H7.out.2.2.2.2.2.2.2).f0
          have hf1 := (H7.out.2.2.2.2.2.2.2).f1
          have hc0 := (H7.out.2.2.2.2.2.2.2).c0
          have hc1 := (H7.out.2.2.2.2.2.2.2).c1
          go_simp
          clear hf0 hf1 hc0 hc1
          obtain ⟨w16, hw16⟩ : ∃ w16, w16 = (w15.setCell ⟨w14.heap.size, 0, none⟩ (.bool s12)).setCell ⟨w14.heap.size, 1, none⟩ (.slice p12 D12.length c12) := ⟨_, rfl⟩
          rw [← hw16]
          have M16z : Box w16 (w.heap.size) (.bool s1) (.slice p1 l1.length c1) := by rw [hw16]; exact (H7.out.1).far (by omega) _ _
          have M16b : Below w.heap.size w w16 := by rw [hw16]; exact box_kept (H7.out.2.1) (by omega) _ _
          have M16X1 : Box w16 (w.heap.size) (.bool s1) (.slice p1 l1.length c1) := by rw [hw16]; exact (H7.out.2.2.1).far (by omega) _ _
          have M16X2 : Box w16 (w.heap.size + 1) (.bool s2) (.slice p2 l2.length c2) := by rw [hw16]; exact (H7.out.2.2.2.1).far (by omega) _ _
          have M16x : Dn w16 s12 p12 c12 D12 x := by rw [hw16]; exact (H7.out.2.2.2.2.1).apart APxB5.out _ _
          have M16B6 : Box w16 (w12.heap.size) (.bool false) (.slice none 0 0) := by rw [hw16]; exact (H7.out.2.2.2.2.2.1).far (by omega) _ _
          have M16y : Dn w16 s14 p14 c14 D14 y := by rw [hw16]; exact (H7.out.2.2.2.2.2.2.1).apart APyB5.out _ _
          have M16B5 : Box w16 (w14.heap.size) (.bool s12) (.slice p12 D12.length c12) := by rw [hw16]; exact (H7.out.2.2.2.2.2.2.2).put _ _
          have BZ : Below W.heap.size W w16 := by rw [hw16]; exact box_kept BZ (by omega) _ _
          have H8 := Lib.hid (And.intro M16z (And.intro M16b (And.intro M16X1 (And.intro M16X2 (And.intro M16x (And.intro M16B6 (And.intro M16y M16B5)))))))
          clear M16z M16b M16X1 M16X2 M16x M16B6 M16y M16B5 hw16 H7
          clear hSSa15
          have hSSb16 := And.intro ((H8.out.2.2.1).c0) (And.intro ((H8.out.2.2.1).c1) (And.intro ((H8.out.2.2.2.1).c0) ((H8.out.2.2.2.1).c1)))
          refine hK.out _ _ ?_ (fun hHeld => ?_)
          · assumption
          clear hK K
          refine wpAnyH_ready (rs := [7]) (by kernel_rfl) (by simp) ?_
          refine AllReadyH.cons rfl (fun K hK => ?_) AllReadyH.nil
          have hf0 := (H8.out.2.2.2.2.2.1).f0
          have hf1 := (H8.out.2.2.2.2.2.1).f1
          have hc0 := (H8.out.2.2.2.2.2.1).c0
          have hc1 := (H8.out.2.2.2.2.2.1).c1
          go_simp
          clear hf0 hf1 hc0 hc1
          obtain ⟨w17, hw17⟩ : ∃ w17, w17 = (w16.setCell ⟨w12.heap.size, 0, none⟩ (.bool s14)).setCell ⟨w12.heap.size, 1, none⟩ (.slice p14 D14.length c14) := ⟨_, rfl⟩
          rw [← hw17]
          have M17z : Box w17 (w.heap.size) (.bool s1) (.slice p1 l1.length c1) := by rw [hw17]; exact (H8.out.1).far (by omega) _ _
          have M17b : Below w.heap.size w w17 := by rw [hw17]; exact box_kept (H8.out.2.1) (by omega) _ _
          have M17X1 : Box w17 (w.heap.size) (.bool s1) (.slice p1 l1.length c1) := by rw [hw17]; exact (H8.out.2.2.1).far (by omega) _ _
          have M17X2 : Box w17 (w.heap.size + 1) (.bool s2) (.slice p2 l2.length c2) := by rw [hw17]; exact (H8.out.2.2.2.1).far (by omega) _ _
          have M17x : Dn w17 s12 p12 c12 D12 x := by rw [hw17]; exact (H8.out.2.2.2.2.1).apart APxB6.out _ _
          have M17B6 : Box w17 (w12.heap.size) (.bool s14) (.slice p14 D14.length c14) := by rw [hw17]; exact (H8.out.2.2.2.2.2.1).put _ _
          have M17y : Dn w17 s14 p14 c14 D14 y := by rw [hw17]; exact (H8.out.2.2.2.2.2.2.1).apart APyB6.out _ _
          have M17B5 : Box w17 (w14.heap.size) (.bool s12) (.slice p12 D12.length c12) := by rw [hw17]; exact (H8.out.2.2.2.2.2.2.2).far (by omega) _ _
          have BZ : Below W.heap.size W w17 := by rw [hw17]; exact box_kept BZ (by omega) _ _
          have H9 := Lib.hid (And.intro M17z (And.intro M17b (And.intro M17X1 (And.intro M17X2 (And.intro M17x (And.intro M17B6 (And.intro M17y M17B5)))))))
          clear M17z M17b M17X1 M17X2 M17x M17B6 M17y M17B5 hw17 H8
          clear hSSb16
          have hSSb17 := And.intro ((H9.out.2.2.1).c0) (And.intro ((H9.out.2.2.1).c1) (And.intro ((H9.out.2.2.2.1).c0) ((H9.out.2.2.2.1).c1)))
          refine hK.out _ _ ?_ (fun hHeld => ?_)
          · assumption
          clear hK K
          refine wpAnyH_done (by kernel_rfl) (NoPanic.normal ?_) _
          clear hSSb17
          go_wp2_with fail
          go_meet
          exact ⟨_, _, s12, s14, p12, p14, c12, c14, D12, D14, rfl, rfl, H9.out.2.2.2.2.2.2.2, H9.out.2.2.2.2.2.1, H9.out.2.2.2.2.1, H9.out.2.2.2.2.2.2.1, by have := ZLx.out; omega, by have := ZLy.out; omega, BZ⟩
        · go_simp
          have LWB5 := BZ.size
          have LTB5X1 := lt_of_box (H4.out.2.2.1)
          have LTB5X2 := lt_of_box (H4.out.2.2.2.1)
          have LTB5B6 := lt_of_box (H4.out.2.2.2.2.2.2.2)
          have APxB5 := Lib.hid (apart_old (H4.out.2.2.2.2.2.2.1) (Nat.le_refl w13.heap.size))
          obtain ⟨w14, hw14⟩ : ∃ w14, w14 = w13.alloc (.cells #[.bool false, .slice none 0 0] 28) := ⟨_, rfl⟩
          rw [← hw14]
          have B14 : Below w13.heap.size w13 w14 := by rw [hw14]; exact (Below.refl _ _).alloc (Nat.le_refl _) _
          have BZ := BZ.trans (B14.mono BZ.size)
          have N14 : Box w14 w13.heap.size (.bool false) (.slice none 0 0) := by rw [hw14]; exact box_fresh 28 _ _ _ rfl
          have H5 := Lib.hid (And.intro (H4.out.1.below B14) (And.intro (H4.out.2.1.trans (B14.mono H4.out.2.1.size)) (And.intro (H4.out.2.2.1.below B14) (And.intro (H4.out.2.2.2.1.below B14) (And.intro (H4.out.2.2.2.2.1.below B14) (And.intro (H4.out.2.2.2.2.2.1.below B14) (And.intro (H4.out.2.2.2.2.2.2.1.below B14) (And.intro (H4.out.2.2.2.2.2.2.2.below B14) N14))))))))
          clear hw14 B14 N14 H4
          clear hSSa13
          have hSSa14 := And.intro ((H5.out.2.2.1).c0) (And.intro ((H5.out.2.2.1).c1) (And.intro ((H5.out.2.2.2.1).c0) ((H5.out.2.2.2.1).c1)))
          refine hK.out _ _ ?_ (fun hHeld => ?_)
          · assumption
          clear hK K
          refine wpAnyH_ready (rs := [3]) (by kernel_rfl) (by simp) ?_
          refine AllReadyH.cons rfl (fun K hK => ?_) AllReadyH.nil
          go_simp
          go_wp2_with (have hx := H5; go_at_call 12; clear hx; refine (of_fresh (H5.out.2.2.2.2.2.1).toNm (by omega)).mono ?_; rintro e w15 ⟨s15, p15, c15, D15, rfl, n15, z15, f15, B15⟩; have ZLy := Lib.hid z15; have Q15B5 := lt_of_box (H5.out.2.2.2.2.2.2.2.2); have Q15B6 := lt_of_box (H5.out.2.2.2.2.2.2.2.1); have APyB5 := Lib.hid (apart_new (D := D15) f15 Q15B5); clear Q15B5; have APyB6 := Lib.hid (apart_new (D := D15) f15 Q15B6); clear Q15B6;  skip; have BZ := BZ.trans (B15.mono BZ.size); have H6 := Lib.hid (And.intro (H5.out.1.below B15) (And.intro (H5.out.2.1.trans (B15.mono H5.out.2.1.size)) (And.intro (H5.out.2.2.1.below B15) (And.intro (H5.out.2.2.2.1.below B15) (And.intro (H5.out.2.2.2.2.1.below B15) (And.intro (H5.out.2.2.2.2.2.1.below B15) (And.intro (H5.out.2.2.2.2.2.2.1.below B15) (And.intro (H5.out.2.2.2.2.2.2.2.1.below B15) (And.intro (H5.out.2.2.2.2.2.2.2.2.below B15) n15))))))))); clear n15 z15 f15 B15 H5; clear hSSa14; have hSSrw15 := And.intro ((H6.out.2.2.1).c0) (And.intro ((H6.out.2.2.1).c1) (And.intro ((H6.out.2.2.2.1).c0) ((H6.out.2.2.2.1).c1))))
          refine hK.out _ _ ?_ (fun hHeld => ?_)
          · assumption
          clear hK K
          refine wpAnyH_ready (rs := [6]) (by kernel_rfl) (by simp) ?_
          refine AllReadyH.cons rfl (fun K hK => ?_) AllReadyH.nil
          have H7 := Lib.hid (And.intro H6.out.1 (And.intro H6.out.2.1 (And.intro H6.out.2.2.1 (And.intro H6.out.2.2.2.1 (And.intro H6.out.2.2.2.2.2.2.1 (And.intro H6.out.2.2.2.2.2.2.2.1 (And.intro H6.out.2.2.2.2.2.2.2.2.1 H6.out.2.2.2.2.2.2.2.2.2)))))))
          have hf0 := (H7.out.2.2.2.2.2.2.1).f0
          have hf1 := (H7.out.2.2.2.2.2.2.1).f1
          have hc0 := (H7.out.2.2.2.2.2.2.1).c0
          have hc1 := (H7.out.2.2.2.2.2.2.1).c1
          go_simp
          clear hf0 hf1 hc0 hc1
          obtain ⟨w16, hw16⟩ : ∃ w16, w16 = (w15.setCell ⟨w13.heap.size, 0, none⟩ (.bool s12)).setCell ⟨w13.heap.size, 1, none⟩ (.slice p12 D12.length c12) := ⟨_, rfl⟩
          rw [← hw16]
          have M16z : Box w16 (w.heap.size) (.bool s1) (.slice p1 l1.length c1) := by rw [hw16]; exact (H7.out.1).far (by omega) _ _
          have M16b : Below w.heap.size w w16 := by rw [hw16]; exact box_kept (H7.out.2.1) (by omega) _ _
          have M16X1 : Box w16 (w.heap.size) (.bool s1) (.slice p1 l1.length c1) := by rw [hw16]; exact (H7.out.2.2.1).far (by omega) _ _
          have M16X2 : Box w16 (w.heap.size + 1) (.bool s2) (.slice p2 l2.length c2) := by rw [hw16]; exact (H7.out.2.2.2.1).far (by omega) _ _
          have M16x : Dn w16 s12 p12 c12 D12 x := by rw [hw16]; exact (H7.out.2.2.2.2.1).apart APxB5.out _ _
          have M16B6 : Box w16 (w12.heap.size) (.bool false) (.slice none 0 0) := by rw [hw16]; exact (H7.out.2.2.2.2.2.1).far (by omega) _ _
          have M16B5 : Box w16 (w13.heap.size) (.bool s12) (.slice p12 D12.length c12) := by rw [hw16]; exact (H7.out.2.2.2.2.2.2.1).put _ _
          have M16y : Dn w16 s15 p15 c15 D15 y := by rw [hw16]; exact (H7.out.2.2.2.2.2.2.2).apart APyB5.out _ _
          have BZ : Below W.heap.size W w16 := by rw [hw16]; exact box_kept BZ (by omega) _ _
          have H8 := Lib.hid (And.intro M16z (And.intro M16b (And.intro M16X1 (And.intro M16X2 (And.intro M16x (And.intro M16B6 (And.intro M16B5 M16y)))))))
          clear M16z M16b M16X1 M16X2 M16x M16B6 M16B5 M16y hw16 H7
          clear hSSrw15
          have hSSb16 := And.intro ((H8.out.2.2.1).c0) (And.intro ((H8.out.2.2.1).c1) (And.intro ((H8.out.2.2.2.1).c0) ((H8.out.2.2.2.1).c1)))
          refine hK.out _ _ ?_ (fun hHeld => ?_)
          · assumption
          clear hK K
          refine wpAnyH_ready (rs := [7]) (by kernel_rfl) (by simp) ?_
          refine AllReadyH.cons rfl (fun K hK => ?_) AllReadyH.nil
          have hf0 := (H8.out.2.2.2.2.2.1).f0
          have hf1 := (H8.out.2.2.2.2.2.1).f1
          have hc0 := (H8.out.2.2.2.2.2.1).c0
          have hc1 := (H8.out.2.2.2.2.2.1).c1
          go_simp
          clear hf0 hf1 hc0 hc1
          obtain ⟨w17, hw17⟩ : ∃ w17, w17 = (w16.setCell ⟨w12.heap.size, 0, none⟩ (.bool s15)).setCell ⟨w12.heap.size, 1, none⟩ (.slice p15 D15.length c15) := ⟨_, rfl⟩
          rw [← hw17]
          have M17z : Box w17 (w.heap.size) (.bool s1) (.slice p1 l1.length c1) := by rw [hw17]; exact (H8.out.1).far (by omega) _ _
          have M17b : Below w.heap.size w w17 := by rw [hw17]; exact box_kept (H8.out.2.1) (by omega) _ _
          have M17X1 : Box w17 (w.heap.size) (.bool s1) (.slice p1 l1.length c1) := by rw [hw17]; exact (H8.out.2.2.1).far (by omega) _ _
          have M17X2 : Box w17 (w.heap.size + 1) (.bool s2) (.slice p2 l2.length c2) := by rw [hw17]; exact (H8.out.2.2.2.1).far (by omega) _ _
          have M17x : Dn w17 s12 p12 c12 D12 x := by rw [hw17]; exact (H8.out.2.2.2.2.1).apart APxB6.out _ _
          have M17B6 : Box w17 (w12.heap.size) (.bool s15) (.slice p15 D15.length c15) := by rw [hw17]; exact (H8.out.2.2.2.2.2.1).put _ _
          have M17B5 : Box w17 (w13.heap.size) (.bool s12) (.slice p12 D12.length c12) := by rw [hw17]; exact (H8.out.2.2.2.2.2.2.1).far (by omega) _ _
          have M17y : Dn w17 s15 p15 c15 D15 y := by rw [hw17]; exact (H8.out.2.2.2.2.2.2.2).apart APyB6.out _ _
          have BZ : Below W.heap.size W w17 := by rw [hw17]; exact box_kept BZ (by omega) _ _
          have H9 := Lib.hid (And.intro M17z (And.intro M17b (And.intro M17X1 (And.intro M17X2 (And.intro M17x (And.intro M17B6 (And.intro M17B5 M17y)))))))
          clear M17z M17b M17X1 M17X2 M17x M17B6 M17B5 M17y hw17 H8
          clear hSSb16
          have hSSb17 := And.intro ((H9.out.2.2.1).c0) (And.intro ((H9.out.2.2.1).c1) (And.intro ((H9.out.2.2.2.1).c0) ((H9.out.2.2.2.1).c1)))
          refine hK.out _ _ ?_ (fun hHeld => ?_)
          · assumption
          clear hK K
          refine wpAnyH_done (by kernel_rfl) (NoPanic.normal ?_) _
          clear hSSb17
          go_wp2_with fail
          go_meet
          exact ⟨_, _, s12, s15, p12, p15, c12, c15, D12, D15, rfl, rfl, H9.out.2.2.2.2.2.2.1, H9.out.2.2.2.2.2.1, H9.out.2.2.2.2.1, H9.out.2.2.2.2.2.2.2, by have := ZLx.out; omega, by have := ZLy.out; omega, BZ⟩
    · go_simp
      have LWB5 := BZ.size
      have LTB5X1 := lt_of_box (H2.out.2.2.1)
      have LTB5X2 := lt_of_box (H2.out.2.2.2.1)
      obtain ⟨w12, hw12⟩ : ∃ w12, w12 = wd.alloc (.cells #[.bool false, .slice none 0 0] 28) := ⟨_, rfl⟩
      rw [← hw12]
      have B12 : Below wd.heap.size wd w12 := by rw [hw12]; exact (Below.refl _ _).alloc (Nat.le_refl _) _
      have BZ := BZ.trans (B12.mono BZ.size)
      have N12 : Box w12 wd.heap.size (.bool false) (.slice none 0 0) := by rw [hw12]; exact box_fresh 28 _ _ _ rfl
      have H3 := Lib.hid (And.intro (H2.out.1.below B12) (And.intro (H2.out.2.1.trans (B12.mono H2.out.2.1.size)) (And.intro (H2.out.2.2.1.below B12) (And.intro (H2.out.2.2.2.1.below B12) (And.intro (H2.out.2.2.2.2.1.below B12) (And.intro (H2.out.2.2.2.2.2.below B12) N12))))))
      clear hw12 B12 N12 H2
      clear hSS
      have hSSa12 := And.intro ((H3.out.2.2.1).c0) (And.intro ((H3.out.2.2.1).c1) (And.intro ((H3.out.2.2.2.1).c0) ((H3.out.2.2.2.1).c1)))
      refine hK.out _ _ ?_ (fun hHeld => ?_)
      · assumption
      clear hK K
      refine wpAnyH_ready (rs := [1, 5]) (by kernel_rfl) (by simp) ?_
      refine AllReadyH.cons rfl (fun K hK => ?_) (AllReadyH.cons rfl (fun K hK => ?_) AllReadyH.nil)
      · go_simp
        go_wp2_with (have hx := H3; go_at_call 12; clear hx; refine (of_fresh (H3.out.2.2.2.2.1).toNm (by omega)).mono ?_; rintro e w13 ⟨s13, p13, c13, D13, rfl, n13, z13, f13, B13⟩; have ZLx := Lib.hid z13; have Q13B5 := lt_of_box (H3.out.2.2.2.2.2.2); have APxB5 := Lib.hid (apart_new (D := D13) f13 Q13B5); clear Q13B5;  skip; have BZ := BZ.trans (B13.mono BZ.size); have H4 := Lib.hid (And.intro (H3.out.1.below B13) (And.intro (H3.out.2.1.trans (B13.mono H3.out.2.1.size)) (And.intro (H3.out.2.2.1.below B13) (And.intro (H3.out.2.2.2.1.below B13) (And.intro (H3.out.2.2.2.2.1.below B13) (And.intro (H3.out.2.2.2.2.2.1.below B13) (And.intro (H3.out.2.2.2.2.2.2.below B13) n13))))))); clear n13 z13 f13 B13 H3; clear hSSa12; have hSSrw13 := And.intro ((H4.out.2.2.1).c0) (And.intro ((H4.out.2.2.1).c1) (And.intro ((H4.out.2.2.2.1).c0) ((H4.out.2.2.2.1).c1))))
        refine hK.out _ _ ?_ (fun hHeld => ?_)
        · assumption
        clear hK K
        refine wpAnyH_ready (rs := [3, 5]) (by kernel_rfl) (by simp) ?_
        refine AllReadyH.cons rfl (fun K hK => ?_) (AllReadyH.cons rfl (fun K hK => ?_) AllReadyH.nil)
        · go_simp
          go_wp2_with (have hx := H4; go_at_call 12; clear hx; refine (of_fresh (H4.out.2.2.2.2.2.1).toNm (by omega)).mono ?_; rintro e w14 ⟨s14, p14, c14, D14, rfl, n14, z14, f14, B14⟩; have ZLy := Lib.hid z14; have Q14B5 := lt_of_box (H4.out.2.2.2.2.2.2.1); have APyB5 := Lib.hid (apart_new (D := D14) f14 Q14B5); clear Q14B5;  skip; have BZ := BZ.trans (B14.mono BZ.size); have H5 := Lib.hid (And.intro (H4.out.1.below B14) (And.intro (H4.out.2.1.trans (B14.mono H4.out.2.1.size)) (And.intro (H4.out.2.2.1.below B14) (And.intro (H4.out.2.2.2.1.below B14) (And.intro (H4.out.2.2.2.2.1.below B14) (And.intro (H4.out.2.2.2.2.2.1.below B14) (And.intro (H4.out.2.2.2.2.2.2.1.below B14) (And.intro (H4.out.2.2.2.2.2.2.2.below B14) n14)))))))); clear n14 z14 f14 B14 H4; clear hSSrw13; have hSSrw14 := And.intro ((H5.out.2.2.1).c0) (And.intro ((H5.out.2.2.1).c1) (And.intro ((H5.out.2.2.2.1).c0) ((H5.out.2.2.2.1).c1))))
          refine hK.out _ _ ?_ (fun hHeld => ?_)
          · assumption
          clear hK K
          refine wpAnyH_ready (rs := [5]) (by kernel_rfl) (by simp) ?_
          refine AllReadyH.cons rfl (fun K hK => ?_) AllReadyH.nil
          go_simp
          have LWB6 := BZ.size
          have LTB6X1 := lt_of_box (H5.out.2.2.1)
          have LTB6X2 := lt_of_box (H5.out.2.2.2.1)
          have LTB6B5 := lt_of_box (H5.out.2.2.2.2.2.2.1)
          have APxB6 := Lib.hid (apart_old (H5.out.2.2.2.2.2.2.2.1) (Nat.le_refl w14.heap.size))
          have APyB6 := Lib.hid (apart_old (H5.out.2.2.2.2.2.2.2.2) (Nat.le_refl w14.heap.size))
          obtain ⟨w15, hw15⟩ : ∃ w15, w15 = w14.alloc (.cells #[.bool false, .slice none 0 0] 28) := ⟨_, rfl⟩
          rw [← hw15]
          have B15 : Below w14.heap.size w14 w15 := by rw [hw15]; exact (Below.refl _ _).alloc (Nat.le_refl _) _
          have BZ := BZ.trans (B15.mono BZ.size)
          have N15 : Box w15 w14.heap.size (.bool false) (.slice none 0 0) := by rw [hw15]; exact box_fresh 28 _ _ _ rfl
          have H6 := Lib.hid (And.intro (H5.out.1.below B15) (And.intro (H5.out.2.1.trans (B15.mono H5.out.2.1.size)) (And.intro (H5.out.2.2.1.below B15) (And.intro (H5.out.2.2.2.1.below B15) (And.intro (H5.out.2.2.2.2.1.below B15) (And.intro (H5.out.2.2.2.2.2.1.below B15) (And.intro (H5.out.2.2.2.2.2.2.1.below B15) (And.intro (H5.out.2.2.2.2.2.2.2.1.below B15) (And.intro (H5.out.2.2.2.2.2.2.2.2.below B15) N15)))))))))
          clear hw15 B15 N15 H5
          clear hSSrw14
          have hSSa15 := And.intro ((H6.out.2.2.1).c0) (And.intro ((H6.out.2.2.1).c1) (And.intro ((H6.out.2.2.2.1).c0) ((H6.out.2.2.2.1).c1)))
          refine hK.out _ _ ?_ (fun hHeld => ?_)
          · assumption
          clear hK K
          refine wpAnyH_ready (rs := [6]) (by kernel_rfl) (by simp) ?_
          refine AllReadyH.cons rfl (fun K hK => ?_) AllReadyH.nil
          have H7 := Lib.hid (And.intro H6.out.1 (And.intro H6.out.2.1 (And.intro H6.out.2.2.1 (And.intro H6.out.2.2.2.1 (And.intro H6.out.2.2.2.2.2.2.1 (And.intro H6.out.2.2.2.2.2.2.2.1 (And.intro H6.out.2.2.2.2.2.2.2.2.1 H6.out.2.2.2.2.2.2.2.2.2)))))))
          have hf0 := (H7.out.2.2.2.2.1).f0
          have hf1 := (H7.out.2.2.2.2.1).f1
          have hc0 := (H7.out.2.2.2.2.1).c0
          have hc1 := (H7.out.2.2.2.2.1).c1
          go_simp
          clear hf0 hf1 hc0 hc1
          obtain ⟨w16, hw16⟩ : ∃ w16, w16 = (w15.setCell ⟨wd.heap.size, 0, none⟩ (.bool s13)).setCell ⟨wd.heap.size, 1, none⟩ (.slice p13 D13.length c13) := ⟨_, rfl⟩
          rw [← hw16]
          have M16z : Box w16 (w.heap.size) (.bool s1) (.slice p1 l1.length c1) := by rw [hw16]; exact (H7.out.1).far (by omega) _ _
          have M16b : Below w.heap.size w w16 := by rw [hw16]; exact box_kept (H7.out.2.1) (by omega) _ _
          have M16X1 : Box w16 (w.heap.size) (.bool s1) (.slice p1 l1.length c1) := by rw [hw16]; exact (H7.out.2.2.1).far (by omega) _ _
          have M16X2 : Box w16 (w.heap.size + 1) (.bool s2) (.slice p2 l2.length c2) := by rw [hw16]; exact (H7.out.2.2.2.1).far (by omega) _ _
          have M16B5 : Box w16 (wd.heap.size) (.bool s13) (.slice p13 D13.length c13) := by rw [hw16]; exact (H7.out.2.2.2.2.1).put _ _
          have M16x : Dn w16 s13 p13 c13 D13 x := by rw [hw16]; exact (H7.out.2.2.2.2.2.1).apart APxB5.out _ _
          have M16y : Dn w16 s14 p14 c14 D14 y := by rw [hw16]; exact (H7.out.2.2.2.2.2.2.1).apart APyB5.out _ _
          have M16B6 : Box w16 (w14.heap.size) (.bool false) (.slice none 0 0) := by rw [hw16]; exact (H7.out.2.2.2.2.2.2.2).far (by omega) _ _
          have BZ : Below W.heap.size W w16 := by rw [hw16]; exact box_kept BZ (by omega) _ _
          have H8 := Lib.hid (And.intro M16z (And.intro M16b (And.intro M16X1 (And.intro M16X2 (And.intro M16B5 (And.intro M16x (And.intro M16y M16B6)))))))
          clear M16z M16b M16X1 M16X2 M16B5 M16x M16y M16B6 hw16 H7
          clear hSSa15
          have hSSb16 := And.intro ((H8.out.2.2.1).c0) (And.intro ((H8.out.2.2.1).c1) (And.intro ((H8.out.2.2.2.1).c0) ((H8.out.2.2.2.1).c1)))
          refine hK.out _ _ ?_ (fun hHeld => ?_)
          · assumption
          clear hK K
          refine wpAnyH_ready (rs := [7]) (by kernel_rfl) (by simp) ?_
          refine AllReadyH.cons rfl (fun K hK => ?_) AllReadyH.nil
          have hf0 := (H8.out.2.2.2.2.2.2.2).f0
          have hf1 := (H8.out.2.2.2.2.2.2.2).f1
          have hc0 := (H8.out.2.2.2.2.2.2.2).c0
          have hc1 := (H8.out.2.2.2.2.2.2.2).c1
          go_simp
          clear hf0 hf1 hc0 hc1
          obtain ⟨w17, hw17⟩ : ∃ w17, w17 = (w16.setCell ⟨w14.heap.size, 0, none⟩ (.bool s14)).setCell ⟨w14.heap.size, 1, none⟩ (.slice p14 D14.length c14) := ⟨_, rfl⟩
          rw [← hw17]
          have M17z : Box w17 (w.heap.size) (.bool s1) (.slice p1 l1.length c1) := by rw [hw17]; exact (H8.out.1).far (by omega) _ _
          have M17b : Below w.heap.size w w17 := by rw [hw17]; exact box_kept (H8.out.2.1) (by omega) _ _
          have M17X1 : Box w17 (w.heap.size) (.bool s1) (.slice p1 l1.length c1) := by rw [hw17]; exact (H8.out.2.2.1).far (by omega) _ _
          have M17X2 : Box w17 (w.heap.size + 1) (.bool s2) (.slice p2 l2.length c2) := by rw [hw17]; exact (H8.out.2.2.2.1).far (by omega) _ _
          have M17B5 : Box w17 (wd.heap.size) (.bool s13) (.slice p13 D13.length c13) := by rw [hw17]; exact (H8.out.2.2.2.2.1).far (by omega) _ _
          have M17x : Dn w17 s13 p13 c13 D13 x := by rw [hw17]; exact (H8.out.2.2.2.2.2.1).apart APxB6.out _ _
          have M17y : Dn w17 s14 p14 c14 D14 y := by rw [hw17]; exact (H8.out.2.2.2.2.2.2.1).apart APyB6.out _ _
          have M17B6 : Box w17 (w14.heap.size) (.bool s14) (.slice p14 D14.length c14) := by rw [hw17]; exact (H8.out.2.2.2.2.2.2.2).put _ _
          have BZ : Below W.heap.size W w17 := by rw [hw17]; exact box_kept BZ (by omega) _ _
          have H9 := Lib.hid (And.intro M17z (And.intro M17b (And.intro M17X1 (And.intro M17X2 (And.intro M17B5 (And.intro M17x (And.intro M17y M17B6)))))))
          clear M17z M17b M17X1 M17X2 M17B5 M17x M17y M17B6 hw17 H8
          clear hSSb16
          have hSSb17 := And.intro ((H9.out.2.2.1).c0) (And.intro ((H9.out.2.2.1).c1) (And.intro ((H9.out.2.2.2.1).c0) ((H9.out.2.2.2.1).c1)))
          refine hK.out _ _ ?_ (fun hHeld => ?_)
          · assumption
          clear hK K
          refine wpAnyH_done (by kernel_rfl) (NoPanic.normal ?_) _
          clear hSSb17
          go_wp2_with fail
          go_meet
          exact ⟨_, _, s13, s14, p13, p14, c13, c14, D13, D14, rfl, rfl, H9.out.2.2.2.2.1, H9.out.2.2.2.2.2.2.2, H9.out.2.2.2.2.2.1, H9.out.2.2.2.2.2.2.1, by have := ZLx.out; omega, by have := ZLy.out; omega, BZ⟩
        · go_simp
          have LWB6 := BZ.size
          have LTB6X1 := lt_of_box (H4.out.2.2.1)
          have LTB6X2 := lt_of_box (H4.out.2.2.2.1)
          have LTB6B5 := lt_of_box (H4.out.2.2.2.2.2.2.1)
          have APxB6 := Lib.hid (apart_old (H4.out.2.2.2.2.2.2.2) (Nat.le_refl w13.heap.size))
          obtain ⟨w14, hw14⟩ : ∃ w14, w14 = w13.alloc (.cells #[.bool false, .slice none 0 0] 28) := ⟨_, rfl⟩
          rw [← hw14]
          have B14 : Below w13.heap.size w13 w14 := by rw [hw14]; exact (Below.refl _ _).alloc (Nat.le_refl _) _
          have BZ := BZ.trans (B14.mono BZ.size)
          have N14 : Box w14 w13.heap.size (.bool false) (.slice none 0 0) := by rw [hw14]; exact box_fresh 28 _ _ _ rfl
          have H5 := Lib.hid (And.intro (H4.out.1.below B14) (And.intro (H4.out.2.1.trans (B14.mono H4.out.2.1.size)) (And.intro (H4.out.2.2.1.below B14) (And.intro (H4.out.2.2.2.1.below B14) (And.intro (H4.out.2.2.2.2.1.below B14) (And.intro (H4.out.2.2.2.2.2.1.below B14) (And.intro (H4.out.2.2.2.2.2.2.1.below B14) (And.intro (H4.out.2.2.2.2.2.2.2.below B14) N14))))))))
          clear hw14 B14 N14 H4
          clear hSSrw13
          have hSSa14 := And.intro ((H5.out.2.2.1).c0) (And.intro ((H5.out.2.2.1).c1) (And.intro ((H5.out.2.2.2.1).c0) ((H5.out.2.2.2.1).c1)))
          refine hK.out _ _ ?_ (fun hHeld => ?_)
          · assumption
          clear hK K
          refine wpAnyH_ready (rs := [3]) (by kernel_rfl) (by simp) ?_
          refine AllReadyH.cons rfl (fun K hK => ?_) AllReadyH.nil
          go_simp
          go_wp2_with (have hx := H5; go_at_call 12; clear hx; refine (of_fresh (H5.out.2.2.2.2.2.1).toNm (by omega)).mono ?_; rintro e w15 ⟨s15, p15, c15, D15, rfl, n15, z15, f15, B15⟩; have ZLy := Lib.hid z15; have Q15B5 := lt_of_box (H5.out.2.2.2.2.2.2.1); have Q15B6 := lt_of_box (H5.out.2.2.2.2.2.2.2.2); have APyB5 := Lib.hid (apart_new (D := D15) f15 Q15B5); clear Q15B5; have APyB6 := Lib.hid (apart_new (D := D15) f15 Q15B6); clear Q15B6;  skip; have BZ := BZ.trans (B15.mono BZ.size); have H6 := Lib.hid (And.intro (H5.out.1.below B15) (And.intro (H5.out.2.1.trans (B15.mono H5.out.2.1.size)) (And.intro (H5.out.2.2.1.below B15) (And.intro (H5.out.2.2.2.1.below B15) (And.intro (H5.out.2.2.2.2.1.below B15) (And.intro (H5.out.2.2.2.2.2.1.below B15) (And.intro (H5.out.2.2.2.2.2.2.1.below B15) (And.intro (H5.out.2.2.2.2.2.2.2.1.below B15) (And.intro (H5.out.2.2.2.2.2.2.2.2.below B15) n15))))))))); clear n15 z15 f15 B15 H5; clear hSSa14; have hSSrw15 := And.intro ((H6.out.2.2.1).c0) (And.intro ((H6.out.2.2.1).c1) (And.intro ((H6.out.2.2.2.1).c0) ((H6.out.2.2.2.1).c1))))
          refine hK.out _ _ ?_ (fun hHeld => ?_)
          · assumption
          clear hK K
          refine wpAnyH_ready (rs := [6]) (by kernel_rfl) (by simp) ?_
          refine AllReadyH.cons rfl (fun K hK => ?_) AllReadyH.nil
          have H7 := Lib.hid (And.intro H6.out.1 (And.intro H6.out.2.1 (And.intro H6.out.2.2.1 (And.intro H6.out.2.2.2.1 (And.intro H6.out.2.2.2.2.2.2.1 (And.intro H6.out.2.2.2.2.2.2.2.1 (And.intro H6.out.2.2.2.2.2.2.2.2.1 H6.out.2.2.2.2.2.2.2.2.2)))))))
          have hf0 := (H7.out.2.2.2.2.1).f0
          have hf1 := (H7.out.2.2.2.2.1).f1
          have hc0 := (H7.out.2.2.2.2.1).c0
          have hc1 := (H7.out.2.2.2.2.1).c1
          go_simp
          clear hf0 hf1 hc0 hc1
          obtain ⟨w16, hw16⟩ : ∃ w16, w16 = (w15.setCell ⟨wd.heap.size, 0, none⟩ (.bool s13)).setCell ⟨wd.heap.size, 1, none⟩ (.slice p13 D13.length c13) := ⟨_, rfl⟩
          rw [← hw16]
          have M16z : Box w16 (w.heap.size) (.bool s1) (.slice p1 l1.length c1) := by rw [hw16]; exact (H7.out.1).far (by omega) _ _
          have M16b : Below w.heap.size w w16 := by rw [hw16]; exact box_kept (H7.out.2.1) (by omega) _ _
          have M16X1 : Box w16 (w.heap.size) (.bool s1) (.slice p1 l1.length c1) := by rw [hw16]; exact (H7.out.2.2.1).far (by omega) _ _
          have M16X2 : Box w16 (w.heap.size + 1) (.bool s2) (.slice p2 l2.length c2) := by rw [hw16]; exact (H7.out.2.2.2.1).far (by omega) _ _
          have M16B5 : Box w16 (wd.heap.size) (.bool s13) (.slice p13 D13.length c13) := by rw [hw16]; exact (H7.out.2.2.2.2.1).put _ _
          have M16x : Dn w16 s13 p13 c13 D13 x := by rw [hw16]; exact (H7.out.2.2.2.2.2.1).apart APxB5.out _ _
          have M16B6 : Box w16 (w13.heap.size) (.bool false) (.slice none 0 0) := by rw [hw16]; exact (H7.out.2.2.2.2.2.2.1).far (by omega) _ _
          have M16y : Dn w16 s15 p15 c15 D15 y := by rw [hw16]; exact (H7.out.2.2.2.2.2.2.2).apart APyB5.out _ _
          have BZ : Below W.heap.size W w16 := by rw [hw16]; exact box_kept BZ (by omega) _ _
          have H8 := Lib.hid (And.intro M16z (And.intro M16b (And.intro M16X1 (And.intro M16X2 (And.intro M16B5 (And.intro M16x (And.intro M16B6 M16y)))))))
          clear M16z M16b M16X1 M16X2 M16B5 M16x M16B6 M16y hw16 H7
          clear hSSrw15
          have hSSb16 := And.intro ((H8.out.2.2.1).c0) (And.intro ((H8.out.2.2.1).c1) (And.intro ((H8.out.2.2.2.1).c0) ((H8.out.2.2.2.1).c1)))
          refine hK.out _ _ ?_ (fun hHeld => ?_)
          · assumption
          clear hK K
          refine wpAnyH_ready (rs := [7]) (by kernel_rfl) (by simp) ?_
          refine AllReadyH.cons rfl (fun K hK => ?_) AllReadyH.nil
          have hf0 := (H8.out.2.2.2.2.2.2.1).f0
          have hf1 := (H8.out.2.2.2.2.2.2.1).f1
          have hc0 := (H8.out.2.2.2.2.2.2.1).c0
          have hc1 := (H8.out.2.2.2.2.2.2.1).c1
          go_simp
          clear hf0 hf1 hc0 hc1
          obtain ⟨w17, hw17⟩ : ∃ w17, w17 = (w16.setCell ⟨w13.heap.size, 0, none⟩ (.bool s15)).setCell ⟨w13.heap.size, 1, none⟩ (.slice p15 D15.length c15) := ⟨_, rfl⟩
          rw [← hw17]
          have M17z : Box w17 (w.heap.size) (.bool s1) (.slice p1 l1.length c1) := by rw [hw17]; exact (H8.out.1).far (by omega) _ _
          have M17b : Below w.heap.size w w17 := by rw [hw17]; exact box_kept (H8.out.2.1) (by omega) _ _
          have M17X1 : Box w17 (w.heap.size) (.bool s1) (.slice p1 l1.length c1) := by rw [hw17]; exact (H8.out.2.2.1).far (by omega) _ _
          have M17X2 : Box w17 (w.heap.size + 1) (.bool s2) (.slice p2 l2.length c2) := by rw [hw17]; exact (H8.out.2.2.2.1).far (by omega) _ _
          have M17B5 : Box w17 (wd.heap.size) (.bool s13) (.slice p13 D13.length c13) := by rw [hw17]; exact (H8.out.2.2.2.2.1).far (by omega) _ _
          have M17x : Dn w17 s13 p13 c13 D13 x := by rw [hw17]; exact (H8.out.2.2.2.2.2.1).apart APxB6.out _ _
          have M17B6 : Box w17 (w13.heap.size) (.bool s15) (.slice p15 D15.length c15) := by rw [hw17]; exact (H8.out.2.2.2.2.2.2.1).put _ _
          have M17y : Dn w17 s15 p15 c15 D15 y := by rw [hw17]; exact (H8.out.2.2.2.2.2.2.2).apart APyB6.out _ _
          have BZ : Below W.heap.size W w17 := by rw [hw17]; exact box_kept BZ (by omega) _ _
          have H9 := Lib.hid (And.intro M17z (And.intro M17b (And.intro M17X1 (And.intro M17X2 (And.intro M17B5 (And.intro M17x (And.intro M17B6 M17y)))))))
          clear M17z M17b M17X1 M17X2 M17B5 M17x M17B6 M17y hw17 H8
          clear hSSb16
          have hSSb17 := And.intro ((H9.out.2.2.1).c0) (And.intro ((H9.out.2.2.1).c1) (And.intro ((H9.out.2.2.2.1).c0) ((H9.out.2.2.2.1).c1)))
          refine hK.out _ _ ?_ (fun hHeld => ?_)
          · assumption
          clear hK K
          refine wpAnyH_done (by kernel_rfl) (NoPanic.normal ?_) _
          clear hSSb17
          go_wp2_with fail
          go_meet
          exact ⟨_, _, s13, s15, p13, p15, c13, c15, D13, D15, rfl, rfl, H9.out.2.2.2.2.1, H9.out.2.2.2.2.2.2.1, H9.out.2.2.2.2.2.1, H9.out.2.2.2.2.2.2.2, by have := ZLx.out; omega, by have := ZLy.out; omega, BZ⟩
      · go_simp
        have LWB6 := BZ.size
        have LTB6X1 := lt_of_box (H3.out.2.2.1)
        have LTB6X2 := lt_of_box (H3.out.2.2.2.1)
        have LTB6B5 := lt_of_box (H3.out.2.2.2.2.2.2)
        obtain ⟨w13, hw13⟩ : ∃ w13, w13 = w12.alloc (.cells #[.bool false, .slice none 0 0] 28) := ⟨_, rfl⟩
        rw [← hw13]
        have B13 : Below w12.heap.size w12 w13 := by rw [hw13]; exact (Below.refl _ _).alloc (Nat.le_refl _) _
        have BZ := BZ.trans (B13.mono BZ.size)
        have N13 : Box w13 w12.heap.size (.bool false) (.slice none 0 0) := by rw [hw13]; exact box_fresh 28 _ _ _ rfl
        have H4 := Lib.hid (And.intro (H3.out.1.below B13) (And.intro (H3.out.2.1.trans (B13.mono H3.out.2.1.size)) (And.intro (H3.out.2.2.1.below B13) (And.intro (H3.out.2.2.2.1.below B13) (And.intro (H3.out.2.2.2.2.1.below B13) (And.intro (H3.out.2.2.2.2.2.1.below B13) (And.intro (H3.out.2.2.2.2.2.2.below B13) N13)))))))
        clear hw13 B13 N13 H3
        clear hSSa12
        have hSSa13 := And.intro ((H4.out.2.2.1).c0) (And.intro ((H4.out.2.2.1).c1) (And.intro ((H4.out.2.2.2.1).c0) ((H4.out.2.2.2.1).c1)))
        refine hK.out _ _ ?_ (fun hHeld => ?_)
        · assumption
        clear hK K
        refine wpAnyH_ready (rs := [1]) (by kernel_rfl) (by simp) ?_
        refine AllReadyH.cons rfl (fun K hK => ?_) AllReadyH.nil
        go_simp
        go_wp2_with (have hx := H4; go_at_call 12; clear hx; refine (of_fresh (H4.out.2.2.2.2.1).toNm (by omega)).mono ?_; rintro e w14 ⟨s14, p14, c14, D14, rfl, n14, z14, f14, B14⟩; have ZLx := Lib.hid z14; have Q14B5 := lt_of_box (H4.out.2.2.2.2.2.2.1); have Q14B6 := lt_of_box (H4.out.2.2.2.2.2.2.2); have APxB5 := Lib.hid (apart_new (D := D14) f14 Q14B5); clear Q14B5; have APxB6 := Lib.hid (apart_new (D := D14) f14 Q14B6); clear Q14B6;  skip; have BZ := BZ.trans (B14.mono BZ.size); have H5 := Lib.hid (And.intro (H4.out.1.below B14) (And.intro (H4.out.2.1.trans (B14.mono H4.out.2.1.size)) (And.intro (H4.out.2.2.1.below B14) (And.intro (H4.out.2.2.2.1.below B14) (And.intro (H4.out.2.2.2.2.1.below B14) (And.intro (H4.out.2.2.2.2.2.1.below B14) (And.intro (H4.out.2.2.2.2.2.2.1.below B14) (And.intro (H4.out.2.2.2.2.2.2.2.below B14) n14)))))))); clear n14 z14 f14 B14 H4; clear hSSa13; have hSSrw14 := And.intro ((H5.out.2.2.1).c0) (And.intro ((H5.out.2.2.1).c1) (And.intro ((H5.out.2.2.2.1).c0) ((H5.out.2.2.2.1).c1))))
        refine hK.out _ _ ?_ (fun hHeld => ?_)
        · assumption
        clear hK K
        refine wpAnyH_ready (rs := [3]) (by kernel_rfl) (by simp) ?_
        refine AllReadyH.cons rfl (fun K hK => ?_) AllReadyH.nil
        go_simp
        go_wp2_with (have hx := H5; go_at_call 12; clear hx; refine (of_fresh (H5.out.2.2.2.2.2.1).toNm (by omega)).mono ?_; rintro e w15 ⟨s15, p15, c15, D15, rfl, n15, z15, f15, B15⟩; have ZLy := Lib.hid z15; have Q15B5 := lt_of_box (H5.out.2.2.2.2.2.2.1); have Q15B6 := lt_of_box (H5.out.2.2.2.2.2.2.2.1); have APyB5 := Lib.hid (apart_new (D := D15) f15 Q15B5); clear Q15B5; have APyB6 := Lib.hid (apart_new (D := D15) f15 Q15B6); clear Q15B6;  skip; have BZ := BZ.trans (B15.mono BZ.size); have H6 := Lib.hid (And.intro (H5.out.1.below B15) (And.intro (H5.out.2.1.trans (B15.mono H5.out.2.1.size)) (And.intro (H5.out.2.2.1.below B15) (And.intro (H5.out.2.2.2.1.below B15) (And.intro (H5.out.2.2.2.2.1.below B15) (And.intro (H5.out.2.2.2.2.2.1.below B15) (And.intro (H5.out.2.2.2.2.2.2.1.below B15) (And.intro (H5.out.2.2.2.2.2.2.2.1.below B15) (And.intro (H5.out.2.2.2.2.2.2.2.2.below B15) n15))))))))); clear n15 z15 f15 B15 H5; clear hSSrw14; have hSSrw15 := And.intro ((H6.out.2.2.1).c0) (And.intro ((H6.out.2.2.1).c1) (And.intro ((H6.out.2.2.2.1).c0) ((H6.out.2.2.2.1).c1))))
        refine hK.out _ _ ?_ (fun hHeld => ?_)
        · assumption
        clear hK K
        refine wpAnyH_ready (rs := [6]) (by kernel_rfl) (by simp) ?_
        refine AllReadyH.cons rfl (fun K hK => ?_) AllReadyH.nil
        have H7 := Lib.hid (And.intro H6.out.1 (And.intro H6.out.2.1 (And.intro H6.out.2.2.1 (And.intro H6.out.2.2.2.1 (And.intro H6.out.2.2.2.2.2.2.1 (And.intro H6.out.2.2.2.2.2.2.2.1 (And.intro H6.out.2.2.2.2.2.2.2.2.1 H6.out.2.2.2.2.2.2.2.2.2)))))))
        have hf0 := (H7.out.2.2.2.2.1).f0
        have hf1 := (H7.out.2.2.2.2.1).f1
        have hc0 := (H7.out.2.2.2.2.1).c0
        have hc1 := (H7.out.2.2.2.2.1).c1
        go_simp
        clear hf0 hf1 hc0 hc1
        obtain ⟨w16, hw16⟩ : ∃ w16, w16 = (w15.setCell ⟨wd.heap.size, 0, none⟩ (.bool s14)).setCell ⟨wd.heap.size, 1, none⟩ (.slice p14 D14.length c14) := ⟨_, rfl⟩
        rw [← hw16]
        have M16z : Box w16 (w.heap.size) (.bool s1) (.slice p1 l1.length c1) := by rw [hw16]; exact (H7.out.1).far (by omega) _ _
        have M16b : Below w.heap.size w w16 := by rw [hw16]; exact box_kept (H7.out.2.1) (by omega) _ _
        have M16X1 : Box w16 (w.heap.size) (.bool s1) (.slice p1 l1.length c1) := by rw [hw16]; exact (H7.out.2.2.1).far (by omega) _ _
        have M16X2 : Box w16 (w.heap.size + 1) (.bool s2) (.slice p2 l2.length c2) := by rw [hw16]; exact (H7.out.2.2.2.1).far (by omega) _ _
        have M16B5 : Box w16 (wd.heap.size) (.bool s14) (.slice p14 D14.length c14) := by rw [hw16]; exact (H7.out.2.2.2.2.1).put _ _
        have M16B6 : Box w16 (w12.heap.size) (.bool false) (.slice none 0 0) := by rw [hw16]; exact (H7.out.2.2.2.2.2.1).far (by omega) _ _
        have M16x : Dn w16 s14 p14 c14 D14 x := by rw [hw16]; exact (H7.out.2.2.2.2.2.2.1).apart APxB5.out _ _
        have M16y : Dn w16 s15 p15 c15 D15 y := by rw [hw16]; exact (H7.out.2.2.2.2.2.2.2).apart APyB5.out _ _
        have BZ : Below W.heap.size W w16 := by rw [hw16]; exact box_kept BZ (by omega) _ _
        have H8 := Lib.hid (And.intro M16z (And.intro M16b (And.intro M16X1 (And.intro M16X2 (And.intro M16B5 (And.intro M16B6 (And.intro M16x M16y)))))))
        clear M16z M16b M16X1 M16X2 M16B5 M16B6 M16x M16y hw16 H7
        clear hSSrw15
        have hSSb16 := And.intro ((H8.out.2.2.1).c0) (And.intro ((H8.out.2.2.1).c1) (And.intro ((H8.out.2.2.2.1).c0) ((H8.out.2.2.2.1).c1)))
        refine hK.out _ _ ?_ (fun hHeld => ?_)
        · assumption
        clear hK K
        refine wpAnyH_ready (rs := [7]) (by kernel_rfl) (by simp) ?_
        refine AllReadyH.cons rfl (fun K hK => ?_) AllReadyH.nil
        have hf0 := (H8.out.2.2.2.2.2.1).f0
        have hf1 := (H8.out.2.2.2.2.2.1).f1
        have hc0 := (H8.out.2.2.2.2.2.1).c0
        have hc1 := (H8.out.2.2.2.2.2.1).c1
        go_simp
        clear hf0 hf1 hc0 hc1
        obtain ⟨w17, hw17⟩ : ∃ w17, w17 = (w16.setCell ⟨w12.heap.size, 0, none⟩ (.bool s15)).setCell ⟨w12.heap.size, 1, none⟩ (.slice p15 D15.length c15) := ⟨_, rfl⟩
        rw [← hw17]
        have M17z : Box w17 (w.heap.size) (.bool s1) (.slice p1 l1.length c1) := by rw [hw17]; exact (H8.out.1).far (by omega) _ _
        have M17b : Below w.heap.size w w17 := by rw [hw17]; exact box_kept (H8.out.2.1) (by omega) _ _
        have M17X1 : Box w17 (w.heap.size) (.bool s1) (.slice p1 l1.length c1) := by rw [hw17]; exact (H8.out.2.2.1).far (by omega) _ _
        have M17X2 : Box w17 (w.heap.size + 1) (.bool s2) (.slice p2 l2.length c2) := by rw [hw17]; exact (H8.out.2.2.2.1).far (by omega) _ _
        have M17B5 : Box w17 (wd.heap.size) (.bool s14) (.slice p14 D14.length c14) := by rw [hw17]; exact (H8.out.2.2.2.2.1).far (by omega) _ _
        have M17B6 : Box w17 (w12.heap.size) (.bool s15) (.slice p15 D15.length c15) := by rw [hw17]; exact (H8.out.2.2.2.2.2.1).put _ _
        have M17x : Dn w17 s14 p14 c14 D14 x := by rw [hw17]; exact (H8.out.2.2.2.2.2.2.1).apart APxB6.out _ _
        have M17y : Dn w17 s15 p15 c15 D15 y := by rw [hw17]; exact (H8.out.2.2.2.2.2.2.2).apart APyB6.out _ _
        have BZ : Below W.heap.size W w17 := by rw [hw17]; exact box_kept BZ (by omega) _ _
        have H9 := Lib.hid (And.intro M17z (And.intro M17b (And.intro M17X1 (And.intro M17X2 (And.intro M17B5 (And.intro M17B6 (And.intro M17x M17y)))))))
        clear M17z M17b M17X1 M17X2 M17B5 M17B6 M17x M17y hw17 H8
        clear hSSb16
        have hSSb17 := And.intro ((H9.out.2.2.1).c0) (And.intro ((H9.out.2.2.1).c1) (And.intro ((H9.out.2.2.2.1).c0) ((H9.out.2.2.2.1).c1)))
        refine hK.out _ _ ?_ (fun hHeld => ?_)
        · assumption
        clear hK K
        refine wpAnyH_done (by kernel_rfl) (NoPanic.normal ?_) _
        clear hSSb17
        go_wp2_with fail
        go_meet
        exact ⟨_, _, s14, s15, p14, p15, c14, c15, D14, D15, rfl, rfl, H9.out.2.2.2.2.1, H9.out.2.2.2.2.2.1, H9.out.2.2.2.2.2.2.1, H9.out.2.2.2.2.2.2.2, by have := ZLx.out; omega, by have := ZLy.out; omega, BZ⟩
    · go_simp
      have LWB6 := BZ.size
      have LTB6X1 := lt_of_box (H2.out.2.2.1)
      have LTB6X2 := lt_of_box (H2.out.2.2.2.1)
      obtain ⟨w12, hw12⟩ : ∃ w12, w12 = wd.alloc (.cells #[.bool false, .slice none 0 0] 28) := ⟨_, rfl⟩
      rw [← hw12]
      have B12 : Below wd.heap.size wd w12 := by rw [hw12]; exact (Below.refl _ _).alloc (Nat.le_refl _) _
      have BZ := BZ.trans (B12.mono BZ.size)
      have N12 : Box w12 wd.heap.size (.bool false) (.slice none 0 0) := by rw [hw12]; exact box_fresh 28 _ _ _ rfl
      have H3 := Lib.hid (And.intro (H2.out.1.below B12) (And.intro (H2.out.2.1.trans (B12.mono H2.out.2.1.size)) (And.intro (H2.out.2.2.1.below B12) (And.intro (H2.out.2.2.2.1.below B12) (And.intro (H2.out.2.2.2.2.1.below B12) (And.intro (H2.out.2.2.2.2.2.below B12) N12))))))
      clear hw12 B12 N12 H2
      clear hSS
      have hSSa12 := And.intro ((H3.out.2.2.1).c0) (And.intro ((H3.out.2.2.1).c1) (And.intro ((H3.out.2.2.2.1).c0) ((H3.out.2.2.2.1).c1)))
      refine hK.out _ _ ?_ (fun hHeld => ?_)
      · assumption
      clear hK K
      refine wpAnyH_ready (rs := [1, 4]) (by kernel_rfl) (by simp) ?_
      refine AllReadyH.cons rfl (fun K hK => ?_) (AllReadyH.cons rfl (fun K hK => ?_) AllReadyH.nil)
      · go_simp
        go_wp2_with (have hx := H3; go_at_call 12; clear hx; refine (of_fresh (H3.out.2.2.2.2.1).toNm (by omega)).mono ?_; rintro e w13 ⟨s13, p13, c13, D13, rfl, n13, z13, f13, B13⟩; have ZLx := Lib.hid z13; have Q13B6 := lt_of_box (H3.out.2.2.2.2.2.2); have APxB6 := Lib.hid (apart_new (D := D13) f13 Q13B6); clear Q13B6;  skip; have BZ := BZ.trans (B13.mono BZ.size); have H4 := Lib.hid (And.intro (H3.out.1.below B13) (And.intro (H3.out.2.1.trans (B13.mono H3.out.2.1.size)) (And.intro (H3.out.2.2.1.below B13) (And.intro (H3.out.2.2.2.1.below B13) (And.intro (H3.out.2.2.2.2.1.below B13) (And.intro (H3.out.2.2.2.2.2.1.below B13) (And.intro (H3.out.2.2.2.2.2.2.below B13) n13))))))); clear n13 z13 f13 B13 H3; clear hSSa12; have hSSrw13 := And.intro ((H4.out.2.2.1).c0) (And.intro ((H4.out.2.2.1).c1) (And.intro ((H4.out.2.2.2.1).c0) ((H4.out.2.2.2.1).c1))))
        refine hK.out _ _ ?_ (fun hHeld => ?_)
        · assumption
        clear hK K
        refine wpAnyH_ready (rs := [3, 4]) (by kernel_rfl) (by simp) ?_
        refine AllReadyH.cons rfl (fun K hK => ?_) (AllReadyH.cons rfl (fun K hK => ?_) AllReadyH.nil)
        · go_simp
          go_wp2_with (have hx := H4; go_at_call 12; clear hx; refine (of_fresh (H4.out.2.2.2.2.2.1).toNm (by omega)).mono ?_; rintro e w14 ⟨s14, p14, c14, D14, rfl, n14, z14, f14, B14⟩; have ZLy := Lib.hid z14; have Q14B6 := lt_of_box (H4.out.2.2.2.2.2.2.1); have APyB6 := Lib.hid (apart_new (D := D14) f14 Q14B6); clear Q14B6;  skip; have BZ := BZ.trans (B14.mono BZ.size); have H5 := Lib.hid (And.intro (H4.out.1.below B14) (And.intro (H4.out.2.1.trans (B14.mono H4.out.2.1.size)) (And.intro (H4.out.2.2.1.below B14) (And.intro (H4.out.2.2.2.1.below B14) (And.intro (H4.out.2.2.2.2.1.below B14) (And.intro (H4.out.2.2.2.2.2.1.below B14) (And.intro (H4.out.2.2.2.2.2.2.1.below B14) (And.intro (H4.out.2.2.2.2.2.2.2.below B14) n14)))))))); clear n14 z14 f14 B14 H4; clear hSSrw13; have hSSrw14 := And.intro ((H5.out.2.2.1).c0) (And.intro ((H5.out.2.2.1).c1) (And.intro ((H5.out.2.2.2.1).c0) ((H5.out.2.2.2.1).c1))))
          refine hK.out _ _ ?_ (fun hHeld => ?_)
          · assumption
          clear hK K
          refine wpAnyH_ready (rs := [4]) (by kernel_rfl) (by simp) ?_
          refine AllReadyH.cons rfl (fun K hK => ?_) AllReadyH.nil
          go_simp
          have LWB5 := BZ.size
          have LTB5X1 := lt_of_box (H5.out.2.2.1)
          have LTB5X2 := lt_of_box (H5.out.2.2.2.1)
          have LTB5B6 := lt_of_box (H5.out.2.2.2.2.2.2.1)
          have APxB5 := Lib.hid (apart_old (H5.out.2.2.2.2.2.2.2.1) (Nat.le_refl w14.heap.size))
          have APyB5 := Lib.hid (apart_old (H5.out.2.2.2.2.2.2.2.2) (Nat.le_refl w14.heap.size))
          obtain ⟨w15, hw15⟩ : ∃ w15, w15 = w14.alloc (.cells #[.bool false, .slice none 0 0] 28) := ⟨_, rfl⟩
          rw [← hw15]
          have B15 : Below w14.heap.size w14 w15 := by rw [hw15]; exact (Below.refl _ _).alloc (Nat.le_refl _) _
          have BZ := BZ.trans (B15.mono BZ.size)
          have N15 : Box w15 w14.heap.size (.bool false) (.slice none 0 0) := by rw [hw15]; exact box_fresh 28 _ _ _ rfl
          have H6 := Lib.hid (And.intro (H5.out.1.below B15) (And.intro (H5.out.2.1.trans (B15.mono H5.out.2.1.size)) (And.intro (H5.out.2.2.1.below B15) (And.intro (H5.out.2.2.2.1.below B15) (And.intro (H5.out.2.2.2.2.1.below B15) (And.intro (H5.out.2.2.2.2.2.1.below B15) (And.intro (H5.out.2.2.2.2.2.2.1.below B15) (And.intro (H5.out.2.2.2.2.2.2.2.1.below B15) (And.intro (H5.out.2.2.2.2.2.2.2.2.below B15) N15)))))))))
          clear hw15 B15 N15 H5
          clear hSSrw14
          have hSSa15 := And.intro ((H6.out.2.2.1).c0) (And.intro ((H6.out.2.2.1).c1) (And.intro ((H6.out.2.2.2.1).c0) ((H6.out.2.2.2.1).c1)))
          refine hK.out _ _ ?_ (fun hHeld => ?_)
          · assumption
          clear hK K
          refine wpAnyH_ready (rs := [6]) (by kernel_rfl) (by simp) ?_
          refine AllReadyH.cons rfl (fun K hK => ?_) AllReadyH.nil
          have H7 := Lib.hid (And.intro H6.out.1 (And.intro H6.out.2.1 (And.intro H6.out.2.2.1 (And.intro H6.out.2.2.2.1 (And.intro H6.out.2.2.2.2.2.2.1 (And.intro H6.out.2.2.2.2.2.2.2.1 (And.intro H6.out.2.2.2.2.2.2.2.2.1 H6.out.2.2.2.2.2.2.2.2.2)))))))
          have hf0 := (H7.out.2.2.2.2.2.2.2).f0
          have hf1 := (H7.out.2.2.2.2.2.2.2).f1
          have hc0 := (H7.out.2.2.2.2.2.2.2).c0
          have hc1 := (H7.out.2.2.2.2.2.2.2).c1
          go_simp
          clear hf0 hf1 hc0 hc1
          obtain ⟨w16, hw16⟩ : ∃ w16, w16 = (w15.setCell ⟨w14.heap.size, 0, none⟩ (.bool s13)).setCell ⟨w14.heap.size, 1, none⟩ (.slice p13 D13.length c13) := ⟨_, rfl⟩
          rw [← hw16]
          have M16z : Box w16 (w.heap.size) (.bool s1) (.slice p1 l1.length c1) := by rw [hw16]; exact (H7.out.1).far (by omega) _ _
          have M16b : Below w.heap.size w w16 := by rw [hw16]; exact box_kept (H7.out.2.1) (by omega) _ _
          have M16X1 : Box w16 (w.heap.size) (.bool s1) (.slice p1 l1.length c1) := by rw [hw16]; exact (H7.out.2.2.1).far (by omega) _ _
          have M16X2 : Box w16 (w.heap.size + 1) (.bool s2) (.slice p2 l2.length c2) := by rw [hw16]; exact (H7.out.2.2.2.1).far (by omega) _ _
          have M16B6 : Box w16 (wd.heap.size) (.bool false) (.slice none 0 0) := by rw [hw16]; exact (H7.out.2.2.2.2.1).far (by omega) _ _
          have M16x : Dn w16 s13 p13 c13 D13 x := by rw [hw16]; exact (H7.out.2.2.2.2.2.1).apart APxB5.out _ _
          have M16y : Dn w16 s14 p14 c14 D14 y := by rw [hw16]; exact (H7.out.2.2.2.2.2.2.1).apart APyB5.out _ _
          have M16B5 : Box w16 (w14.heap.size) (.bool s13) (.slice p13 D13.length c13) := by rw [hw16]; exact (H7.out.2.2.2.2.2.2.2).put _ _
          have BZ : Below W.heap.size W w16 := by rw [hw16]; exact box_kept BZ (by omega) _ _
          have H8 := Lib.hid (And.intro M16z (And.intro M16b (And.intro M16X1 (And.intro M16X2 (And.intro M16B6 (And.intro M16x (And.intro M16y M16B5)))))))
          clear M16z M16b M16X1 M16X2 M16B6 M16x M16y M16B5 hw16 H7
          clear hSSa15
          have hSSb16 := And.intro ((H8.out.2.2.1).c0) (And.intro ((H8.out.2.2.1).c1) (And.intro ((H8.out.2.2.2.1).c0) ((H8.out.2.2.2.1).c1)))
          refine hK.out _ _ ?_ (fun hHeld => ?_)
          · assumption
          clear hK K
          refine wpAnyH_ready (rs := [7]) (by kernel_rfl) (by simp) ?_
          refine AllReadyH.cons rfl (fun K hK => ?_) AllReadyH.nil
          have hf0 := (H8.out.2.2.2.2.1).f0
          have hf1 := (H8.out.2.2.2.2.1).f1
          have hc0 := (H8.out.2.2.2.2.1).c0
          have hc1 := (H8.out.2.2.2.2.1).c1
          go_simp
          clear hf0 hf1 hc0 hc1
          obtain ⟨w17, hw17⟩ : ∃ w17, w17 = (w16.setCell ⟨wd.heap.size, 0, none⟩ (.bool s14)).setCell ⟨wd.heap.size, 1, none⟩ (.slice p14 D14.length c14) := ⟨_, rfl⟩
          rw [← hw17]
          have M17z : Box w17 (w.heap.size) (.bool s1) (.slice p1 l1.length c1) := by rw [hw17]; exact (H8.out.1).far (by omega) _ _
          have M17b : Below w.heap.size w w17 := by rw [hw17]; exact box_kept (H8.out.2.1) (by omega) _ _
          have M17X1 : Box w17 (w.heap.size) (.bool s1) (.slice p1 l1.length c1) := by rw [hw17]; exact (H8.out.2.2.1).far (by omega) _ _
          have M17X2 : Box w17 (w.heap.size + 1) (.bool s2) (.slice p2 l2.length c2) := by rw [hw17]; exact (H8.out.2.2.2.1).far (by omega) _ _
          have M17B6 : Box w17 (wd.heap.size) (.bool s14) (.slice p14 D14.length c14) := by rw [hw17]; exact (H8.out.2.2.2.2.1).put _ _
          have M17x : Dn w17 s13 p13 c13 D13 x := by rw [hw17]; exact (H8.out.2.2.2.2.2.1).apart APxB6.out _ _
          have M17y : Dn w17 s14 p14 c14 D14 y := by rw [hw17]; exact (H8.out.2.2.2.2.2.2.1).apart APyB6.out _ _
          have M17B5 : Box w17 (w14.heap.size) (.bool s13) (.slice p13 D13.length c13) := by rw [hw17]; exact (H8.out.2.2.2.2.2.2.2).far (by omega) _ _
          have BZ : Below W.heap.size W w17 := by rw [hw17]; exact box_kept BZ (by omega) _ _
          have H9 := Lib.hid (And.intro M17z (And.intro M17b (And.intro M17X1 (And.intro M17X2 (And.intro M17B6 (And.intro M17x (And.intro M17y M17B5)))))))
          clear M17z M17b M17X1 M17X2 M17B6 M17x M17y M17B5 hw17 H8
          clear hSSb16
          have hSSb17 := And.intro ((H9.out.2.2.1).c0) (And.intro ((H9.out.2.2.1).c1) (And.intro ((H9.out.2.2.2.1).c0) ((H9.out.2.2.2.1).c1)))
          refine hK.out _ _ ?_ (fun hHeld => ?_)
          · assumption
          clear hK K
          refine wpAnyH_done (by kernel_rfl) (NoPanic.normal ?_) _
          clear hSSb17
          go_wp2_with fail
          go_meet
          exact ⟨_, _, s13, s14, p13, p14, c13, c14, D13, D14, rfl, rfl, H9.out.2.2.2.2.2.2.2, H9.out.2.2.2.2.1, H9.out.2.2.2.2.2.1, H9.out.2.2.2.2.2.2.1, by have := ZLx.out; omega, by have := ZLy.out; omega, BZ⟩
        · go_simp
          have LWB5 := BZ.size
          have LTB5X1 := lt_of_box (H4.out.2.2.1)
          have LTB5X2 := lt_of_box (H4.out.2.2.2.1)
          have LTB5B6 := lt_of_box (H4.out.2.2.2.2.2.2.1)
          have APxB5 := Lib.hid (apart_old (H4.out.2.2.2.2.2.2.2) (Nat.le_refl w13.heap.size))
          obtain ⟨w14, hw14⟩ : ∃ w14, w14 = w13.alloc (.cells #[.bool false, .slice none 0 0] 28) := ⟨_, rfl⟩
          rw [← hw14]
          have B14 : Below w13.heap.size w13 w14 := by rw [hw14]; exact (Below.refl _ _).alloc (Nat.le_refl _) _
          have BZ := BZ.trans (B14.mono BZ.size)
          have N14 : Box w14 w13.heap.size (.bool false) (.slice none 0 0) := by rw [hw14]; exact box_fresh 28 _ _ _ rfl
          have H5 := Lib.hid (And.intro (H4.out.1.below B14) (And.intro (H4.out.2.1.trans (B14.mono H4.out.2.1.size)) (And.intro (H4.out.2.2.1.below B14) (And.intro (H4.out.2.2.2.1.below B14) (And.intro (H4.out.2.2.2.2.1.below B14) (And.intro (H4.out.2.2.2.2.2.1.below B14) (And.intro (H4.out.2.2.2.2.2.2.1.below B14) (And.intro (H4.out.2.2.2.2.2.2.2.below B14) N14))))))))
          clear hw14 B14 N14 H4
          clear hSSrw13
          have hSSa14 := And.intro ((H5.out.2.2.1).c0) (And.intro ((H5.out.2.2.1).c1) (And.intro ((H5.out.2.2.2.1).c0) ((H5.out.2.2.2.1).c1)))
          refine hK.out _ _ ?_ (fun hHeld => ?_)
          · assumption
          clear hK K
          refine wpAnyH_ready (rs := [3]) (by kernel_rfl) (by simp) ?_
          refine AllReadyH.cons rfl (fun K hK => ?_) AllReadyH.nil
          go_simp
          go_wp2_with (have hx := H5; go_at_call 12; clear hx; refine (of_fresh (H5.out.2.2.2.2.2.1).toNm (by omega)).mono ?_; rintro e w15 ⟨s15, p15, c15, D15, rfl, n15, z15, f15, B15⟩; have ZLy := Lib.hid z15; have Q15B5 := lt_of_box (H5.out.2.2.2.2.2.2.2.2); have Q15B6 := lt_of_box (H5.out.2.2.2.2.2.2.1); have APyB5 := Lib.hid (apart_new (D := D15) f15 Q15B5); clear Q15B5; have APyB6 := Lib.hid (apart_new (D := D15) f15 Q15B6); clear Q15B6;  skip; have BZ := BZ.trans (B15.mono BZ.size); have H6 := Lib.hid (And.intro (H5.out.1.below B15) (And.intro (H5.out.2.1.trans (B15.mono H5.out.2.1.size)) (And.intro (H5.out.2.2.1.below B15) (And.intro (H5.out.2.2.2.1.below B15) (And.intro (H5.out.2.2.2.2.1.below B15) (And.intro (H5.out.2.2.2.2.2.1.below B15) (And.intro (H5.out.2.2.2.2.2.2.1.below B15) (And.intro (H5.out.2.2.2.2.2.2.2.1.below B15) (And.intro (H5.out.2.2.2.2.2.2.2.2.below B15) n15))))))))); clear n15 z15 f15 B15 H5; clear hSSa14; have hSSrw15 := And.intro ((H6.out.2.2.1).c0) (And.intro ((H6.out.2.2.1).c1) (And.intro ((H6.out.2.2.2.1).c0) ((H6.out.2.2.2.1).c1))))
          refine hK.out _ _ ?_ (fun hHeld => ?_)
          · assumption
          clear hK K
          refine wpAnyH_ready (rs := [6]) (by kernel_rfl) (by simp) ?_
          refine AllReadyH.cons rfl (fun K hK => ?_) AllReadyH.nil
          have H7 := Lib.hid (And.intro H6.out.1 (And.intro H6.out.2.1 (And.intro H6.out.2.2.1 (And.intro H6.out.2.2.2.1 (And.intro H6.out.2.2.2.2.2.2.1 (And.intro H6.out.2.2.2.2.2.2.2.1 (And.intro H6.out.2.2.2.2.2.2.2.2.1 H6.out.2.2.2.2.2.2.2.2.2)))))))
          have hf0 := (H7.out.2.2.2.2.2.2.1).f0
          have hf1 := (H7.out.2.2.2.2.2.2.1).f1
          have hc0 := (H7.out.2.2.2.2.2.2.1).c0
          have hc1 := (H7.out.2.2.2.2.2.2.1).c1
          go_simp
          clear hf0 hf1 hc0 hc1
          obtain ⟨w16, hw16⟩ : ∃ w16, w16 = (w15.setCell ⟨w13.heap.size, 0, none⟩ (.bool s13)).setCell ⟨w13.heap.size, 1, none⟩ (.slice p13 D13.length c13) := ⟨_, rfl⟩
          rw [← hw16]
          have M16z : Box w16 (w.heap.size) (.bool s1) (.slice p1 l1.length c1) := by rw [hw16]; exact (H7.out.1).far (by omega) _ _
          have M16b : Below w.heap.size w w16 := by rw [hw16]; exact box_kept (H7.out.2.1) (by omega) _ _
          have M16X1 : Box w16 (w.heap.size) (.bool s1) (.slice p1 l1.length c1) := by rw [hw16]; exact (H7.out.2.2.1).far (by omega) _ _
          have M16X2 : Box w16 (w.heap.size + 1) (.bool s2) (.slice p2 l2.length c2) := by rw [hw16]; exact (H7.out.2.2.2.1).far (by omega) _ _
          have M16B6 : Box w16 (wd.heap.size) (.bool false) (.slice none 0 0) := by rw [hw16]; exact (H7.out.2.2.2.2.1).far (by omega) _ _
          have M16x : Dn w16 s13 p13 c13 D13 x := by rw [hw16]; exact (H7.out.2.2.2.2.2.1).apart APxB5.out _ _
          have M16B5 : Box w16 (w13.heap.size) (.bool s13) (.slice p13 D13.length c13) := by rw [hw16]; exact (H7.out.2.2.2.2.2.2.1).put _ _
          have M16y : Dn w16 s15 p15 c15 D15 y := by rw [hw16]; exact (H7.out.2.2.2.2.2.2.2).apart APyB5.out _ _
          have BZ : Below W.heap.size W w16 := by rw [hw16]; exact box_kept BZ (by omega) _ _
          have H8 := Lib.hid (And.intro M16z (And.intro M16b (And.intro M16X1 (And.intro M16X2 (And.intro M16B6 (And.intro M16x (And.intro M16B5 M16y)))))))
          clear M16z M16b M16X1 M16X2 M16B6 M16x M16B5 M16y hw16 H7
          clear hSSrw15
          have hSSb16 := And.intro ((H8.out.2.2.1).c0) (And.intro ((H8.out.2.2.1).c1) (And.intro ((H8.out.2.2.2.1).c0) ((H8.out.2.2.2.1).c1)))
          refine hK.out _ _ ?_ (fun hHeld => ?_)
          · assumption
          clear hK K
          refine wpAnyH_ready (rs := [7]) (by kernel_rfl) (by simp) ?_
          refine AllReadyH.cons rfl (fun K hK => ?_) AllReadyH.nil
          have hf0 := (H8.out.2.2.2.2.1).f0
          have hf1 := (H8.out.2.2.2.2.1).f1
          have hc0 := (H8.out.2.2.2.2.1).c0
          have hc1 := (H8.out.2.2.2.2.1).c1
          go_simp
          clear hf0 hf1 hc0 hc1
          obtain ⟨w17, hw17⟩ : ∃ w17, w17 = (w16.setCell ⟨wd.heap.size, 0, none⟩ (.bool s15)).setCell ⟨wd.heap.size, 1, none⟩ (.slice p15 D15.length c15) := ⟨_, rfl⟩
          rw [← hw17]
          have M17z : Box w17 (w.heap.size) (.bool s1) (.slice p1 l1.length c1) := by rw [hw17]; exact (H8.out.1).far (by omega) _ _
          have M17b : Below w.heap.size w w17 := by rw [hw17]; exact box_kept (H8.out.2.1) (by omega) _ _
          have M17X1 : Box w17 (w.heap.size) (.bool s1) (.slice p1 l1.length c1) := by rw [hw17]; exact (H8.out.2.2.1).far (by omega) _ _
          have M17X2 : Box w17 (w.heap.size + 1) (.bool s2) (.slice p2 l2.length c2) := by rw [hw17]; exact (H8.out.2.2.2.1).far (by omega) _ _
          have M17B6 : Box w17 (wd.heap.size) (.bool s15) (.slice p15 D15.length c15) := by rw [hw17]; exact (H8.out.2.2.2.2.1).put _ _
          have M17x : Dn w17 s13 p13 c13 D13 x := by rw [hw17]; exact (H8.out.2.2.2.2.2.1).apart APxB6.out _ _
          have M17B5 : Box w17 (w13.heap.size) (.bool s13) (.slice p13 D13.length c13) := by rw [hw17]; exact (H8.out.2.2.2.2.2.2.1).far (by omega) _ _
          have M17y : Dn w17 s15 p15 c15 D15 y := by rw [hw17]; exact (H8.out.2.2.2.2.2.2.2).apart APyB6.out _ _
          have BZ : Below W.heap.size W w17 := by rw [hw17]; exact box_kept BZ (by omega) _ _
          have H9 := Lib.hid (And.intro M17z (And.intro M17b (And.intro M17X1 (And.intro M17X2 (And.intro M17B6 (And.intro M17x (And.intro M17B5 M17y)))))))
          clear M17z M17b M17X1 M17X2 M17B6 M17x M17B5 M17y hw17 H8
          clear hSSb16
          have hSSb17 := And.intro ((H9.out.2.2.1).c0) (And.intro ((H9.out.2.2.1).c1) (And.intro ((H9.out.2.2.2.1).c0) ((H9.out.2.2.2.1).c1)))
          refine hK.out _ _ ?_ (fun hHeld => ?_)
          · assumption
          clear hK K
          refine wpAnyH_done (by kernel_rfl) (NoPanic.normal ?_) _
          clear hSSb17
          go_wp2_with fail
          go_meet
          exact ⟨_, _, s13, s15, p13, p15, c13, c15, D13, D15, rfl, rfl, H9.out.2.2.2.2.2.2.1, H9.out.2.2.2.2.1, H9.out.2.2.2.2.2.1, H9.out.2.2.2.2.2.2.2, by have := ZLx.out; omega, by have := ZLy.out; omega, BZ⟩
      · go_simp
        have LWB5 := BZ.size
        have LTB5X1 := lt_of_box (H3.out.2.2.1)
        have LTB5X2 := lt_of_box (H3.out.2.2.2.1)
        have LTB5B6 := lt_of_box (H3.out.2.2.2.2.2.2)
        obtain ⟨w13, hw13⟩ : ∃ w13, w13 = w12.alloc (.cells #[.bool false, .slice none 0 0] 28) := ⟨_, rfl⟩
        rw [← hw13]
        have B13 : Below w12.heap.size w12 w13 := by rw [hw13]; exact (Below.refl _ _).alloc (Nat.le_refl _) _
        have BZ := BZ.trans (B13.mono BZ.size)
        have N13 : Box w13 w12.heap.size (.bool false) (.slice none 0 0) := by rw [hw13]; exact box_fresh 28 _ _ _ rfl
        have H4 := Lib.hid (And.intro (H3.out.1.below B13) (And.intro (H3.out.2.1.trans (B13.mono H3.out.2.1.size)) (And.intro (H3.out.2.2.1.below B13) (And.intro (H3.out.2.2.2.1.below B13) (And.intro (H3.out.2.2.2.2.1.below B13) (And.intro (H3.out.2.2.2.2.2.1.below B13) (And.intro (H3.out.2.2.2.2.2.2.below B13) N13)))))))
        clear hw13 B13 N13 H3
        clear hSSa12
        have hSSa13 := And.intro ((H4.out.2.2.1).c0) (And.intro ((H4.out.2.2.1).c1) (And.intro ((H4.out.2.2.2.1).c0) ((H4.out.2.2.2.1).c1)))
        refine hK.out _ _ ?_ (fun hHeld => ?_)
        · assumption
        clear hK K
        refine wpAnyH_ready (rs := [1]) (by kernel_rfl) (by simp) ?_
        refine AllReadyH.cons rfl (fun K hK => ?_) AllReadyH.nil
        go_simp
        go_wp2_with (have hx := H4; go_at_call 12; clear hx; refine (of_fresh (H4.out.2.2.2.2.1).toNm (by omega)).mono ?_; rintro e w14 ⟨s14, p14, c14, D14, rfl, n14, z14, f14, B14⟩; have ZLx := Lib.hid z14; have Q14B5 := lt_of_box (H4.out.2.2.2.2.2.2.2); have Q14B6 := lt_of_box (H4.out.2.2.2.2.2.2.1); have APxB5 := Lib.hid (apart_new (D := D14) f14 Q14B5); clear Q14B5; have APxB6 := Lib.hid (apart_new (D := D14) f14 Q14B6); clear Q14B6;  skip; have BZ := BZ.trans (B14.mono BZ.size); have H5 := Lib.hid (And.intro (H4.out.1.below B14) (And.intro (H4.out.2.1.trans (B14.mono H4.out.2.1.size)) (And.intro (H4.out.2.2.1.below B14) (And.intro (H4.out.2.2.2.1.below B14) (And.intro (H4.out.2.2.2.2.1.below B14) (And.intro (H4.out.2.2.2.2.2.1.below B14) (And.intro (H4.out.2.2.2.2.2.2.1.below B14) (And.intro (H4.out.2.2.2.2.2.2.2.below B14) n14)))))))); clear n14 z14 f14 B14 H4; clear hSSa13; have hSSrw14 := And.intro ((H5.out.2.2.1).c0) (And.intro ((H5.out.2.2.1).c1) (And.intro ((H5.out.2.2.2.1).c0) ((H5.out.2.2.2.1).c1))))
        refine hK.out _ _ ?_ (fun hHeld => ?_)
        · assumption
        clear hK K
        refine wpAnyH_ready (rs := [3]) (by kernel_rfl) (by simp) ?_
        refine AllReadyH.cons rfl (fun K hK => ?_) AllReadyH.nil
        go_simp
        go_wp2_with (have hx := H5; go_at_call 12; clear hx; refine (of_fresh (H5.out.2.2.2.2.2.1).toNm (by omega)).mono ?_; rintro e w15 ⟨s15, p15, c15, D15, rfl, n15, z15, f15, B15⟩; have ZLy := Lib.hid z15; have Q15B5 := lt_of_box (H5.out.2.2.2.2.2.2.2.1); have Q15B6 := lt_of_box (H5.out.2.2.2.2.2.2.1); have APyB5 := Lib.hid (apart_new (D := D15) f15 Q15B5); clear Q15B5; have APyB6 := Lib.hid (apart_new (D := D15) f15 Q15B6); clear Q15B6;  skip; have BZ := BZ.trans (B15.mono BZ.size); have H6 := Lib.hid (And.intro (H5.out.1.below B15) (And.intro (H5.out.2.1.trans (B15.mono H5.out.2.1.size)) (And.intro (H5.out.2.2.1.below B15) (And.intro (H5.out.2.2.2.1.below B15) (And.intro (H5.out.2.2.2.2.1.below B15) (And.intro (H5.out.2.2.2.2.2.1.below B15) (And.intro (H5.out.2.2.2.2.2.2.1.below B15) (And.intro (H5.out.2.2.2.2.2.2.2.1.below B15) (And.intro (H5.out.2.2.2.2.2.2.2.2.below B15) n15))))))))); clear n15 z15 f15 B15 H5; clear hSSrw14; have hSSrw15 := And.intro ((H6.out.2.2.1).c0) (And.intro ((H6.out.2.2.1).c1) (And.intro ((H6.out.2.2.2.1).c0) ((H6.out.2.2.2.1).c1))))
        refine hK.out _ _ ?_ (fun hHeld => ?_)
        · assumption
        clear hK K
        refine wpAnyH_ready (rs := [6]) (by kernel_rfl) (by simp) ?_
        refine AllReadyH.cons rfl (fun K hK => ?_) AllReadyH.nil
        have H7 := Lib.hid (And.intro H6.out.1 (And.intro H6.out.2.1 (And.intro H6.out.2.2.1 (And.intro H6.out.2.2.2.1 (And.intro H6.out.2.2.2.2.2.2.1 (And.intro H6.out.2.2.2.2.2.2.2.1 (And.intro H6.out.2.2.2.2.2.2.2.2.1 H6.out.2.2.2.2.2.2.2.2.2)))))))
        have hf0 := (H7.out.2.2.2.2.2.1).f0
        have hf1 := (H7.out.2.2.2.2.2.1).f1
        have hc0 := (H7.out.2.2.2.2.2.1).c0
        have hc1 := (H7.out.2.2.2.2.2.1).c1
        go_simp
        clear hf0 hf1 hc0 hc1
        obtain ⟨w16, hw16⟩ : ∃ w16, w16 = (w15.setCell ⟨w12.heap.size, 0, none⟩ (.bool s14)).setCell ⟨w12.heap.size, 1, none⟩ (.slice p14 D14.length c14) := ⟨_, rfl⟩
        rw [← hw16]
        have M16z : Box w16 (w.heap.size) (.bool s1) (.slice p1 l1.length c1) := by rw [hw16]; exact (H7.out.1).far (by omega) _ _
        have M16b : Below w.heap.size w w16 := by rw [hw16]; exact box_kept (H7.out.2.1) (by omega) _ _
        have M16X1 : Box w16 (w.heap.size) (.bool s1) (.slice p1 l1.length c1) := by rw [hw16]; exact (H7.out.2.2.1).far (by omega) _ _
        have M16X2 : Box w16 (w.heap.size + 1) (.bool s2) (.slice p2 l2.length c2) := by rw [hw16]; exact (H7.out.2.2.2.1).far (by omega) _ _
        have M16B6 : Box w16 (wd.heap.size) (.bool false) (.slice none 0 0) := by rw [hw16]; exact (H7.out.2.2.2.2.1).far (by omega) _ _
        have M16B5 : Box w16 (w12.heap.size) (.bool s14) (.slice p14 D14.length c14) := by rw [hw16]; exact (H7.out.2.2.2.2.2.1).put _ _
        have M16x : Dn w16 s14 p14 c14 D14 x := by rw [hw16]; exact (H7.out.2.2.2.2.2.2.1).apart APxB5.out _ _
        have M16y : Dn w16 s15 p15 c15 D15 y := by rw [hw16]; exact (H7.out.2.2.2.2.2.2.2).apart APyB5.out _ _
        have BZ : Below W.heap.size W w16 := by rw [hw16]; exact box_kept BZ (by omega) _ _
        have H8 := Lib.hid (And.intro M16z (And.intro M16b (And.intro M16X1 (And.intro M16X2 (And.intro M16B6 (And.intro M16B5 (And.intro M16x M16y)))))))
        clear M16z M16b M16X1 M16X2 M16B6 M16B5 M16x M16y hw16 H7
        clear hSSrw15
        have hSSb16 := And.intro ((H8.out.2.2.1).c0) (And.intro ((H8.out.2.2.1).c1) (And.intro ((H8.out.2.2.2.1).c0) ((H8.out.2.2.2.1).c1)))
        refine hK.out _ _ ?_ (fun hHeld => ?_)
        · assumption
        clear hK K
        refine wpAnyH_ready (rs := [7]) (by kernel_rfl) (by simp) ?_
        refine AllReadyH.cons rfl (fun K hK => ?_) AllReadyH.nil
        have hf0 := (H8.out.2.2.2.2.1).f0
        have hf1 := (H8.out.2.2.2.2.1).f1
        have hc0 := (H8.out.2.2.2.2.1).c0
        have hc1 := (H8.out.2.2.2.2.1).c1
        go_simp
        clear hf0 hf1 hc0 hc1
        obtain ⟨w17, hw17⟩ : ∃ w17, w17 = (w16.setCell ⟨wd.heap.size, 0, none⟩ (.bool s15)).setCell ⟨wd.heap.size, 1, none⟩ (.slice p15 D15.length c15) := ⟨_, rfl⟩
        rw [← hw17]
        have M17z : Box w17 (w.heap.size) (.bool s1) (.slice p1 l1.length c1) := by rw [hw17]; exact (H8.out.1).far (by omega) _ _
        have M17b : Below w.heap.size w w17 := by rw [hw17]; exact box_kept (H8.out.2.1) (by omega) _ _
        have M17X1 : Box w17 (w.heap.size) (.bool s1) (.slice p1 l1.length c1) := by rw [hw17]; exact (H8.out.2.2.1).far (by omega) _ _
        have M17X2 : Box w17 (w.heap.size + 1) (.bool s2) (.slice p2 l2.length c2) := by rw [hw17]; exact (H8.out.2.2.2.1).far (by omega) _ _
        have M17B6 : Box w17 (wd.heap.size) (.bool s15) (.slice p15 D15.length c15) := by rw [hw17]; exact (H8.out.2.2.2.2.1).put _ _
        have M17B5 : Box w17 (w12.heap.size) (.bool s14) (.slice p14 D14.length c14) := by rw [hw17]; exact (H8.out.2.2.2.2.2.1).far (by omega) _ _
        have M17x : Dn w17 s14 p14 c14 D14 x := by rw [hw17]; exact (H8.out.2.2.2.2.2.2.1).apart APxB6.out _ _
        have M17y : Dn w17 s15 p15 c15 D15 y := by rw [hw17]; exact (H8.out.2.2.2.2.2.2.2).apart APyB6.out _ _
        have BZ : Below W.heap.size W w17 := by rw [hw17]; exact box_kept BZ (by omega) _ _
        have H9 := Lib.hid (And.intro M17z (And.intro M17b (And.intro M17X1 (And.intro M17X2 (And.intro M17B6 (And.intro M17B5 (And.intro M17x M17y)))))))
        clear M17z M17b M17X1 M17X2 M17B6 M17B5 M17x M17y hw17 H8
        clear hSSb16
        have hSSb17 := And.intro ((H9.out.2.2.1).c0) (And.intro ((H9.out.2.2.1).c1) (And.intro ((H9.out.2.2.2.1).c0) ((H9.out.2.2.2.1).c1)))
        refine hK.out _ _ ?_ (fun hHeld => ?_)
        · assumption
        clear hK K
        refine wpAnyH_done (by kernel_rfl) (NoPanic.normal ?_) _
        clear hSSb17
        go_wp2_with fail
        go_meet
        exact ⟨_, _, s14, s15, p14, p15, c14, c15, D14, D15, rfl, rfl, H9.out.2.2.2.2.2.1, H9.out.2.2.2.2.1, H9.out.2.2.2.2.2.2.1, H9.out.2.2.2.2.2.2.2, by have := ZLx.out; omega, by have := ZLy.out; omega, BZ⟩
  case rest =>
    obtain ⟨b5, b6, sx, sy, qx, qy, dx, dy, Dx, Dy, rfl, rfl, hR⟩ := hcut
    obtain ⟨w212, hw212⟩ : ∃ w212, w212 = wc := ⟨_, rfl⟩
    rw [← hw212] at hR ⊢
    clear hw212
    have BR := hR.out.2.2.2.2.2.2
    have H2 := Lib.hid (And.intro (H1.out.1.below BR) (And.intro (H1.out.2.1.trans (BR.mono H1.out.2.1.size)) (And.intro (H1.out.2.2.1.below BR) (And.intro (H1.out.2.2.2.1.below BR) (And.intro (H1.out.2.2.2.2.1.below BR) (And.intro (H1.out.2.2.2.2.2.below BR) (And.intro hR.out.1 (And.intro hR.out.2.1 (And.intro hR.out.2.2.1 hR.out.2.2.2.1)))))))))
    clear BR
    have HLn := Lib.hid (And.intro hR.out.2.2.2.2.1 hR.out.2.2.2.2.2.1)
    have HBW := Lib.hid (H2.out.2.1)
    have H3 := Lib.hid (And.intro (HT.out.below hR.out.2.2.2.2.2.2) (And.intro (Below.refl w212.heap.size w212) (And.intro H2.out.2.2.1 (And.intro H2.out.2.2.2.1 (And.intro H2.out.2.2.2.2.1 (And.intro H2.out.2.2.2.2.2.1 (And.intro H2.out.2.2.2.2.2.2.1 (And.intro H2.out.2.2.2.2.2.2.2.1 (And.intro H2.out.2.2.2.2.2.2.2.2.1 H2.out.2.2.2.2.2.2.2.2.2)))))))))
    clear hR
    have yX1 := H3.out.2.2.1
    have yX10 := yX1.c0
    have yX11 := yX1.c1
    clear yX1
    have yX2 := H3.out.2.2.2.1
    have yX20 := yX2.c0
    have yX21 := yX2.c1
    clear yX2
    by_cases hy : y = 0
    · go_wp2_with fail
      refine (quo_zero H3.out.2.2.2.2.1 (hy ▸ H3.out.2.2.2.2.2.1) (by decide) (by decide)).mono ?_
      rintro e w213 ⟨rfl, B213⟩
      have H4 := Lib.hid (And.intro (H3.out.1.below B213) (And.intro (H3.out.2.1.trans (B213.mono H3.out.2.1.size)) (And.intro (H3.out.2.2.1.below B213) (And.intro (H3.out.2.2.2.1.below B213) (And.intro (H3.out.2.2.2.2.1.below B213) (And.intro (H3.out.2.2.2.2.2.1.below B213) (And.intro (H3.out.2.2.2.2.2.2.1.below B213) (And.intro (H3.out.2.2.2.2.2.2.2.1.below B213) (And.intro (H3.out.2.2.2.2.2.2.2.2.1.below B213) (H3.out.2.2.2.2.2.2.2.2.2.below B213))))))))))
      clear B213
      clear yX10 yX11
      clear yX20 yX21
      obtain ⟨w214, hw214, B214, -, x214, y214⟩ := two_boxes w213 (.bool false) (.slice none 0 0) (.bool false) (.slice none 0 0)
      have H5 := Lib.hid (And.intro (H4.out.1.below B214) (And.intro (H4.out.2.1.trans (B214.mono H4.out.2.1.size)) (And.intro (H4.out.2.2.1.below B214) (And.intro (H4.out.2.2.2.1.below B214) (And.intro (H4.out.2.2.2.2.1.below B214) (And.intro (H4.out.2.2.2.2.2.1.below B214) (And.intro (H4.out.2.2.2.2.2.2.1.below B214) (And.intro (H4.out.2.2.2.2.2.2.2.1.below B214) (And.intro (H4.out.2.2.2.2.2.2.2.2.1.below B214) (And.intro (H4.out.2.2.2.2.2.2.2.2.2.below B214) (And.intro (Box.of x214) (Box.of y214))))))))))))
      clear x214 y214 B214
      go_upto_region 5 with fail
      rw [← hw214]
      clear hw214
      have yB5 := H5.out.2.2.2.2.2.2.1
      have yB50 := yB5.c0
      have yB51 := yB5.c1
      clear yB5
      have yB6 := H5.out.2.2.2.2.2.2.2.1
      have yB60 := yB6.c0
      have yB61 := yB6.c1
      clear yB6
      go_wp2_with fail
      refine (rquo_at H5.out.2.2.2.2.2.2.2.2.1 H5.out.2.2.2.2.2.2.2.2.2.1 (by have := HLn.out; omega) (by have := HLn.out; omega)).mono ?_
      rintro e w215 ⟨hQ, B215⟩
      rcases hQ with ⟨-, rfl⟩ | ⟨hn, -⟩
      case inr => exact absurd hy hn
      have H6 := Lib.hid (And.intro (H5.out.1.below B215) (And.intro (H5.out.2.1.trans (B215.mono H5.out.2.1.size)) (And.intro (H5.out.2.2.1.below B215) (And.intro (H5.out.2.2.2.1.below B215) (And.intro (H5.out.2.2.2.2.1.below B215) (And.intro (H5.out.2.2.2.2.2.1.below B215) (And.intro (H5.out.2.2.2.2.2.2.1.below B215) (And.intro (H5.out.2.2.2.2.2.2.2.1.below B215) (And.intro (H5.out.2.2.2.2.2.2.2.2.1.below B215) (And.intro (H5.out.2.2.2.2.2.2.2.2.2.1.below B215) (And.intro (H5.out.2.2.2.2.2.2.2.2.2.2.1.below B215) (H5.out.2.2.2.2.2.2.2.2.2.2.2.below B215))))))))))))
      clear B215
      clear yB50 yB51
      clear yB60 yB61
      obtain ⟨w216, hw216, B216, x216, y216⟩ := boxes28 w215 (.bool false) (.slice none 0 0) (.bool false) (.slice none 0 0)
      have H7 := Lib.hid (And.intro (H6.out.1.below B216) (And.intro (H6.out.2.1.trans (B216.mono H6.out.2.1.size)) (And.intro (H6.out.2.2.1.below B216) (And.intro (H6.out.2.2.2.1.below B216) (And.intro (H6.out.2.2.2.2.1.below B216) (And.intro (H6.out.2.2.2.2.2.1.below B216) (And.intro (H6.out.2.2.2.2.2.2.1.below B216) (And.intro (H6.out.2.2.2.2.2.2.2.1.below B216) (And.intro (H6.out.2.2.2.2.2.2.2.2.1.below B216) (And.intro (H6.out.2.2.2.2.2.2.2.2.2.1.below B216) (And.intro (H6.out.2.2.2.2.2.2.2.2.2.2.1.below B216) (And.intro (H6.out.2.2.2.2.2.2.2.2.2.2.2.below B216) (And.intro x216 y216)))))))))))))
      clear x216 y216 B216
      go_upto_region 6 with fail
      rw [← hw216]
      clear hw216
      have yX7 := H7.out.2.2.2.2.2.2.2.2.2.2.1
      have yX70 := yX7.c0
      have yX71 := yX7.c1
      clear yX7
      have yX8 := H7.out.2.2.2.2.2.2.2.2.2.2.2.1
      have yX80 := yX8.c0
      have yX81 := yX8.c1
      clear yX8
      have yX10 := H7.out.2.2.2.2.2.2.2.2.2.2.2.2.1
      have yX100 := yX10.c0
      have yX101 := yX10.c1
      clear yX10
      have yX11 := H7.out.2.2.2.2.2.2.2.2.2.2.2.2.2
      have yX110 := yX11.c0
      have yX111 := yX11.c1
      clear yX11
      go_wp2_with fail
      refine (alike_at (l := []) (D := []) (x := 0) ⟨Arg.nothing _ _, Dig.nil, nv_nil _ _⟩ (can_nil _) ⟨Arg.nothing _ _, can_nil _, nv_nil _ _⟩ (by decide)).mono ?_
      rintro e w217 ⟨rfl, B217⟩
      have H8 := Lib.hid (And.intro (H7.out.1.below B217) (And.intro (H7.out.2.1.trans (B217.mono H7.out.2.1.size)) (And.intro (H7.out.2.2.1.below B217) (And.intro (H7.out.2.2.2.1.below B217) (And.intro (H7.out.2.2.2.2.1.below B217) (And.intro (H7.out.2.2.2.2.2.1.below B217) (And.intro (H7.out.2.2.2.2.2.2.1.below B217) (And.intro (H7.out.2.2.2.2.2.2.2.1.below B217) (And.intro (H7.out.2.2.2.2.2.2.2.2.1.below B217) (And.intro (H7.out.2.2.2.2.2.2.2.2.2.1.below B217) (And.intro (H7.out.2.2.2.2.2.2.2.2.2.2.1.below B217) (And.intro (H7.out.2.2.2.2.2.2.2.2.2.2.2.1.below B217) (And.intro (H7.out.2.2.2.2.2.2.2.2.2.2.2.2.1.below B217) (H7.out.2.2.2.2.2.2.2.2.2.2.2.2.2.below B217))))))))))))))
      clear B217
      clear yX70 yX71
      clear yX80 yX81
      clear yX100 yX101
      clear yX110 yX111
      have yX8 := H8.out.2.2.2.2.2.2.2.2.2.2.2.1
      have yX80 := yX8.c0
      have yX81 := yX8.c1
      clear yX8
      have yX11 := H8.out.2.2.2.2.2.2.2.2.2.2.2.2.2
      have yX110 := yX11.c0
      have yX111 := yX11.c1
      clear yX11
      go_wp2_with fail
      refine (alike_at (l := []) (D := []) (x := 0) ⟨Arg.nothing _ _, Dig.nil, nv_nil _ _⟩ (can_nil _) ⟨Arg.nothing _ _, can_nil _, nv_nil _ _⟩ (by decide)).mono ?_
      rintro e w218 ⟨rfl, B218⟩
      have H9 := Lib.hid (And.intro (H8.out.1.below B218) (And.intro (H8.out.2.1.trans (B218.mono H8.out.2.1.size)) (And.intro (H8.out.2.2.1.below B218) (And.intro (H8.out.2.2.2.1.below B218) (And.intro (H8.out.2.2.2.2.1.below B218) (And.intro (H8.out.2.2.2.2.2.1.below B218) (And.intro (H8.out.2.2.2.2.2.2.1.below B218) (And.intro (H8.out.2.2.2.2.2.2.2.1.below B218) (And.intro (H8.out.2.2.2.2.2.2.2.2.1.below B218) (And.intro (H8.out.2.2.2.2.2.2.2.2.2.1.below B218) (And.intro (H8.out.2.2.2.2.2.2.2.2.2.2.1.below B218) (And.intro (H8.out.2.2.2.2.2.2.2.2.2.2.2.1.below B218) (And.intro (H8.out.2.2.2.2.2.2.2.2.2.2.2.2.1.below B218) (H8.out.2.2.2.2.2.2.2.2.2.2.2.2.2.below B218))))))))))))))
      clear B218
      clear yX80 yX81
      clear yX110 yX111
      go_wp2_with fail
      refine (awake_at H9.out.1).mono ?_
      rintro e w219 ⟨rfl, B219⟩
      have H10 := Lib.hid (And.intro (H9.out.1.below B219) (And.intro (H9.out.2.1.trans (B219.mono H9.out.2.1.size)) (And.intro (H9.out.2.2.1.below B219) (And.intro (H9.out.2.2.2.1.below B219) (And.intro (H9.out.2.2.2.2.1.below B219) (And.intro (H9.out.2.2.2.2.2.1.below B219) (And.intro (H9.out.2.2.2.2.2.2.1.below B219) (And.intro (H9.out.2.2.2.2.2.2.2.1.below B219) (And.intro (H9.out.2.2.2.2.2.2.2.2.1.below B219) (And.intro (H9.out.2.2.2.2.2.2.2.2.2.1.below B219) (And.intro (H9.out.2.2.2.2.2.2.2.2.2.2.1.below B219) (And.intro (H9.out.2.2.2.2.2.2.2.2.2.2.2.1.below B219) (And.intro (H9.out.2.2.2.2.2.2.2.2.2.2.2.2.1.below B219) (H9.out.2.2.2.2.2.2.2.2.2.2.2.2.2.below B219))))))))))))))
      clear B219
      go_wp2_with fail
      go_ret
      exact ⟨rfl, HBW.out.trans (H10.out.2.1.mono HBW.out.size)⟩
    · go_wp2_with fail
      refine (quo_nu H3.out.2.2.2.2.1 H3.out.2.2.2.2.2.1 (by decide) (by decide) hy).mono ?_
      rintro e w213 ⟨⟨s213, p213, c213, D213, t213, q213, d213, E213, rfl, ⟨n213, k213, -⟩, ⟨m213, h213, o213⟩⟩, B213⟩
      have BB213 := B213
      have H4 := Lib.hid (And.intro (H3.out.1.below B213) (And.intro (H3.out.2.1.trans (B213.mono H3.out.2.1.size)) (And.intro (H3.out.2.2.1.below B213) (And.intro (H3.out.2.2.2.1.below B213) (And.intro (H3.out.2.2.2.2.1.below B213) (And.intro (H3.out.2.2.2.2.2.1.below B213) (And.intro (H3.out.2.2.2.2.2.2.1.below B213) (And.intro (H3.out.2.2.2.2.2.2.2.1.below B213) (And.intro (H3.out.2.2.2.2.2.2.2.2.1.below B213) (And.intro (H3.out.2.2.2.2.2.2.2.2.2.below B213) (And.intro n213 (And.intro k213 (And.intro m213 (And.intro h213 o213))))))))))))))
      clear n213 k213 m213 h213 o213 B213
      clear yX10 yX11
      clear yX20 yX21
      obtain ⟨w214, hw214, B214, -, x214, y214⟩ := two_boxes w213 (.bool s213) (.slice p213 D213.length c213) (.bool t213) (.slice q213 E213.length d213)
      have H5 := Lib.hid (And.intro (H4.out.1.below B214) (And.intro (H4.out.2.1.trans (B214.mono H4.out.2.1.size)) (And.intro (H4.out.2.2.1.below B214) (And.intro (H4.out.2.2.2.1.below B214) (And.intro (H4.out.2.2.2.2.1.below B214) (And.intro (H4.out.2.2.2.2.2.1.below B214) (And.intro (H4.out.2.2.2.2.2.2.1.below B214) (And.intro (H4.out.2.2.2.2.2.2.2.1.below B214) (And.intro (H4.out.2.2.2.2.2.2.2.2.1.below B214) (And.intro (H4.out.2.2.2.2.2.2.2.2.2.1.below B214) (And.intro (H4.out.2.2.2.2.2.2.2.2.2.2.1.below B214) (And.intro (H4.out.2.2.2.2.2.2.2.2.2.2.2.1.below B214) (And.intro (H4.out.2.2.2.2.2.2.2.2.2.2.2.2.1.below B214) (And.intro (H4.out.2.2.2.2.2.2.2.2.2.2.2.2.2.1.below B214) (And.intro (H4.out.2.2.2.2.2.2.2.2.2.2.2.2.2.2.below B214) (And.intro (Box.of x214) (Box.of y214)))))))))))))))))
      clear x214 y214 B214
      go_upto_region 5 with fail
      rw [← hw214]
      clear hw214
      have yB5 := H5.out.2.2.2.2.2.2.1
      have yB50 := yB5.c0
      have yB51 := yB5.c1
      clear yB5
      have yB6 := H5.out.2.2.2.2.2.2.2.1
      have yB60 := yB6.c0
      have yB61 := yB6.c1
      clear yB6
      go_wp2_with fail
      refine (rquo_at H5.out.2.2.2.2.2.2.2.2.1 H5.out.2.2.2.2.2.2.2.2.2.1 (by have := HLn.out; omega) (by have := HLn.out; omega)).mono ?_
      rintro e w215 ⟨hQ, B215⟩
      rcases hQ with ⟨hn, -⟩ | ⟨-, s215, p215, c215, D215, t215, q215, d215, E215, rfl, n215, m215, z215, y215⟩
      case inl => exact absurd hn hy
      have H6 := Lib.hid (And.intro (H5.out.1.below B215) (And.intro (H5.out.2.1.trans (B215.mono H5.out.2.1.size)) (And.intro (H5.out.2.2.1.below B215) (And.intro (H5.out.2.2.2.1.below B215) (And.intro (H5.out.2.2.2.2.1.below B215) (And.intro (H5.out.2.2.2.2.2.1.below B215) (And.intro (H5.out.2.2.2.2.2.2.1.below B215) (And.intro (H5.out.2.2.2.2.2.2.2.1.below B215) (And.intro (H5.out.2.2.2.2.2.2.2.2.1.below B215) (And.intro (H5.out.2.2.2.2.2.2.2.2.2.1.below B215) (And.intro (H5.out.2.2.2.2.2.2.2.2.2.2.1.below B215) (And.intro (H5.out.2.2.2.2.2.2.2.2.2.2.2.1.below B215) (And.intro (H5.out.2.2.2.2.2.2.2.2.2.2.2.2.1.below B215) (And.intro (H5.out.2.2.2.2.2.2.2.2.2.2.2.2.2.1.below B215) (And.intro (H5.out.2.2.2.2.2.2.2.2.2.2.2.2.2.2.1.below B215) (And.intro (H5.out.2.2.2.2.2.2.2.2.2.2.2.2.2.2.2.1.below B215) (And.intro (H5.out.2.2.2.2.2.2.2.2.2.2.2.2.2.2.2.2.below B215) (And.intro n215 m215))))))))))))))))))
      clear n215 m215 B215
      clear yB50 yB51
      clear yB60 yB61
      obtain ⟨w216, hw216, B216, x216, y216⟩ := boxes28 w215 (.bool s215) (.slice p215 D215.length c215) (.bool t215) (.slice q215 E215.length d215)
      have H7 := Lib.hid (And.intro (H6.out.1.below B216) (And.intro (H6.out.2.1.trans (B216.mono H6.out.2.1.size)) (And.intro (H6.out.2.2.1.below B216) (And.intro (H6.out.2.2.2.1.below B216) (And.intro (H6.out.2.2.2.2.1.below B216) (And.intro (H6.out.2.2.2.2.2.1.below B216) (And.intro (H6.out.2.2.2.2.2.2.1.below B216) (And.intro (H6.out.2.2.2.2.2.2.2.1.below B216) (And.intro (H6.out.2.2.2.2.2.2.2.2.1.below B216) (And.intro (H6.out.2.2.2.2.2.2.2.2.2.1.below B216) (And.intro (H6.out.2.2.2.2.2.2.2.2.2.2.1.below B216) (And.intro (H6.out.2.2.2.2.2.2.2.2.2.2.2.1.below B216) (And.intro (H6.out.2.2.2.2.2.2.2.2.2.2.2.2.1.below B216) (And.intro (H6.out.2.2.2.2.2.2.2.2.2.2.2.2.2.1.below B216) (And.intro (H6.out.2.2.2.2.2.2.2.2.2.2.2.2.2.2.1.below B216) (And.intro (H6.out.2.2.2.2.2.2.2.2.2.2.2.2.2.2.2.1.below B216) (And.intro (H6.out.2.2.2.2.2.2.2.2.2.2.2.2.2.2.2.2.1.below B216) (And.intro (H6.out.2.2.2.2.2.2.2.2.2.2.2.2.2.2.2.2.2.1.below B216) (And.intro (H6.out.2.2.2.2.2.2.2.2.2.2.2.2.2.2.2.2.2.2.below B216) (And.intro x216 y216))))))))))))))))))))
      clear x216 y216 B216
      go_upto_region 6 with fail
      rw [← hw216]
      clear hw216
      have yX7 := H7.out.2.2.2.2.2.2.2.2.2.2.2.2.2.2.2.1
      have yX70 := yX7.c0
      have yX71 := yX7.c1
      clear yX7
      have yX10 := H7.out.2.2.2.2.2.2.2.2.2.2.2.2.2.2.2.2.2.2.2.1
      have yX100 := yX10.c0
      have yX101 := yX10.c1
      clear yX10
      go_wp2_with fail
      refine (alike_at H7.out.2.2.2.2.2.2.2.2.2.2.1.toNm H7.out.2.2.2.2.2.2.2.2.2.2.2.1 H7.out.2.2.2.2.2.2.2.2.2.2.2.2.2.2.2.2.2.1 (by omega)).mono ?_
      rintro e w217 ⟨rfl, B217⟩
      have H8 := Lib.hid (And.intro (H7.out.1.below B217) (And.intro (H7.out.2.1.trans (B217.mono H7.out.2.1.size)) (And.intro (H7.out.2.2.1.below B217) (And.intro (H7.out.2.2.2.1.below B217) (And.intro (H7.out.2.2.2.2.1.below B217) (And.intro (H7.out.2.2.2.2.2.1.below B217) (And.intro (H7.out.2.2.2.2.2.2.1.below B217) (And.intro (H7.out.2.2.2.2.2.2.2.1.below B217) (And.intro (H7.out.2.2.2.2.2.2.2.2.1.below B217) (And.intro (H7.out.2.2.2.2.2.2.2.2.2.1.below B217) (And.intro (H7.out.2.2.2.2.2.2.2.2.2.2.1.below B217) (And.intro (H7.out.2.2.2.2.2.2.2.2.2.2.2.1.below B217) (And.intro (H7.out.2.2.2.2.2.2.2.2.2.2.2.2.1.below B217) (And.intro (H7.out.2.2.2.2.2.2.2.2.2.2.2.2.2.1.below B217) (And.intro (H7.out.2.2.2.2.2.2.2.2.2.2.2.2.2.2.1.below B217) (And.intro (H7.out.2.2.2.2.2.2.2.2.2.2.2.2.2.2.2.1.below B217) (And.intro (H7.out.2.2.2.2.2.2.2.2.2.2.2.2.2.2.2.2.1.below B217) (And.intro (H7.out.2.2.2.2.2.2.2.2.2.2.2.2.2.2.2.2.2.1.below B217) (And.intro (H7.out.2.2.2.2.2.2.2.2.2.2.2.2.2.2.2.2.2.2.1.below B217) (And.intro (H7.out.2.2.2.2.2.2.2.2.2.2.2.2.2.2.2.2.2.2.2.1.below B217) (H7.out.2.2.2.2.2.2.2.2.2.2.2.2.2.2.2.2.2.2.2.2.below B217)))))))))))))))))))))
      clear B217
      clear yX70 yX71
      clear yX100 yX101
      have yX8 := H8.out.2.2.2.2.2.2.2.2.2.2.2.2.2.2.2.2.1
      have yX80 := yX8.c0
      have yX81 := yX8.c1
      clear yX8
      have yX11 := H8.out.2.2.2.2.2.2.2.2.2.2.2.2.2.2.2.2.2.2.2.2
      have yX110 := yX11.c0
      have yX111 := yX11.c1
      clear yX11
      go_wp2_with fail
      refine (alike_at H8.out.2.2.2.2.2.2.2.2.2.2.2.2.1.toNm H8.out.2.2.2.2.2.2.2.2.2.2.2.2.2.1 H8.out.2.2.2.2.2.2.2.2.2.2.2.2.2.2.2.2.2.2.1 (by omega)).mono ?_
      rintro e w218 ⟨rfl, B218⟩
      have H9 := Lib.hid (And.intro (H8.out.1.below B218) (And.intro (H8.out.2.1.trans (B218.mono H8.out.2.1.size)) (And.intro (H8.out.2.2.1.below B218) (And.intro (H8.out.2.2.2.1.below B218) (And.intro (H8.out.2.2.2.2.1.below B218) (And.intro (H8.out.2.2.2.2.2.1.below B218) (And.intro (H8.out.2.2.2.2.2.2.1.below B218) (And.intro (H8.out.2.2.2.2.2.2.2.1.below B218) (And.intro (H8.out.2.2.2.2.2.2.2.2.1.below B218) (And.intro (H8.out.2.2.2.2.2.2.2.2.2.1.below B218) (And.intro (H8.out.2.2.2.2.2.2.2.2.2.2.1.below B218) (And.intro (H8.out.2.2.2.2.2.2.2.2.2.2.2.1.below B218) (And.intro (H8.out.2.2.2.2.2.2.2.2.2.2.2.2.1.below B218) (And.intro (H8.out.2.2.2.2.2.2.2.2.2.2.2.2.2.1.below B218) (And.intro (H8.out.2.2.2.2.2.2.2.2.2.2.2.2.2.2.1.below B218) (And.intro (H8.out.2.2.2.2.2.2.2.2.2.2.2.2.2.2.2.1.below B218) (And.intro (H8.out.2.2.2.2.2.2.2.2.2.2.2.2.2.2.2.2.1.below B218) (And.intro (H8.out.2.2.2.2.2.2.2.2.2.2.2.2.2.2.2.2.2.1.below B218) (And.intro (H8.out.2.2.2.2.2.2.2.2.2.2.2.2.2.2.2.2.2.2.1.below B218) (And.intro (H8.out.2.2.2.2.2.2.2.2.2.2.2.2.2.2.2.2.2.2.2.1.below B218) (H8.out.2.2.2.2.2.2.2.2.2.2.2.2.2.2.2.2.2.2.2.2.below B218)))))))))))))))))))))
      clear B218
      clear yX80 yX81
      clear yX110 yX111
      have yX8 := H9.out.2.2.2.2.2.2.2.2.2.2.2.2.2.2.2.2.1
      have yX80 := yX8.c0
      have yX81 := yX8.c1
      clear yX8
      go_upto_region 9 with fail
      clear yX80 yX81
      have hE60 := (H9.out.2.2.2.2.2.2.2.2.2.2.2.2.1).len
      go_wp2_with fail
      go_loopw [14] (fun t wx => ∃ (k : Nat) (L : List Int), t = .int .i64 k ∧ k ≤ E213.length ∧ L.length = E213.length ∧ Hid (Own 52 .u16 w212.heap.size wx (.slice q213 E213.length d213) L ∧ Box wx (w213.heap.size + 1) (.bool t213) (.slice q213 E213.length d213) ∧ Below w212.heap.size w212 wx)) (fun t _ => E213.length - (intOf t).toNat)
      case atStart => exact ⟨0, E213, rfl, Nat.zero_le _, rfl, H9.out.2.2.2.2.2.2.2.2.2.2.2.2.2.2.1, H9.out.2.2.2.2.2.2.2.2.2.2.2.2.2.2.2.2.1, H9.out.2.1⟩
      case round =>
        obtain ⟨k, L, rfl, hk, hLE, hS⟩ := hrel
        by_cases hlt : k < E213.length
        · obtain ⟨gR, cR, hv, hgB, hgl, -, -⟩ := hS.out.1.at (by omega)
          simp only [Value.slice.injEq] at hv
          obtain ⟨rfl, -, rfl⟩ := hv
          have hcc := hS.out.1.cell k (by omega)
          have hfr := hS.out.1.free k
          have hne : w213.heap.size + 1 ≠ gR := by
            intro e
            have e1 := hS.out.1.cell 0 (by omega)
            have e2 := hS.out.2.1.c0
            rw [e] at e2
            rw [e1] at e2
            cases e2
          have z0 := hS.out.2.1.c0
          have z1 := hS.out.2.1.c1
          have q1 : decide ((k : Int) < (E213.length : Int)) = true := by rw [decide_eq_true_eq]; omega
          have f1 : (k : Int) < (E213.length : Int) := by omega
          have HX := Lib.hid (And.intro (hS.out.1.set k 7) (And.intro (box_cell hS.out.2.1 hne k (.int .u16 7)) (hS.out.2.2.setCell (p := ⟨gR, k, none⟩) hgB (.int .u16 7))))
          clear hne hgB hgl
          go_wp2_with fail
          go_roundw
          case rel => exact ⟨k + 1, L.set k 7, by go_num, hlt, by rw [List.length_set]; exact hLE, HX.out.1, HX.out.2.1, HX.out.2.2⟩
          case measure => simp [intOf]; omega
        · have hz : k = E213.length := by omega
          have z0 := hS.out.2.1.c0
          have z1 := hS.out.2.1.c1
          rw [hz]
          have q1 : decide ((E213.length : Int) < (E213.length : Int)) = false := by simp
          clear hz hlt hk
          have Z0 := Lib.hid (And.intro (H3.out.1.below hS.out.2.2) (And.intro hS.out.2.2 (And.intro (H3.out.2.2.1.below hS.out.2.2) (And.intro (H3.out.2.2.2.1.below hS.out.2.2) (And.intro (H3.out.2.2.2.2.1.below hS.out.2.2) (And.intro (H3.out.2.2.2.2.2.1.below hS.out.2.2) (And.intro (H3.out.2.2.2.2.2.2.1.below hS.out.2.2) (And.intro (H3.out.2.2.2.2.2.2.2.1.below hS.out.2.2) (And.intro (H3.out.2.2.2.2.2.2.2.2.1.below hS.out.2.2) (H3.out.2.2.2.2.2.2.2.2.2.below hS.out.2.2))))))))))
          go_upto_region 13 with fail
          clear z0 z1 q1
          have B11 : Below wr.heap.size wr wr.drew := (Below.refl _ _).drew
          have Z1 := Lib.hid (And.intro (Z0.out.1.below B11) (And.intro (Z0.out.2.1.trans (B11.mono Z0.out.2.1.size)) (And.intro (Z0.out.2.2.1.below B11) (And.intro (Z0.out.2.2.2.1.below B11) (And.intro (Z0.out.2.2.2.2.1.below B11) (And.intro (Z0.out.2.2.2.2.2.1.below B11) (And.intro (Z0.out.2.2.2.2.2.2.1.below B11) (And.intro (Z0.out.2.2.2.2.2.2.2.1.below B11) (And.intro (Z0.out.2.2.2.2.2.2.2.2.1.below B11) (Z0.out.2.2.2.2.2.2.2.2.2.below B11))))))))))
          clear B11
          have hSS : wr.drew.cell? ⟨w.heap.size, 0, none⟩ = some (.bool s1) ∧ wr.drew.cell? ⟨w.heap.size, 1, none⟩ = some (.slice p1 l1.length c1) ∧ wr.drew.cell? ⟨w.heap.size + 1, 0, none⟩ = some (.bool s2) ∧ wr.drew.cell? ⟨w.heap.size + 1, 1, none⟩ = some (.slice p2 l2.length c2) ∧ wr.drew.cell? ⟨b5, 0, none⟩ = some (.bool sx) ∧ wr.drew.cell? ⟨b5, 1, none⟩ = some (.slice qx Dx.length dx) ∧ wr.drew.cell? ⟨b6, 0, none⟩ = some (.bool sy) ∧ wr.drew.cell? ⟨b6, 1, none⟩ = some (.slice qy Dy.length dy) := And.intro ((Z1.out.2.2.1).c0) (And.intro ((Z1.out.2.2.1).c1) (And.intro ((Z1.out.2.2.2.1).c0) (And.intro ((Z1.out.2.2.2.1).c1) (And.intro ((Z1.out.2.2.2.2.2.2.1).c0) (And.intro ((Z1.out.2.2.2.2.2.2.1).c1) (And.intro ((Z1.out.2.2.2.2.2.2.2.1).c0) ((Z1.out.2.2.2.2.2.2.2.1).c1)))))))
          refine wp_region_noPanic ?_
          refine wp_region_held_drew (S := fun w' => w'.cell? ⟨w.heap.size, 0, none⟩ = some (.bool s1) ∧ w'.cell? ⟨w.heap.size, 1, none⟩ = some (.slice p1 l1.length c1) ∧ w'.cell? ⟨w.heap.size + 1, 0, none⟩ = some (.bool s2) ∧ w'.cell? ⟨w.heap.size + 1, 1, none⟩ = some (.slice p2 l2.length c2) ∧ w'.cell? ⟨b5, 0, none⟩ = some (.bool sx) ∧ w'.cell? ⟨b5, 1, none⟩ = some (.slice qx Dx.length dx) ∧ w'.cell? ⟨b6, 0, none⟩ = some (.bool sy) ∧ w'.cell? ⟨b6, 1, none⟩ = some (.slice qy Dy.length dy)) (by kernel_rfl) hSS (fun hHeld => ?_)
          refine wpAnyH_take (i := 0) (oi := { dst := some 86, op := Op.move (Operand.tmp 13), type := 4, pos := "law.go:95", after := #[], guard := none }) (v := ?_) rfl (by kernel_rfl) (by kernel_rfl) (by kernel_rfl) (fun _ _ _ h => h) (Or.inl ⟨by rfl, ?_⟩) (by assumption) ?_
          rotate_left
          · (intro w0 hSw; (try dsimp only at hSw); go_simp; (try with_reducible rfl))
          try simp only [Act.put, List.setIfInBounds_toArray, List.set_cons_zero, List.set_cons_succ]
          refine wpAnyH_take (i := 1) (oi := { dst := some 87, op := Op.move (Operand.tmp 86), type := 4, pos := "law.go:95", after := #[{ on := 0, ground := Ground.data }], guard := none }) (v := ?_) rfl (by kernel_rfl) (by kernel_rfl) (by kernel_rfl) (fun _ _ _ h => h) (Or.inl ⟨by rfl, ?_⟩) (by assumption) ?_
          rotate_left
          · (intro w0 hSw; (try dsimp only at hSw); go_simp; (try with_reducible rfl))
          try simp only [Act.put, List.setIfInBounds_toArray, List.set_cons_zero, List.set_cons_succ]
          refine wpAnyH_take (i := 2) (oi := { dst := some 88, op := Op.load 24 (Operand.tmp 2), type := 24, pos := "law.go:95", after := #[{ on := 1, ground := Ground.guard }], guard := some (1, true) }) (v := ?_) rfl (by kernel_rfl) (by kernel_rfl) (by kernel_rfl) (fun _ _ _ h => h) (Or.inl ⟨by rfl, ?_⟩) (by assumption) ?_
          rotate_left
          · (intro w0 hSw; (try dsimp only at hSw); go_simp; (try with_reducible rfl))
          try simp only [Act.put, List.setIfInBounds_toArray, List.set_cons_zero, List.set_cons_succ]
          refine wpAnyH_take (i := 4) (oi := { dst := some 90, op := Op.load 28 (Operand.tmp 5), type := 28, pos := "law.go:95", after := #[{ on := 1, ground := Ground.guard }], guard := some (1, true) }) (v := ?_) rfl (by kernel_rfl) (by kernel_rfl) (by kernel_rfl) (fun _ _ _ h => h) (Or.inl ⟨by rfl, ?_⟩) (by assumption) ?_
          rotate_left
          · (intro w0 hSw; (try dsimp only at hSw); go_simp; (try with_reducible rfl))
          try simp only [Act.put, List.setIfInBounds_toArray, List.set_cons_zero, List.set_cons_succ]
          refine wpAnyH_ready (rs := [3]) (by kernel_rfl) (by simp) ?_
          refine AllReadyH.cons rfl (fun K hK => ?_) AllReadyH.nil
          go_simp
          go_wp2_with (have hx := Z1; go_at_call 12; clear hx; refine (of_num Z1.out.2.2.2.2.1.toNm (by omega)).mono ?_; rintro e w12 ⟨s12, p12, c12, D12, rfl, n12, z12, B12⟩; have Z2 := Lib.hid (And.intro (Z1.out.1.below B12) (And.intro (Z1.out.2.1.trans (B12.mono Z1.out.2.1.size)) (And.intro (Z1.out.2.2.1.below B12) (And.intro (Z1.out.2.2.2.1.below B12) (And.intro (Z1.out.2.2.2.2.1.below B12) (And.intro (Z1.out.2.2.2.2.2.1.below B12) (And.intro (Z1.out.2.2.2.2.2.2.1.below B12) (And.intro (Z1.out.2.2.2.2.2.2.2.1.below B12) (And.intro (Z1.out.2.2.2.2.2.2.2.2.1.below B12) (And.intro (Z1.out.2.2.2.2.2.2.2.2.2.below B12) n12)))))))))); clear n12 B12 Z1; clear hSS; have hSS12 := And.intro ((Z2.out.2.2.1).c0) (And.intro ((Z2.out.2.2.1).c1) (And.intro ((Z2.out.2.2.2.1).c0) (And.intro ((Z2.out.2.2.2.1).c1) (And.intro ((Z2.out.2.2.2.2.2.2.1).c0) (And.intro ((Z2.out.2.2.2.2.2.2.1).c1) (And.intro ((Z2.out.2.2.2.2.2.2.2.1).c0) ((Z2.out.2.2.2.2.2.2.2.1).c1))))))))
          refine hK.out _ _ ?_ (fun hHeld => ?_)
          · assumption
          clear hK K
          refine wpAnyH_ready (rs := [5]) (by kernel_rfl) (by simp) ?_
          refine AllReadyH.cons rfl (fun K hK => ?_) AllReadyH.nil
          go_simp
          go_wp2_with (have hx := Z2; go_at_call 28; clear hx; refine (rcmp_zero Z2.out.2.2.2.2.2.2.2.2.2.2 Z2.out.2.2.2.2.2.2.2.2.1).mono ?_; rintro e w13 ⟨rfl, B13⟩; have Z3 := Lib.hid (And.intro (Z2.out.1.below B13) (And.intro (Z2.out.2.1.trans (B13.mono Z2.out.2.1.size)) (And.intro (Z2.out.2.2.1.below B13) (And.intro (Z2.out.2.2.2.1.below B13) (And.intro (Z2.out.2.2.2.2.1.below B13) (And.intro (Z2.out.2.2.2.2.2.1.below B13) (And.intro (Z2.out.2.2.2.2.2.2.1.below B13) (And.intro (Z2.out.2.2.2.2.2.2.2.1.below B13) (And.intro (Z2.out.2.2.2.2.2.2.2.2.1.below B13) (And.intro (Z2.out.2.2.2.2.2.2.2.2.2.1.below B13) (Z2.out.2.2.2.2.2.2.2.2.2.2.below B13))))))))))); clear B13 Z2; clear hSS12; have hSS13 := And.intro ((Z3.out.2.2.1).c0) (And.intro ((Z3.out.2.2.1).c1) (And.intro ((Z3.out.2.2.2.1).c0) (And.intro ((Z3.out.2.2.2.1).c1) (And.intro ((Z3.out.2.2.2.2.2.2.1).c0) (And.intro ((Z3.out.2.2.2.2.2.2.1).c1) (And.intro ((Z3.out.2.2.2.2.2.2.2.1).c0) ((Z3.out.2.2.2.2.2.2.2.1).c1))))))))
          refine hK.out _ _ ?_ (fun hHeld => ?_)
          · assumption
          clear hK K
          refine wpAnyH_take (i := 6) (oi := { dst := some 92, op := Op.binOp BinOp.eql 3 (Operand.tmp 91) (Operand.const (Value.int IntKind.i64 0)) 3, type := 4, pos := "law.go:95", after := #[{ on := 5, ground := Ground.data }, { on := 1, ground := Ground.guard }], guard := some (1, true) }) (v := ?_) rfl (by kernel_rfl) (by kernel_rfl) (by kernel_rfl) (fun _ _ _ h => h) (Or.inl ⟨by rfl, ?_⟩) (by assumption) ?_
          rotate_left
          · (intro w0 hSw; (try dsimp only at hSw); go_simp; (try with_reducible rfl))
          try simp only [Act.put, List.setIfInBounds_toArray, List.set_cons_zero, List.set_cons_succ]
          refine wpAnyH_take (i := 7) (oi := { dst := some 93, op := Op.pick (Operand.tmp 87) (Operand.tmp 92) (Operand.const (Value.bool false)), type := 4, pos := "law.go:95", after := #[{ on := 1, ground := Ground.data }, { on := 6, ground := Ground.data }], guard := none }) (v := ?_) rfl (by kernel_rfl) (by kernel_rfl) (by kernel_rfl) (fun _ _ _ h => h) (Or.inl ⟨by rfl, ?_⟩) (by assumption) ?_
          rotate_left
          · (intro w0 hSw; (try dsimp only at hSw); go_simp; (try with_reducible rfl))
          try simp only [Act.put, List.setIfInBounds_toArray, List.set_cons_zero, List.set_cons_succ]
          refine wpAnyH_take (i := 8) (oi := { dst := some 94, op := Op.move (Operand.tmp 93), type := 4, pos := "law.go:95", after := #[{ on := 7, ground := Ground.data }, { on := 5, ground := Ground.chain }], guard := none }) (v := ?_) rfl (by kernel_rfl) (by kernel_rfl) (by kernel_rfl) (fun _ _ _ h => h) (Or.inl ⟨by rfl, ?_⟩) (by assumption) ?_
          rotate_left
          · (intro w0 hSw; (try dsimp only at hSw); go_simp; (try with_reducible rfl))
          try simp only [Act.put, List.setIfInBounds_toArray, List.set_cons_zero, List.set_cons_succ]
          refine wpAnyH_take (i := 9) (oi := { dst := some 95, op := Op.load 24 (Operand.tmp 3), type := 24, pos := "law.go:95", after := #[{ on := 8, ground := Ground.guard }], guard := some (8, true) }) (v := ?_) rfl (by kernel_rfl) (by kernel_rfl) (by kernel_rfl) (fun _ _ _ h => h) (Or.inl ⟨by rfl, ?_⟩) (by assumption) ?_
          rotate_left
          · (intro w0 hSw; (try dsimp only at hSw); go_simp; (try with_reducible rfl))
          try simp only [Act.put, List.setIfInBounds_toArray, List.set_cons_zero, List.set_cons_succ]
          refine wpAnyH_take (i := 11) (oi := { dst := some 97, op := Op.load 28 (Operand.tmp 6), type := 28, pos := "law.go:95", after := #[{ on := 8, ground := Ground.guard }], guard := some (8, true) }) (v := ?_) rfl (by kernel_rfl) (by kernel_rfl) (by kernel_rfl) (fun _ _ _ h => h) (Or.inl ⟨by rfl, ?_⟩) (by assumption) ?_
          rotate_left
          · (intro w0 hSw; (try dsimp only at hSw); go_simp; (try with_reducible rfl))
          try simp only [Act.put, List.setIfInBounds_toArray, List.set_cons_zero, List.set_cons_succ]
          refine wpAnyH_ready (rs := [10]) (by kernel_rfl) (by simp) ?_
          refine AllReadyH.cons rfl (fun K hK => ?_) AllReadyH.nil
          go_simp
          go_wp2_with (have hx := Z3; go_at_call 12; clear hx; refine (of_num Z3.out.2.2.2.2.2.1.toNm (by omega)).mono ?_; rintro e w14 ⟨s14, p14, c14, D14, rfl, n14, z14, B14⟩; have Z4 := Lib.hid (And.intro (Z3.out.1.below B14) (And.intro (Z3.out.2.1.trans (B14.mono Z3.out.2.1.size)) (And.intro (Z3.out.2.2.1.below B14) (And.intro (Z3.out.2.2.2.1.below B14) (And.intro (Z3.out.2.2.2.2.1.below B14) (And.intro (Z3.out.2.2.2.2.2.1.below B14) (And.intro (Z3.out.2.2.2.2.2.2.1.below B14) (And.intro (Z3.out.2.2.2.2.2.2.2.1.below B14) (And.intro (Z3.out.2.2.2.2.2.2.2.2.1.below B14) (And.intro (Z3.out.2.2.2.2.2.2.2.2.2.1.below B14) (And.intro (Z3.out.2.2.2.2.2.2.2.2.2.2.below B14) n14))))))))))); clear n14 B14 Z3; clear hSS13; have hSS14 := And.intro ((Z4.out.2.2.1).c0) (And.intro ((Z4.out.2.2.1).c1) (And.intro ((Z4.out.2.2.2.1).c0) (And.intro ((Z4.out.2.2.2.1).c1) (And.intro ((Z4.out.2.2.2.2.2.2.1).c0) (And.intro ((Z4.out.2.2.2.2.2.2.1).c1) (And.intro ((Z4.out.2.2.2.2.2.2.2.1).c0) ((Z4.out.2.2.2.2.2.2.2.1).c1))))))))
          refine hK.out _ _ ?_ (fun hHeld => ?_)
          · assumption
          clear hK K
          refine wpAnyH_ready (rs := [12]) (by kernel_rfl) (by simp) ?_
          refine AllReadyH.cons rfl (fun K hK => ?_) AllReadyH.nil
          go_simp
          go_wp2_with (have hx := Z4; go_at_call 28; clear hx; refine (rcmp_zero Z4.out.2.2.2.2.2.2.2.2.2.2.2 Z4.out.2.2.2.2.2.2.2.2.2.1).mono ?_; rintro e w15 ⟨rfl, B15⟩; have Z5 := Lib.hid (And.intro (Z4.out.1.below B15) (And.intro (Z4.out.2.1.trans (B15.mono Z4.out.2.1.size)) (And.intro (Z4.out.2.2.1.below B15) (And.intro (Z4.out.2.2.2.1.below B15) (And.intro (Z4.out.2.2.2.2.1.below B15) (And.intro (Z4.out.2.2.2.2.2.1.below B15) (And.intro (Z4.out.2.2.2.2.2.2.1.below B15) (And.intro (Z4.out.2.2.2.2.2.2.2.1.below B15) (And.intro (Z4.out.2.2.2.2.2.2.2.2.1.below B15) (And.intro (Z4.out.2.2.2.2.2.2.2.2.2.1.below B15) (And.intro (Z4.out.2.2.2.2.2.2.2.2.2.2.1.below B15) (Z4.out.2.2.2.2.2.2.2.2.2.2.2.below B15)))))))))))); clear B15 Z4; clear hSS14; have hSS15 := And.intro ((Z5.out.2.2.1).c0) (And.intro ((Z5.out.2.2.1).c1) (And.intro ((Z5.out.2.2.2.1).c0) (And.intro ((Z5.out.2.2.2.1).c1) (And.intro ((Z5.out.2.2.2.2.2.2.1).c0) (And.intro ((Z5.out.2.2.2.2.2.2.1).c1) (And.intro ((Z5.out.2.2.2.2.2.2.2.1).c0) ((Z5.out.2.2.2.2.2.2.2.1).c1))))))))
          refine hK.out _ _ ?_ (fun hHeld => ?_)
          · assumption
          clear hK K
          refine wpAnyH_take (i := 13) (oi := { dst := some 99, op := Op.binOp BinOp.eql 3 (Operand.tmp 98) (Operand.const (Value.int IntKind.i64 0)) 3, type := 4, pos := "law.go:95", after := #[{ on := 12, ground := Ground.data }, { on := 8, ground := Ground.guard }], guard := some (8, true) }) (v := ?_) rfl (by kernel_rfl) (by kernel_rfl) (by kernel_rfl) (fun _ _ _ h => h) (Or.inl ⟨by rfl, ?_⟩) (by assumption) ?_
          rotate_left
          · (intro w0 hSw; (try dsimp only at hSw); go_simp; (try with_reducible rfl))
          try simp only [Act.put, List.setIfInBounds_toArray, List.set_cons_zero, List.set_cons_succ]
          refine wpAnyH_take (i := 14) (oi := { dst := some 100, op := Op.pick (Operand.tmp 94) (Operand.tmp 99) (Operand.const (Value.bool false)), type := 4, pos := "law.go:95", after := #[{ on := 8, ground := Ground.data }, { on := 13, ground := Ground.data }], guard := none }) (v := ?_) rfl (by kernel_rfl) (by kernel_rfl) (by kernel_rfl) (fun _ _ _ h => h) (Or.inl ⟨by rfl, ?_⟩) (by assumption) ?_
          rotate_left
          · (intro w0 hSw; (try dsimp only at hSw); go_simp; (try with_reducible rfl))
          try simp only [Act.put, List.setIfInBounds_toArray, List.set_cons_zero, List.set_cons_succ]
          refine wpAnyH_take (i := 15) (oi := { dst := some 101, op := Op.move (Operand.tmp 100), type := 4, pos := "law.go:95", after := #[{ on := 14, ground := Ground.data }, { on := 12, ground := Ground.chain }], guard := none }) (v := ?_) rfl (by kernel_rfl) (by kernel_rfl) (by kernel_rfl) (fun _ _ _ h => h) (Or.inl ⟨by rfl, ?_⟩) (by assumption) ?_
          rotate_left
          · (intro w0 hSw; (try dsimp only at hSw); go_simp; (try with_reducible rfl))
          try simp only [Act.put, List.setIfInBounds_toArray, List.set_cons_zero, List.set_cons_succ]
          refine wpAnyH_ready (rs := [16]) (by kernel_rfl) (by simp) ?_
          refine AllReadyH.cons rfl (fun K hK => ?_) AllReadyH.nil
          go_simp
          go_wp2_with (have hx := Z5; go_at_call 11; clear hx; refine (awake_at Z5.out.1).mono ?_; rintro e w16 ⟨rfl, B16⟩; have Z6 := Lib.hid (And.intro (Z5.out.1.below B16) (And.intro (Z5.out.2.1.trans (B16.mono Z5.out.2.1.size)) (And.intro (Z5.out.2.2.1.below B16) (And.intro (Z5.out.2.2.2.1.below B16) (And.intro (Z5.out.2.2.2.2.1.below B16) (And.intro (Z5.out.2.2.2.2.2.1.below B16) (And.intro (Z5.out.2.2.2.2.2.2.1.below B16) (And.intro (Z5.out.2.2.2.2.2.2.2.1.below B16) (And.intro (Z5.out.2.2.2.2.2.2.2.2.1.below B16) (And.intro (Z5.out.2.2.2.2.2.2.2.2.2.1.below B16) (And.intro (Z5.out.2.2.2.2.2.2.2.2.2.2.1.below B16) (Z5.out.2.2.2.2.2.2.2.2.2.2.2.below B16)))))))))))); clear B16 Z5; clear hSS15; have hSS16 := And.intro ((Z6.out.2.2.1).c0) (And.intro ((Z6.out.2.2.1).c1) (And.intro ((Z6.out.2.2.2.1).c0) (And.intro ((Z6.out.2.2.2.1).c1) (And.intro ((Z6.out.2.2.2.2.2.2.1).c0) (And.intro ((Z6.out.2.2.2.2.2.2.1).c1) (And.intro ((Z6.out.2.2.2.2.2.2.2.1).c0) ((Z6.out.2.2.2.2.2.2.2.1).c1))))))))
          refine hK.out _ _ ?_ (fun hHeld => ?_)
          · assumption
          clear hK K
          refine wpAnyH_take (i := 17) (oi := { dst := some 103, op := Op.pick (Operand.tmp 101) (Operand.tmp 102) (Operand.const (Value.bool false)), type := 4, pos := "law.go:95", after := #[{ on := 15, ground := Ground.data }, { on := 16, ground := Ground.data }], guard := none }) (v := ?_) rfl (by kernel_rfl) (by kernel_rfl) (by kernel_rfl) (fun _ _ _ h => h) (Or.inl ⟨by rfl, ?_⟩) (by assumption) ?_
          rotate_left
          · (intro w0 hSw; (try dsimp only at hSw); go_simp; (try with_reducible rfl))
          try simp only [Act.put, List.setIfInBounds_toArray, List.set_cons_zero, List.set_cons_succ]
          refine wpAnyH_take (i := 18) (oi := { dst := some 4, op := Op.assign (Operand.tmp 103), type := 4, pos := "law.go:95", after := #[{ on := 17, ground := Ground.data }, { on := 16, ground := Ground.chain }, { on := 0, ground := Ground.phase }, { on := 1, ground := Ground.phase }, { on := 2, ground := Ground.phase }, { on := 3, ground := Ground.phase }, { on := 4, ground := Ground.phase }, { on := 5, ground := Ground.phase }, { on := 6, ground := Ground.phase }, { on := 7, ground := Ground.phase }, { on := 8, ground := Ground.phase }, { on := 9, ground := Ground.phase }, { on := 10, ground := Ground.phase }, { on := 11, ground := Ground.phase }, { on := 12, ground := Ground.phase }, { on := 13, ground := Ground.phase }, { on := 14, ground := Ground.phase }, { on := 15, ground := Ground.phase }, { on := 16, ground := Ground.phase }, { on := 17, ground := Ground.phase }], guard := none }) (v := ?_) rfl (by kernel_rfl) (by kernel_rfl) (by kernel_rfl) (fun _ _ _ h => h) (Or.inl ⟨by rfl, ?_⟩) (by assumption) ?_
          rotate_left
          · (intro w0 hSw; (try dsimp only at hSw); go_simp; (try with_reducible rfl))
          try simp only [Act.put, List.setIfInBounds_toArray, List.set_cons_zero, List.set_cons_succ]
          refine wpAnyH_done (by kernel_rfl) (NoPanic.normal ?_) _
          clear hSS16
          go_wp2_with fail
          go_ret
          exact ⟨rfl, HBW.out.trans (Z6.out.2.1.mono HBW.out.size)⟩
end Go.Proofs.YtihgefllmkicaaaDoor
