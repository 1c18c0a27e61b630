/- Plain: the walk of BigSums. Conditions: the digits lie as told; the table lies. -/
import Derived.Test.YtihgefllmkicaaaDoorBbR
namespace Go.Proofs.YtihgefllmkicaaaDoor
open Go.RowKit Bg
set_option linter.unusedVariables false
set_option linter.unusedSimpArgs false

theorem of_fresh {w : World} {p : Option Addr} {c : Nat} {l : List Int} {s : Bool} {x : Int} (a : Nm w s p c l x) (hn : l.length ≤ 10000) :
    Calls Tryd.prog 12 #[.agg #[.bool s, .slice p l.length c]] w fun e w' => ∃ t q d D, e = .returned (.agg #[.bool t, .slice q D.length d]) ∧ Dn w' t q d D x ∧ D.length ≤ 7 * l.length ∧ (∀ g o, q = some ⟨g, o, none⟩ → w.heap.size ≤ g) ∧ Below w.heap.size w w' := by
  obtain ⟨W, hW⟩ : ∃ W, W = (w.alloc (.cells #[.bool s, .slice p l.length c] 24)).alloc (.cells #[.bool false, .slice none 0 0] 28) := ⟨_, rfl⟩
  have hB : Below w.heap.size w W := by rw [hW]; exact ((Below.refl _ _).alloc (Nat.le_refl _) _).alloc (by simp) _
  have x0 : Box W w.heap.size (.bool s) (.slice p l.length c) := by rw [hW]; exact (Box.fresh _ _ _ rfl).alloc _
  have x1 : Box W (w.heap.size + 1) (.bool false) (.slice none 0 0) := by rw [hW]; exact box_fresh 28 _ _ _ (by simp)
  have hS : W.heap.size = w.heap.size + 2 := by rw [hW]; simp
  have T := Lib.hid (rfrom_at (s := s) (a.arg.below hB) a.dig hn)
  rw [a.val] at T
  have c0 := x0.c0
  have c1 := x0.c1
  have H := Lib.hid (And.intro hB (And.intro x1 hS))
  clear a hB x0 x1 hS
  go_enter Tryd.func12, Tryd.ntmps12
  go_wp2_with fail
  rw [← hW]
  clear hW
  refine T.out.mono ?_
  rintro e w1 ⟨t, q, d, D, rfl, hD, hl, hq, B1⟩
  have hx := H.out.2.1.below B1
  have k7 := hx.first (.bool t)
  have k6 := (hx.store (.bool t) (.slice q D.length d)).2
  have hf0 := hx.f0
  have hf1 := hx.f1
  have hc0 := hx.c0
  have hc1 := hx.c1
  have H1 := Lib.hid (And.intro hD (And.intro hl (And.intro hq (H.out.1.trans (B1.mono H.out.1.size)))))
  clear hD hl hq B1 hx c0 c1
  go_wp2_with fail
  refine bodyPost_ret (v := .agg #[.bool t, .slice q D.length d]) (by simp [results, Tryd.results12, go_sem, k6, k7]) rfl ⟨t, q, d, D, rfl, ⟨?_, H1.out.1.can, H1.out.1.val⟩, H1.out.2.1, ?_, ?_⟩
  · refine H1.out.1.arg.put (fun g o he hg => ?_) _ _
    rcases H1.out.2.2.1 with h | ⟨g', h, hg'⟩
    · rw [h] at he; cases he
    · rw [h] at he; cases he
      have := H.out.2.2
      omega
  · intro g o he
    rcases H1.out.2.2.1 with h | ⟨g', h, hg'⟩
    · rw [h] at he; cases he
    · rw [h] at he; cases he
      have := H.out.2.2
      omega
  · exact box_kept H1.out.2.2.2 (by omega) _ _
def Apart (b : Nat) (q : Option Addr) (D : List Int) : Prop := ∀ g o, q = some ⟨g, o, none⟩ → 0 < D.length → g ≠ b
theorem lt_of_box {w : World} {b : Nat} {x y : Value} (h : Box w b x y) : b < w.heap.size := World.block_lt_of_cell? w _ h.c0
theorem apart_old {w : World} {s : Bool} {q : Option Addr} {d : Nat} {D : List Int} {x : Int} {b : Nat} (h : Dn w s q d D x) (hb : w.heap.size ≤ b) : Apart b q D := fun g o he h0 hg => by
  obtain ⟨g', off, he2, hc⟩ := h.arg.at h0
  rw [he] at he2
  cases he2
  have := World.block_lt_of_cell? w _ (hc 0 h0)
  simp only at this
  omega
theorem apart_new {q : Option Addr} {D : List Int} {b n : Nat} (h : ∀ g o, q = some ⟨g, o, none⟩ → n ≤ g) (hb : b < n) : Apart b q D := fun g o he _ hg => by have := h g o he; omega
theorem Dn.apart {w : World} {s : Bool} {p : Option Addr} {c : Nat} {D : List Int} {x : Int} (h : Dn w s p c D x) {b : Nat} (hp : Apart b p D) (u v : Value) : Dn ((w.setCell ⟨b, 0, none⟩ u).setCell ⟨b, 1, none⟩ v) s p c D x := by
  refine ⟨⟨h.arg.nil, h.arg.le, h.arg.max, fun i hi => ?_⟩, h.can, h.val⟩
  obtain ⟨g, off, he, hc⟩ := h.arg.cell i hi
  refine ⟨g, off, he, (World.cell?_of_block (w := w) ?_).trans hc⟩
  exact (Below.heap_setCell _ _ _ _ (fun e => hp g off he (by omega) e)).trans (Below.heap_setCell _ _ _ _ (fun e => hp g off he (by omega) e))
theorem box_cell {w : World} {b : Nat} {x y : Value} (h : Box w b x y) {g : Nat} (hne : b ≠ g) (i : Nat) (v : Value) : Box (w.setCell ⟨g, i, none⟩ v) b x y := by
  have e : (w.setCell ⟨g, i, none⟩ v).heap[b]? = w.heap[b]? := Below.heap_setCell _ _ _ _ hne
  exact ⟨(World.cell?_of_block (w := w) e).trans h.c0, (World.cell?_of_block (w := w) e).trans h.c1, (World.frozen?_of_block (w := w) e).trans h.f0, (World.frozen?_of_block (w := w) e).trans h.f1⟩
theorem rcmp_zero {w : World} {p p' : Option Addr} {c c' : Nat} {l m : List Int} {s t : Bool} {x : Int} (a : Dn w s p c l x) (b : Dn w t p' c' m x) :
    Calls Tryd.prog 28 #[.agg #[.bool s, .slice p l.length c], .agg #[.bool t, .slice p' m.length c']] w fun e w' => e = .returned (.int .i64 0) ∧ Below w.heap.size w w' := by
  have := rcmp_at a b
  rw [sgn_eq] at this
  exact this

set_option maxRecDepth 100000 in
set_option maxHeartbeats 40000000 in
theorem sums_any {w : World} {p1 p2 : Option Addr} {c1 c2 : Nat} {l1 l2 : List Int} {s1 s2 : Bool} {x y : Int} (a1 : Nm w s1 p1 c1 l1 x) (a2 : Nm w s2 p2 c2 l2 y) (ht : Tab w) :
    Calls Tryd.prog 5 #[.agg #[.bool s1, .slice p1 l1.length c1], .agg #[.bool s2, .slice p2 l2.length c2]] w fun e w' => e = .returned (.bool true) ∧ Below w.heap.size w w' := by
  obtain ⟨W, hW, hB, hS, h0, h1⟩ := two_boxes w (.bool s1) (.slice p1 l1.length c1) (.bool s2) (.slice p2 l2.length c2)
  have x0 := Box.of h0
  have x1 := Box.of h1
  have m0 := x0.c0
  have m1 := x0.c1
  have m2 := x1.c0
  have m3 := x1.c1
  have HT := Lib.hid (ht.below (hB.mono (Nat.le_refl _)))
  have H0 := Lib.hid (And.intro x0 (And.intro hB (And.intro x0 (And.intro x1 (And.intro (a1.below hB) (a2.below hB))))))
  clear a1 a2 ht hB hS h0 h1 x0 x1
  go_enter Tryd.func5, Tryd.ntmps5
  by_cases hL : l1.length ≤ 60 ∧ l2.length ≤ 60
  case neg =>
    have hT : Tab W := HT.out
    by_cases h1 : l1.length ≤ 60
    · have q1 : decide ((l1.length : Int) > 60) = false := by rw [decide_eq_false_iff_not]; omega
      have q2 : decide ((l2.length : Int) > 60) = true := by rw [decide_eq_true_eq]; omega
      go_wp2_with fail
      rw [← hW]
      clear hW m0 m1 m2 m3
      refine (awake_at hT).mono ?_
      rintro e w9 ⟨rfl, B9⟩
      have hb := Lib.hid (H0.out.2.1.trans (B9.mono H0.out.2.1.size))
      clear B9
      go_wp2_with fail
      go_ret
      exact ⟨rfl, hb.out⟩
    · have q1 : decide ((l1.length : Int) > 60) = true := by rw [decide_eq_true_eq]; omega
      go_wp2_with fail
      rw [← hW]
      clear hW m0 m1 m2 m3
      refine (awake_at hT).mono ?_
      rintro e w9 ⟨rfl, B9⟩
      have hb := Lib.hid (H0.out.2.1.trans (B9.mono H0.out.2.1.size))
      clear B9
      go_wp2_with fail
      go_ret
      exact ⟨rfl, hb.out⟩
  have q1 : decide ((l1.length : Int) > 60) = false := by rw [decide_eq_false_iff_not]; omega
  have q2 : decide ((l2.length : Int) > 60) = false := by rw [decide_eq_false_iff_not]; omega
  go_wp2_with fail
  rw [← hW]
  clear hW q1 q2 m0 m1 m2 m3
  have H1 := Lib.hid (And.intro H0.out.1 (And.intro H0.out.2.1 (And.intro H0.out.2.2.1 (And.intro H0.out.2.2.2.1 (And.intro (Nu.mk (n := 60) H0.out.2.2.2.2.1 hL.1) (Nu.mk (n := 60) H0.out.2.2.2.2.2 hL.2))))))
  go_cut [5, 6] (fun u v wx => ∃ (b5 b6 : Nat) (sx sy : Bool) (qx qy : Option Addr) (dx dy : Nat) (Dx Dy : List Int), u = .pointer (some ⟨b5, 0, none⟩) ∧ v = .pointer (some ⟨b6, 0, none⟩) ∧ Hid (Box wx b5 (.bool sx) (.slice qx Dx.length dx) ∧ Box wx b6 (.bool sy) (.slice qy Dy.length dy) ∧ Dn wx sx qx dx Dx x ∧ Dn wx sy qy dy Dy y ∧ Dx.length ≤ 420 ∧ Dy.length ≤ 420 ∧ Below W.heap.size W wx))
  case first =>
    have BZ := Below.refl W.heap.size W
    have hl1 := (H1.out.2.2.2.2.1).len
    have hl2 := (H1.out.2.2.2.2.2).len
    have B11 : Below W.heap.size W W.drew := (Below.refl _ _).drew
    have BZ := BZ.trans (B11.mono BZ.size)
    have H2 := Lib.hid (And.intro (H1.out.1.below B11) (And.intro (H1.out.2.1.trans (B11.mono H1.out.2.1.size)) (And.intro (H1.out.2.2.1.below B11) (And.intro (H1.out.2.2.2.1.below B11) (And.intro (H1.out.2.2.2.2.1.below B11) (H1.out.2.2.2.2.2.below B11))))))
    clear B11
    have hSS : W.drew.cell? ⟨w.heap.size, 0, none⟩ = some (.bool s1) ∧ W.drew.cell? ⟨w.heap.size, 1, none⟩ = some (.slice p1 l1.length c1) ∧ W.drew.cell? ⟨w.heap.size + 1, 0, none⟩ = some (.bool s2) ∧ W.drew.cell? ⟨w.heap.size + 1, 1, none⟩ = some (.slice p2 l2.length c2) := And.intro ((H2.out.2.2.1).c0) (And.intro ((H2.out.2.2.1).c1) (And.intro ((H2.out.2.2.2.1).c0) ((H2.out.2.2.2.1).c1)))
    refine wp_region_noPanic ?_
    refine wp_region_held_drew (S := fun w' => w'.cell? ⟨w.heap.size, 0, none⟩ = some (.bool s1) ∧ w'.cell? ⟨w.heap.size, 1, none⟩ = some (.slice p1 l1.length c1) ∧ w'.cell? ⟨w.heap.size + 1, 0, none⟩ = some (.bool s2) ∧ w'.cell? ⟨w.heap.size + 1, 1, none⟩ = some (.slice p2 l2.length c2)) (by kernel_rfl) hSS (fun hHeld => ?_)
    obtain ⟨wd, hwd⟩ : ∃ wd, wd = W.drew := ⟨_, rfl⟩
    rw [← hwd] at hSS hHeld H2 BZ ⊢
    clear hwd
    refine wpAnyH_take (i := 0) (oi := { dst := some 23, op := Op.load 24 (Operand.tmp 2), type := 24, pos := "law.go:66", after := #[], guard := none }) (v := ?_) rfl (by kernel_rfl) (by kernel_rfl) (by kernel_rfl) (fun _ _ _ h => h) (Or.inl ⟨by rfl, ?_⟩) (by assumption) ?_
    rotate_left
    · (intro w0 hSw; (try dsimp only at hSw); go_simp; (try with_reducible rfl))
    try simp only [Act.put, List.setIfInBounds_toArray, List.set_cons_zero, List.set_cons_succ]
    refine wpAnyH_take (i := 2) (oi := { dst := some 25, op := Op.load 24 (Operand.tmp 3), type := 24, pos := "law.go:66", after := #[], guard := none }) (v := ?_) rfl (by kernel_rfl) (by kernel_rfl) (by kernel_rfl) (fun _ _ _ h => h) (Or.inl ⟨by rfl, ?_⟩) (by assumption) ?_
    rotate_left
    · (intro w0 hSw; (try dsimp only at hSw); go_simp; (try with_reducible rfl))
    try simp only [Act.put, List.setIfInBounds_toArray, List.set_cons_zero, List.set_cons_succ]
    refine wpAnyH_ready (rs := [1, 4, 5]) (by kernel_rfl) (by simp) ?_
    refine AllReadyH.cons rfl (fun K hK => ?_) (AllReadyH.cons rfl (fun K hK => ?_) (AllReadyH.cons rfl (fun K hK => ?_) AllReadyH.nil))
    · go_simp
      go_wp2_with (have hx := H2; go_at_call 12; clear hx; refine (of_fresh (H2.out.2.2.2.2.1).toNm (by omega)).mono ?_; rintro e w12 ⟨s12, p12, c12, D12, rfl, n12, z12, f12, B12⟩; have ZLx := Lib.hid z12;  skip; have BZ := BZ.trans (B12.mono BZ.size); have H3 := Lib.hid (And.intro (H2.out.1.below B12) (And.intro (H2.out.2.1.trans (B12.mono H2.out.2.1.size)) (And.intro (H2.out.2.2.1.below B12) (And.intro (H2.out.2.2.2.1.below B12) (And.intro (H2.out.2.2.2.2.1.below B12) (And.intro (H2.out.2.2.2.2.2.below B12) n12)))))); clear n12 z12 f12 B12 H2; clear hSS; have hSSrw12 := And.intro ((H3.out.2.2.1).c0) (And.intro ((H3.out.2.2.1).c1) (And.intro ((H3.out.2.2.2.1).c0) ((H3.out.2.2.2.1).c1))))
      refine hK.out _ _ ?_ (fun hHeld => ?_)
      · assumption
      clear hK K
      refine wpAnyH_ready (rs := [3, 4, 5]) (by kernel_rfl) (by simp) ?_
      refine AllReadyH.cons rfl (fun K hK => ?_) (AllReadyH.cons rfl (fun K hK => ?_) (AllReadyH.cons rfl (fun K hK => ?_) AllReadyH.nil))
      · go_simp
        go_wp2_with (have hx := H3; go_at_call 12; clear hx; refine (of_fresh (H3.out.2.2.2.2.2.1).toNm (by omega)).mono ?_; rintro e w13 ⟨s13, p13, c13, D13, rfl, n13, z13, f13, B13⟩; have ZLy := Lib.hid z13;  skip; have BZ := BZ.trans (B13.mono BZ.size); have H4 := Lib.hid (And.intro (H3.out.1.below B13) (And.intro (H3.out.2.1.trans (B13.mono H3.out.2.1.size)) (And.intro (H3.out.2.2.1.below B13) (And.intro (H3.out.2.2.2.1.below B13) (And.intro (H3.out.2.2.2.2.1.below B13) (And.intro (H3.out.2.2.2.2.2.1.below B13) (And.intro (H3.out.2.2.2.2.2.2.below B13) n13))))))); clear n13 z13 f13 B13 H3; clear hSSrw12; have hSSrw13 := And.intro ((H4.out.2.2.1).c0) (And.intro ((H4.out.2.2.1).c1) (And.intro ((H4.out.2.2.2.1).c0) ((H4.out.2.2.2.1).c1))))
        refine hK.out _ _ ?_ (fun hHeld => ?_)
        · assumption
        clear hK K
        refine wpAnyH_ready (rs := [4, 5]) (by kernel_rfl) (by simp) ?_
        refine AllReadyH.cons rfl (fun K hK => ?_) (AllReadyH.cons rfl (fun K hK => ?_) AllReadyH.nil)
        · go_simp
          have LWB5 := BZ.size
          have LTB5X1 := lt_of_box (H4.out.2.2.1)
          have LTB5X2 := lt_of_box (H4.out.2.2.2.1)
          have APxB5 := Lib.hid (apart_old (H4.out.2.2.2.2.2.2.1) (Nat.le_refl w13.heap.size))
          have APyB5 := Lib.hid (apart_old (H4.out.2.2.2.2.2.2.2) (Nat.le_refl w13.heap.size))
          obtain ⟨w14, hw14⟩ : ∃ w14, w14 = w13.alloc (.cells #[.bool false, .slice none 0 0] 28) := ⟨_, rfl⟩
          rw [← hw14]
          have B14 : Below w13.heap.size w13 w14 := by rw [hw14]; exact (Below.refl _ _).alloc (Nat.le_refl _) _
          have BZ := BZ.trans (B14.mono BZ.size)
          have N14 : Box w14 w13.heap.size (.bool false) (.slice none 0 0) := by rw [hw14]; exact box_fresh 28 _ _ _ rfl
          have H5 := Lib.hid (And.intro (H4.out.1.below B14) (And.intro (H4.out.2.1.trans (B14.mono H4.out.2.1.size)) (And.intro (H4.out.2.2.1.below B14) (And.intro (H4.out.2.2.2.1.below B14) (And.intro (H4.out.2.2.2.2.1.below B14) (And.intro (H4.out.2.2.2.2.2.1.below B14) (And.intro (H4.out.2.2.2.2.2.2.1.below B14) (And.intro (H4.out.2.2.2.2.2.2.2.below B14) N14))))))))
          clear hw14 B14 N14 H4
          clear hSSrw13
          have hSSa14 := And.intro ((H5.out.2.2.1).c0) (And.intro ((H5.out.2.2.1).c1) (And.intro ((H5.out.2.2.2.1).c0) ((H5.out.2.2.2.1).c1)))
          refine hK.out _ _ ?_ (fun hHeld => ?_)
          · assumption
          clear hK K
          refine wpAnyH_ready (rs := [5]) (by kernel_rfl) (by simp) ?_
          refine AllReadyH.cons rfl (fun K hK => ?_) AllReadyH.nil
          go_simp
          have LWB6 := BZ.size
          have LTB6X1 := lt_of_box (H5.out.2.2.1)
          have LTB6X2 := lt_of_box (H5.out.2.2.2.1)
          have LTB6B5 := lt_of_box (H5.out.2.2.2.2.2.2.2.2)
          have APxB6 := Lib.hid (apart_old (H5.out.2.2.2.2.2.2.1) (Nat.le_refl w14.heap.size))
          have APyB6 := Lib.hid (apart_old (H5.out.2.2.2.2.2.2.2.1) (Nat.le_refl w14.heap.size))
          obtain ⟨w15, hw15⟩ : ∃ w15, w15 = w14.alloc (.cells #[.bool false, .slice none 0 0] 28) := ⟨_, rfl⟩
          rw [← hw15]
          have B15 : Below w14.heap.size w14 w15 := by rw [hw15]; exact (Below.refl _ _).alloc (Nat.le_refl _) _
          have BZ := BZ.trans (B15.mono BZ.size)
          have N15 : Box w15 w14.heap.size (.bool false) (.slice none 0 0) := by rw [hw15]; exact box_fresh 28 _ _ _ rfl
          have H6 := Lib.hid (And.intro (H5.out.1.below B15) (And.intro (H5.out.2.1.trans (B15.mono H5.out.2.1.size)) (And.intro (H5.out.2.2.1.below B15) (And.intro (H5.out.2.2.2.1.below B15) (And.intro (H5.out.2.2.2.2.1.below B15) (And.intro (H5.out.2.2.2.2.2.1.below B15) (And.intro (H5.out.2.2.2.2.2.2.1.below B15) (And.intro (H5.out.2.2.2.2.2.2.2.1.below B15) (And.intro (H5.out.2.2.2.2.2.2.2.2.below B15) N15)))))))))
          clear hw15 B15 N15 H5
          clear hSSa14
          have hSSa15 := And.intro ((H6.out.2.2.1).c0) (And.intro ((H6.out.2.2.1).c1) (And.intro ((H6.out.2.2.2.1).c0) ((H6.out.2.2.2.1).c1)))
          refine hK.out _ _ ?_ (fun hHeld => ?_)
          · assumption
          clear hK K
          refine wpAnyH_ready (rs := [6]) (by kernel_rfl) (by simp) ?_
          refine AllReadyH.cons rfl (fun K hK => ?_) AllReadyH.nil
          have H7 := Lib.hid (And.intro H6.out.1 (And.intro H6.out.2.1 (And.intro H6.out.2.2.1 (And.intro H6.out.2.2.2.1 (And.intro H6.out.2.2.2.2.2.2.1 (And.intro H6.out.2.2.2.2.2.2.2.1 (And.intro H6.out.2.2.2.2.2.2.2.2.1 H6.out.2.2.2.2.2.2.2.2.2)))))))
          have hf0 := (H7.out.2.2.2.2.2.2.1).f0
          have hf1 := (H7.out.2.2.2.2.2.2.1).f1
          have hc0 := (H7.out.2.2.2.2.2.2.1).c0
          have hc1 := (H7.out.2.2.2.2.2.2.1).c1
          go_simp
          clear hf0 hf1 hc0 hc1
          obtain ⟨w16, hw16⟩ : ∃ w16, w16 = (w15.setCell ⟨w13.heap.size, 0, none⟩ (.bool s12)).setCell ⟨w13.heap.size, 1, none⟩ (.slice p12 D12.length c12) := ⟨_, rfl⟩
          rw [← hw16]
          have M16z : Box w16 (w.heap.size) (.bool s1) (.slice p1 l1.length c1) := by rw [hw16]; exact (H7.out.1).far (by omega) _ _
          have M16b : Below w.heap.size w w16 := by rw [hw16]; exact box_kept (H7.out.2.1) (by omega) _ _
          have M16X1 : Box w16 (w.heap.size) (.bool s1) (.slice p1 l1.length c1) := by rw [hw16]; exact (H7.out.2.2.1).far (by omega) _ _
          have M16X2 : Box w16 (w.heap.size + 1) (.bool s2) (.slice p2 l2.length c2) := by rw [hw16]; exact (H7.out.2.2.2.1).far (by omega) _ _
          have M16x : Dn w16 s12 p12 c12 D12 x := by rw [hw16]; exact (H7.out.2.2.2.2.1).apart APxB5.out _ _
          have M16y : Dn w16 s13 p13 c13 D13 y := by rw [hw16]; exact (H7.out.2.2.2.2.2.1).apart APyB5.out _ _
          have M16B5 : Box w16 (w13.heap.size) (.bool s12) (.slice p12 D12.length c12) := by rw [hw16]; exact (H7.out.2.2.2.2.2.2.1).put _ _
          have M16B6 : Box w16 (w14.heap.size) (.bool false) (.slice none 0 0) := by rw [hw16]; exact (H7.out.2.2.2.2.2.2.2).far (by omega) _ _
          have BZ : Below W.heap.size W w16 := by rw [hw16]; exact box_kept BZ (by omega) _ _
          have H8 := Lib.hid (And.intro M16z (And.intro M16b (And.intro M16X1 (And.intro M16X2 (And.intro M16x (And.intro M16y (And.intro M16B5 M16B6)))))))
          clear M16z M16b M16X1 M16X2 M16x M16y M16B5 M16B6 hw16 H7
          clear hSSa15
          have hSSb16 := And.intro ((H8.out.2.2.1).c0) (And.intro ((H8.out.2.2.1).c1) (And.intro ((H8.out.2.2.2.1).c0) ((H8.out.2.2.2.1).c1)))
          refine hK.out _ _ ?_ (fun hHeld => ?_)
          · assumption
          clear hK K
          refine wpAnyH_ready (rs := [7]) (by kernel_rfl) (by simp) ?_
          refine AllReadyH.cons rfl (fun K hK => ?_) AllReadyH.nil
          have hf0 := (H8.out.2.2.2.2.2.2.2).f0
          have hf1 := (H8.out.2.2.2.2.2.2.2).f1
          have hc0 := (H8.out.2.2.2.2.2.2.2).c0
          have hc1 := (H8.out.2.2.2.2.2.2.2).c1
          go_simp
          clear hf0 hf1 hc0 hc1
          obtain ⟨w17, hw17⟩ : ∃ w17, w17 = (w16.setCell ⟨w14.heap.size, 0, none⟩ (.bool s13)).setCell ⟨w14.heap.size, 1, none⟩ (.slice p13 D13.length c13) := ⟨_, rfl⟩
          rw [← hw17]
          have M17z : Box w17 (w.heap.size) (.bool s1) (.slice p1 l1.length c1) := by rw [hw17]; exact (H8.out.1).far (by omega) _ _
          have M17b : Below w.heap.size w w17 := by rw [hw17]; exact box_kept (H8.out.2.1) (by omega) _ _
          have M17X1 : Box w17 (w.heap.size) (.bool s1) (.slice p1 l1.length c1) := by rw [hw17]; exact (H8.out.2.2.1).far (by omega) _ _
          have M17X2 : Box w17 (w.heap.size + 1) (.bool s2) (.slice p2 l2.length c2) := by rw [hw17]; exact (H8.out.2.2.2.1).far (by omega) _ _
          have M17x : Dn w17 s12 p12 c12 D12 x := by rw [hw17]; exact (H8.out.2.2.2.2.1).apart APxB6.out _ _
          have M17y : Dn w17 s13 p13 c13 D13 y := by rw [hw17]; exact (H8.out.2.2.2.2.2.1).apart APyB6.out _ _
          have M17B5 : Box w17 (w13.heap.size) (.bool s12) (.slice p12 D12.length c12) := by rw [hw17]; exact (H8.out.2.2.2.2.2.2.1).far (by omega) _ _
          have M17B6 : Box w17 (w14.heap.size) (.bool s13) (.slice p13 D13.length c13) := by rw [hw17]; exact (H8.out.2.2.2.2.2.2.2).put _ _
          have BZ : Below W.heap.size W w17 := by rw [hw17]; exact box_kept BZ (by omega) _ _
          have H9 := Lib.hid (And.intro M17z (And.intro M17b (And.intro M17X1 (And.intro M17X2 (And.intro M17x (And.intro M17y (And.intro M17B5 M17B6)))))))
          clear M17z M17b M17X1 M17X2 M17x M17y M17B5 M17B6 hw17 H8
          clear hSSb16
          have hSSb17 := And.intro ((H9.out.2.2.1).c0) (And.intro ((H9.out.2.2.1).c1) (And.intro ((H9.out.2.2.2.1).c0) ((H9.out.2.2.2.1).c1)))
          refine hK.out _ _ ?_ (fun hHeld => ?_)
          · assumption
          clear hK K
          refine wpAnyH_done (by kernel_rfl) (NoPanic.normal ?_) _
          clear hSSb17
          go_wp2_with fail
          go_meet
          exact ⟨_, _, s12, s13, p12, p13, c12, c13, D12, D13, rfl, rfl, H9.out.2.2.2.2.2.2.1, H9.out.2.2.2.2.2.2.2, H9.out.2.2.2.2.1, H9.out.2.2.2.2.2.1, by have := ZLx.out; omega, by have := ZLy.out; omega, BZ⟩
        · go_simp
          have LWB6 := BZ.size
          have LTB6X1 := lt_of_box (H4.out.2.2.1)
          have LTB6X2 := lt_of_box (H4.out.2.2.2.1)
          have APxB6 := Lib.hid (apart_old (H4.out.2.2.2.2.2.2.1) (Nat.le_refl w13.heap.size))
          have APyB6 := Lib.hid (apart_old (H4.out.2.2.2.2.2.2.2) (Nat.le_refl w13.heap.size))
          obtain ⟨w14, hw14⟩ : ∃ w14, w14 = w13.alloc (.cells #[.bool false, .slice none 0 0] 28) := ⟨_, rfl⟩
          rw [← hw14]
          have B14 : Below w13.heap.size w13 w14 := by rw [hw14]; exact (Below.refl _ _).alloc (Nat.le_refl _) _
          have BZ := BZ.trans (B14.mono BZ.size)
          have N14 : Box w14 w13.heap.size (.bool false) (.slice none 0 0) := by rw [hw14]; exact box_fresh 28 _ _ _ rfl
          have H5 := Lib.hid (And.intro (H4.out.1.below B14) (And.intro (H4.out.2.1.trans (B14.mono H4.out.2.1.size)) (And.intro (H4.out.2.2.1.below B14) (And.intro (H4.out.2.2.2.1.below B14) (And.intro (H4.out.2.2.2.2.1.below B14) (And.intro (H4.out.2.2.2.2.2.1.below B14) (And.intro (H4.out.2.2.2.2.2.2.1.below B14) (And.intro (H4.out.2.2.2.2.2.2.2.below B14) N14))))))))
          clear hw14 B14 N14 H4
          clear hSSrw13
          have hSSa14 := And.intro ((H5.out.2.2.1).c0) (And.intro ((H5.out.2.2.1).c1) (And.intro ((H5.out.2.2.2.1).c0) ((H5.out.2.2.2.1).c1)))
          refine hK.out _ _ ?_ (fun hHeld => ?_)
          · assumption
          clear hK K
          refine wpAnyH_ready (rs := [4]) (by kernel_rfl) (by simp) ?_
          refine AllReadyH.cons rfl (fun K hK => ?_) AllReadyH.nil
          go_simp
          have LWB5 := BZ.size
          have LTB5X1 := lt_of_box (H5.out.2.2.1)
          have LTB5X2 := lt_of_box (H5.out.2.2.2.1)
          have LTB5B6 := lt_of_box (H5.out.2.2.2.2.2.2.2.2)
          have APxB5 := Lib.hid (apart_old (H5.out.2.2.2.2.2.2.1) (Nat.le_refl w14.heap.size))
          have APyB5 := Lib.hid (apart_old (H5.out.2.2.2.2.2.2.2.1) (Nat.le_refl w14.heap.size))
          obtain ⟨w15, hw15⟩ : ∃ w15, w15 = w14.alloc (.cells #[.bool false, .slice none 0 0] 28) := ⟨_, rfl⟩
          rw [← hw15]
          have B15 : Below w14.heap.size w14 w15 := by rw [hw15]; exact (Below.refl _ _).alloc (Nat.le_refl _) _
          have BZ := BZ.trans (B15.mono BZ.size)
          have N15 : Box w15 w14.heap.size (.bool false) (.slice none 0 0) := by rw [hw15]; exact box_fresh 28 _ _ _ rfl
          have H6 := Lib.hid (And.intro (H5.out.1.below B15) (And.intro (H5.out.2.1.trans (B15.mono H5.out.2.1.size)) (And.intro (H5.out.2.2.1.below B15) (And.intro (H5.out.2.2.2.1.below B15) (And.intro (H5.out.2.2.2.2.1.below B15) (And.intro (H5.out.2.2.2.2.2.1.below B15) (And.intro (H5.out.2.2.2.2.2.2.1.below B15) (And.intro (H5.out.2.2.2.2.2.2.2.1.below B15) (And.intro (H5.out.2.2.2.2.2.2.2.2.below B15) N15)))))))))
          clear hw15 B15 N15 H5
          clear hSSa14
          have hSSa15 := And.intro ((H6.out.2.2.1).c0) (And.intro ((H6.out.2.2.1).c1) (And.intro ((H6.out.2.2.2.1).c0) ((H6.out.2.2.2.1).c1)))
          refine hK.out _ _ ?_ (fun hHeld => ?_)
          · assumption
          clear hK K
          refine wpAnyH_ready (rs := [6]) (by kernel_rfl) (by simp) ?_
          refine AllReadyH.cons rfl (fun K hK => ?_) AllReadyH.nil
          have H7 := Lib.hid (And.intro H6.out.1 (And.intro H6.out.2.1 (And.intro H6.out.2.2.1 (And.intro H6.out.2.2.2.1 (And.intro H6.out.2.2.2.2.2.2.1 (And.intro H6.out.2.2.2.2.2.2.2.1 (And.intro H6.out.2.2.2.2.2.2.2.2.1 H6.out.2.2.2.2.2.2.2.2.2)))))))
          have hf0 := (H7.out.2.2.2.2.2.2.2).f0
          have hf1 := (H7.out.2.2.2.2.2.2.2).f1
          have hc0 := (H7.out.2.2.2.2.2.2.2).c0
          have hc1 := (H7.out.2.2.2.2.2.2.2).c1
          go_simp
          clear hf0 hf1 hc0 hc1
          obtain ⟨w16, hw16⟩ : ∃ w16, w16 = (w15.setCell ⟨w14.heap.size, 0, none⟩ (.bool s12)).setCell ⟨w14.heap.size, 1, none⟩ (.slice p12 D12.length c12) := ⟨_, rfl⟩
          rw [← hw16]
          have M16z : Box w16 (w.heap.size) (.bool s1) (.slice p1 l1.length c1) := by rw [hw16]; exact (H7.out.1).far (by omega) _ _
          have M16b : Below w.heap.size w w16 := by rw [hw16]; exact box_kept (H7.out.2.1) (by omega) _ _
          have M16X1 : Box w16 (w.heap.size) (.bool s1) (.slice p1 l1.length c1) := by rw [hw16]; exact (H7.out.2.2.1).far (by omega) _ _
          have M16X2 : Box w16 (w.heap.size + 1) (.bool s2) (.slice p2 l2.length c2) := by rw [hw16]; exact (H7.out.2.2.2.1).far (by omega) _ _
          have M16x : Dn w16 s12 p12 c12 D12 x := by rw [hw16]; exact (H7.out.2.2.2.2.1).apart APxB5.out _ _
          have M16y : Dn w16 s13 p13 c13 D13 y := by rw [hw16]; exact (H7.out.2.2.2.2.2.1).apart APyB5.out _ _
          have M16B6 : Box w16 (w13.heap.size) (.bool false) (.slice none 0 0) := by rw [hw16]; exact (H7.out.2.2.2.2.2.2.1).far (by omega) _ _
          have M16B5 : Box w16 (w14.heap.size) (.bool s12) (.slice p12 D12.length c12) := by rw [hw16]; exact (H7.out.2.2.2.2.2.2.2).put _ _
          have BZ : Below W.heap.size W w16 := by rw [hw16]; exact box_kept BZ (by omega) _ _
          have H8 := Lib.hid (And.intro M16z (And.intro M16b (And.intro M16X1 (And.intro M16X2 (And.intro M16x (And.intro M16y (And.intro M16B6 M16B5)))))))
          clear M16z M16b M16X1 M16X2 M16x M16y M16B6 M16B5 hw16 H7
          clear hSSa15
          have hSSb16 := And.intro ((H8.out.2.2.1).c0) (And.intro ((H8.out.2.2.1).c1) (And.intro ((H8.out.2.2.2.1).c0) ((H8.out.2.2.2.1).c1)))
          refine hK.out _ _ ?_ (fun hHeld => ?_)
          · assumption
          clear hK K
          refine wpAnyH_ready (rs := [7]) (by kernel_rfl) (by simp) ?_
          refine AllReadyH.cons rfl (fun K hK => ?_) AllReadyH.nil
          have hf0 := (H8.out.2.2.2.2.2.2.1).f0
          have hf1 := (H8.out.2.2.2.2.2.2.1).f1
          have hc0 := (H8.out.2.2.2.2.2.2.1).c0
          have hc1 := (H8.out.2.2.2.2.2.2.1).c1
          go_simp
          clear hf0 hf1 hc0 hc1
          obtain ⟨w17, hw17⟩ : ∃ w17, w17 = (w16.setCell ⟨w13.heap.size, 0, none⟩ (.bool s13)).setCell ⟨w13.heap.size, 1, none⟩ (.slice p13 D13.length c13) := ⟨_, rfl⟩
          rw [← hw17]
          have M17z : Box w17 (w.heap.size) (.bool s1) (.slice p1 l1.length c1) := by rw [hw17]; exact (H8.out.1).far (by omega) _ _
          have M17b : Below w.heap.size w w17 := by rw [hw17]; exact box_kept (H8.out.2.1) (by omega) _ _
          have M17X1 : Box w17 (w.heap.size) (.bool s1) (.slice p1 l1.length c1) := by rw [hw17]; exact (H8.out.2.2.1).far (by omega) _ _
          have M17X2 : Box w17 (w.heap.size + 1) (.bool s2) (.slice p2 l2.length c2) := by rw [hw17]; exact (H8.out.2.2.2.1).far (by omega) _ _
          have M17x : Dn w17 s12 p12 c12 D12 x := by rw [hw17]; exact (H8.out.2.2.2.2.1).apart APxB6.out _ _
          have M17y : Dn w17 s13 p13 c13 D13 y := by rw [hw17]; exact (H8.out.2.2.2.2.2.1).apart APyB6.out _ _
          have M17B6 : Box w17 (w13.heap.size) (.bool s13) (.slice p13 D13.length c13) := by rw [hw17]; exact (H8.out.2.2.2.2.2.2.1).put _ _
          have M17B5 : Box w17 (w14.heap.size) (.bool s12) (.slice p12 D12.length c12) := by rw [hw17]; exact (H8.out.2.2.2.2.2.2.2).far (by omega) _ _
          have BZ : Below W.heap.size W w17 := by rw [hw17]; exact box_kept BZ (by omega) _ _
          have H9 := Lib.hid (And.intro M17z (And.intro M17b (And.intro M17X1 (And.intro M17X2 (And.intro M17x (And.intro M17y (And.intro M17B6 M17B5)))))))
          clear M17z M17b M17X1 M17X2 M17x M17y M17B6 M17B5 hw17 H8
          clear hSSb16
          have hSSb17 := And.intro ((H9.out.2.2.1).c0) (And.intro ((H9.out.2.2.1).c1) (And.intro ((H9.out.2.2.2.1).c0) ((H9.out.2.2.2.1).c1)))
          refine hK.out _ _ ?_ (fun hHeld => ?_)
          · assumption
          clear hK K
          refine wpAnyH_done (by kernel_rfl) (NoPanic.normal ?_) _
          clear hSSb17
          go_wp2_with fail
          go_meet
          exact ⟨_, _, s12, s13, p12, p13, c12, c13, D12, D13, rfl, rfl, H9.out.2.2.2.2.2.2.2, H9.out.2.2.2.2.2.2.1, H9.out.2.2.2.2.1, H9.out.2.2.2.2.2.1, by have := ZLx.out; omega, by have := ZLy.out; omega, BZ⟩
      · go_simp
        have LWB5 := BZ.size
        have LTB5X1 := lt_of_box (H3.out.2.2.1)
        have LTB5X2 := lt_of_box (H3.out.2.2.2.1)
        have APxB5 := Lib.hid (apart_old (H3.out.2.2.2.2.2.2) (Nat.le_refl w12.heap.size))
        obtain ⟨w13, hw13⟩ : ∃ w13, w13 = w12.alloc (.cells #[.bool false, .slice none 0 0] 28) := ⟨_, rfl⟩
        rw [← hw13]
        have B13 : Below w12.heap.size w12 w13 := by rw [hw13]; exact (Below.refl _ _).alloc (Nat.le_refl _) _
        have BZ := BZ.trans (B13.mono BZ.size)
        have N13 : Box w13 w12.heap.size (.bool false) (.slice none 0 0) := by rw [hw13]; exact box_fresh 28 _ _ _ rfl
        have H4 := Lib.hid (And.intro (H3.out.1.below B13) (And.intro (H3.out.2.1.trans (B13.mono H3.out.2.1.size)) (And.intro (H3.out.2.2.1.below B13) (And.intro (H3.out.2.2.2.1.below B13) (And.intro (H3.out.2.2.2.2.1.below B13) (And.intro (H3.out.2.2.2.2.2.1.below B13) (And.intro (H3.out.2.2.2.2.2.2.below B13) N13)))))))
        clear hw13 B13 N13 H3
        clear hSSrw12
        have hSSa13 := And.intro ((H4.out.2.2.1).c0) (And.intro ((H4.out.2.2.1).c1) (And.intro ((H4.out.2.2.2.1).c0) ((H4.out.2.2.2.1).c1)))
        refine hK.out _ _ ?_ (fun hHeld => ?_)
        · assumption
        clear hK K
        refine wpAnyH_ready (rs := [3, 5]) (by kernel_rfl) (by simp) ?_
        refine AllReadyH.cons rfl (fun K hK => ?_) (AllReadyH.cons rfl (fun K hK => ?_) AllReadyH.nil)
        · go_simp
          go_wp2_with (have hx := H4; go_at_call 12; clear hx; refine (of_fresh (H4.out.2.2.2.2.2.1).toNm (by omega)).mono ?_; rintro e w14 ⟨s14, p14, c14, D14, rfl, n14, z14, f14, B14⟩; have ZLy := Lib.hid z14; have Q14B5 := lt_of_box (H4.out.2.2.2.2.2.2.2); have APyB5 := Lib.hid (apart_new (D := D14) f14 Q14B5); clear Q14B5;  skip; have BZ := BZ.trans (B14.mono BZ.size); have H5 := Lib.hid (And.intro (H4.out.1.below B14) (And.intro (H4.out.2.1.trans (B14.mono H4.out.2.1.size)) (And.intro (H4.out.2.2.1.below B14) (And.intro (H4.out.2.2.2.1.below B14) (And.intro (H4.out.2.2.2.2.1.below B14) (And.intro (H4.out.2.2.2.2.2.1.below B14) (And.intro (H4.out.2.2.2.2.2.2.1.below B14) (And.intro (H4.out.2.2.2.2.2.2.2.below B14) n14)))))))); clear n14 z14 f14 B14 H4; clear hSSa13; have hSSrw14 := And.intro ((H5.out.2.2.1).c0) (And.intro ((H5.out.2.2.1).c1) (And.intro ((H5.out.2.2.2.1).c0) ((H5.out.2.2.2.1).c1))))
          refine hK.out _ _ ?_ (fun hHeld => ?_)
          · assumption
          clear hK K
          refine wpAnyH_ready (rs := [5]) (by kernel_rfl) (by simp) ?_
          refine AllReadyH.cons rfl (fun K hK => ?_) AllReadyH.nil
          go_simp
          have LWB6 := BZ.size
          have LTB6X1 := lt_of_box (H5.out.2.2.1)
          have LTB6X2 := lt_of_box (H5.out.2.2.2.1)
          have LTB6B5 := lt_of_box (H5.out.2.2.2.2.2.2.2.1)
          have APxB6 := Lib.hid (apart_old (H5.out.2.2.2.2.2.2.1) (Nat.le_refl w14.heap.size))
          have APyB6 := Lib.hid (apart_old (H5.out.2.2.2.2.2.2.2.2) (Nat.le_refl w14.heap.size))
          obtain ⟨w15, hw15⟩ : ∃ w15, w15 = w14.alloc (.cells #[.bool false, .slice none 0 0] 28) := ⟨_, rfl⟩
          rw [← hw15]
          have B15 : Below w14.heap.size w14 w15 := by rw [hw15]; exact (Below.refl _ _).alloc (Nat.le_refl _) _
          have BZ := BZ.trans (B15.mono BZ.size)
          have N15 : Box w15 w14.heap.size (.bool false) (.slice none 0 0) := by rw [hw15]; exact box_fresh 28 _ _ _ rfl
          have H6 := Lib.hid (And.intro (H5.out.1.below B15) (And.intro (H5.out.2.1.trans (B15.mono H5.out.2.1.size)) (And.intro (H5.out.2.2.1.below B15) (And.intro (H5.out.2.2.2.1.below B15) (And.intro (H5.out.2.2.2.2.1.below B15) (And.intro (H5.out.2.2.2.2.2.1.below B15) (And.intro (H5.out.2.2.2.2.2.2.1.below B15) (And.intro (H5.out.2.2.2.2.2.2.2.1.below B15) (And.intro (H5.out.2.2.2.2.2.2.2.2.below B15) N15)))))))))
          clear hw15 B15 N15 H5
          clear hSSrw14
          have hSSa15 := And.intro ((H6.out.2.2.1).c0) (And.intro ((H6.out.2.2.1).c1) (And.intro ((H6.out.2.2.2.1).c0) ((H6.out.2.2.2.1).c1)))
          refine hK.out _ _ ?_ (fun hHeld => ?_)
          · assumption
          clear hK K
          refine wpAnyH_ready (rs := [6]) (by kernel_rfl) (by simp) ?_
          refine AllReadyH.cons rfl (fun K hK => ?_) AllReadyH.nil
          have H7 := Lib.hid (And.intro H6.out.1 (And.intro H6.out.2.1 (And.intro H6.out.2.2.1 (And.intro H6.out.2.2.2.1 (And.intro H6.out.2.2.2.2.2.2.1 (And.intro H6.out.2.2.2.2.2.2.2.1 (And.intro H6.out.2.2.2.2.2.2.2.2.1 H6.out.2.2.2.2.2.2.2.2.2)))))))
          have hf0 := (H7.out.2.2.2.2.2.1).f0
          have hf1 := (H7.out.2.2.2.2.2.1).f1
          have hc0 := (H7.out.2.2.2.2.2.1).c0
          have hc1 := (H7.out.2.2.2.2.2.1).c1
          go_simp
          clear hf0 hf1 hc0 hc1
          obtain ⟨w16, hw16⟩ : ∃ w16, w16 = (w15.setCell ⟨w12.heap.size, 0, none⟩ (.bool s12)).setCell ⟨w12.heap.size, 1, none⟩ (.slice p12 D12.length c12) := ⟨_, rfl⟩
          rw [← hw16]
          have M16z : Box w16 (w.heap.size) (.bool s1) (.slice p1 l1.length c1) := by rw [hw16]; exact (H7.out.1).far (by omega) _ _
          have M16b : Below w.heap.size w w16 := by rw [hw16]; exact box_kept (H7.out.2.1) (by omega) _ _
          have M16X1 : Box w16 (w.heap.size) (.bool s1) (.slice p1 l1.length c1) := by rw [hw16]; exact (H7.out.2.2.1).far (by omega) _ _
          have M16X2 : Box w16 (w.heap.size + 1) (.bool s2) (.slice p2 l2.length c2) := by rw [hw16]; exact (H7.out.2.2.2.1).far (by omega) _ _
          have M16x : Dn w16 s12 p12 c12 D12 x := by rw [hw16]; exact (H7.out.2.2.2.2.1).apart APxB5.out _ _
          have M16B5 : Box w16 (w12.heap.size) (.bool s12) (.slice p12 D12.length c12) := by rw [hw16]; exact (H7.out.2.2.2.2.2.1).put _ _
          have M16y : Dn w16 s14 p14 c14 D14 y := by rw [hw16]; exact (H7.out.2.2.2.2.2.2.1).apart APyB5.out _ _
          have M16B6 : Box w16 (w14.heap.size) (.bool false) (.slice none 0 0) := by rw [hw16]; exact (H7.out.2.2.2.2.2.2.2).far (by omega) _ _
          have BZ : Below W.heap.size W w16 := by rw [hw16]; exact box_kept BZ (by omega) _ _
          have H8 := Lib.hid (And.intro M16z (And.intro M16b (And.intro M16X1 (And.intro M16X2 (And.intro M16x (And.intro M16B5 (And.intro M16y M16B6)))))))
          clear M16z M16b M16X1 M16X2 M16x M16B5 M16y M16B6 hw16 H7
          clear hSSa15
          have hSSb16 := And.intro ((H8.out.2.2.1).c0) (And.intro ((H8.out.2.2.1).c1) (And.intro ((H8.out.2.2.2.1).c0) ((H8.out.2.2.2.1).c1)))
          refine hK.out _ _ ?_ (fun hHeld => ?_)
          · assumption
          clear hK K
          refine wpAnyH_ready (rs := [7]) (by kernel_rfl) (by simp) ?_
          refine AllReadyH.cons rfl (fun K hK => ?_) AllReadyH.nil
          have hf0 := (H8.out.2.2.2.2.2.2.2).f0
          have hf1 := (H8.out.2.2.2.2.2.2.2).f1
          have hc0 := (H8.out.2.2.2.2.2.2.2).c0
          have hc1 := (H8.out.2.2.2.2.2.2.2).c1
          go_simp
          clear hf0 hf1 hc0 hc1
          obtain ⟨w17, hw17⟩ : ∃ w17, w17 = (w16.setCell ⟨w14.heap.size, 0, none⟩ (.bool s14)).setCell ⟨w14.heap.size, 1, none⟩ (.slice p14 D14.length c14) := ⟨_, rfl⟩
          rw [← hw17]
          have M17z : Box w17 (w.heap.size) (.bool s1) (.slice p1 l1.length c1) := by rw [hw17]; exact (H8.out.1).far (by omega) _ _
          have M17b : Below w.heap.size w w17 := by rw [hw17]; exact box_kept (H8.out.2.1) (by omega) _ _
          have M17X1 : Box w17 (w.heap.size) (.bool s1) (.slice p1 l1.length c1) := by rw [hw17]; exact (H8.out.2.2.1).far (by omega) _ _
          have M17X2 : Box w17 (w.heap.size + 1) (.bool s2) (.slice p2 l2.length c2) := by rw [hw17]; exact (H8.out.2.2.2.1).far (by omega) _ _
          have M17x : Dn w17 s12 p12 c12 D12 x := by rw [hw17]; exact (H8.out.2.2.2.2.1).apart APxB6.out _ _
          have M17B5 : Box w17 (w12.heap.size) (.bool s12) (.slice p12 D12.length c12) := by rw [hw17]; exact (H8.out.2.2.2.2.2.1).far (by omega) _ _
          have M17y : Dn w17 s14 p14 c14 D14 y := by rw [hw17]; exact (H8.out.2.2.2.2.2.2.1).apart APyB6.out _ _
          have M17B6 : Box w17 (w14.heap.size) (.bool s14) (.slice p14 D14.length c14) := by rw [hw17]; exact (H8.out.2.2.2.2.2.2.2).put _ _
          have BZ : Below W.heap.size W w17 := by rw [hw17]; exact box_kept BZ (by omega) _ _
          have H9 := Lib.hid (And.intro M17z (And.intro M17b (And.intro M17X1 (And.intro M17X2 (And.intro M17x (And.intro M17B5 (And.intro M17y M17B6)))))))
          clear M17z M17b M17X1 M17X2 M17x M17B5 M17y M17B6 hw17 H8
          clear hSSb16
          have hSSb17 := And.intro ((H9.out.2.2.1).c0) (And.intro ((H9.out.2.2.1).c1) (And.intro ((H9.out.2.2.2.1).c0) ((H9.out.2.2.2.1).c1)))
          refine hK.out _ _ ?_ (fun hHeld => ?_)
          · assumption
          clear hK K
          refine wpAnyH_done (by kernel_rfl) (NoPanic.normal ?_) _
          clear hSSb17
          go_wp2_with fail
          go_meet
          exact ⟨_, _, s12, s14, p12, p14, c12, c14, D12, D14, rfl, rfl, H9.out.2.2.2.2.2.1, H9.out.2.2.2.2.2.2.2, H9.out.2.2.2.2.1, H9.out.2.2.2.2.2.2.1, by have := ZLx.out; omega, by have := ZLy.out; omega, BZ⟩
        · go_simp
          have LWB6 := BZ.size
          have LTB6X1 := lt_of_box (H4.out.2.2.1)
          have LTB6X2 := lt_of_box (H4.out.2.2.2.1)
          have LTB6B5 := lt_of_box (H4.out.2.2.2.2.2.2.2)
          have APxB6 := Lib.hid (apart_old (H4.out.2.2.2.2.2.2.1) (Nat.le_refl w13.heap.size))
          obtain ⟨w14, hw14⟩ : ∃ w14, w14 = w13.alloc (.cells #[.bool false, .slice none 0 0] 28) := ⟨_, rfl⟩
          rw [← hw14]
          have B14 : Below w13.heap.size w13 w14 := by rw [hw14]; exact (Below.refl _ _).alloc (Nat.le_refl _) _
          have BZ := BZ.trans (B14.mono BZ.size)
          have N14 : Box w14 w13.heap.size (.bool false) (.slice none 0 0) := by rw [hw14]; exact box_fresh 28 _ _ _ rfl
          have H5 := Lib.hid (And.intro (H4.out.1.below B14) (And.intro (H4.out.2.1.trans (B14.mono H4.out.2.1.size)) (And.intro (H4.out.2.2.1.below B14) (And.intro (H4.out.2.2.2.1.below B14) (And.intro (H4.out.2.2.2.2.1.below B14) (And.intro (H4.out.2.2.2.2.2.1.below B14) (And.intro (H4.out.2.2.2.2.2.2.1.below B14) (And.intro (H4.out.2.2.2.2.2.2.2.below B14) N14))))))))
          clear hw14 B14 N14 H4
          clear hSSa13
          have hSSa14 := And.intro ((H5.out.2.2.1).c0) (And.intro ((H5.out.2.2.1).c1) (And.intro ((H5.out.2.2.2.1).c0) ((H5.out.2.2.2.1).c1)))
          refine hK.out _ _ ?_ (fun hHeld => ?_)
          · assumption
          clear hK K
          refine wpAnyH_ready (rs := [3]) (by kernel_rfl) (by simp) ?_
          refine AllReadyH.cons rfl (fun K hK => ?_) AllReadyH.nil
          go_simp
          go_wp2_with (have hx := H5; go_at_call 12; clear hx; refine (of_fresh (H5.out.2.2.2.2.2.1).toNm (by omega)).mono ?_; rintro e w15 ⟨s15, p15, c15, D15, rfl, n15, z15, f15, B15⟩; have ZLy := Lib.hid z15; have Q15B5 := lt_of_box (H5.out.2.2.2.2.2.2.2.1); have Q15B6 := lt_of_box (H5.out.2.2.2.2.2.2.2.2); have APyB5 := Lib.hid (apart_new (D := D15) f15 Q15B5); clear Q15B5; have APyB6 := Lib.hid (apart_new (D := D15) f15 Q15B6); clear Q15B6;  skip; have BZ := BZ.trans (B15.mono BZ.size); have H6 := Lib.hid (And.intro (H5.out.1.below B15) (And.intro (H5.out.2.1.trans (B15.mono H5.out.2.1.size)) (And.intro (H5.out.2.2.1.below B15) (And.intro (H5.out.2.2.2.1.below B15) (And.intro (H5.out.2.2.2.2.1.below B15) (And.intro (H5.out.2.2.2.2.2.1.below B15) (And.intro (H5.out.2.2.2.2.2.2.1.below B15) (And.intro (H5.out.2.2.2.2.2.2.2.1.below B15) (And.intro (H5.out.2.2.2.2.2.2.2.2.below B15) n15))))))))); clear n15 z15 f15 B15 H5; clear hSSa14; have hSSrw15 := And.intro ((H6.out.2.2.1).c0) (And.intro ((H6.out.2.2.1).c1) (And.intro ((H6.out.2.2.2.1).c0) ((H6.out.2.2.2.1).c1))))
          refine hK.out _ _ ?_ (fun hHeld => ?_)
          · assumption
          clear hK K
          refine wpAnyH_ready (rs := [6]) (by kernel_rfl) (by simp) ?_
          refine AllReadyH.cons rfl (fun K hK => ?_) AllReadyH.nil
          have H7 := Lib.hid (And.intro H6.out.1 (And.intro H6.out.2.1 (And.intro H6.out.2.2.1 (And.intro H6.out.2.2.2.1 (And.intro H6.out.2.2.2.2.2.2.1 (And.intro H6.out.2.2.2.2.2.2.2.1 (And.intro H6.out.2.2.2.2.2.2.2.2.1 H6.out.2.2.2.2.2.2.2.2.2)))))))
          have hf0 := (H7.out.2.2.2.2.2.1).f0
          have hf1 := (H7.out.2.2.2.2.2.1).f1
          have hc0 := (H7.out.2.2.2.2.2.1).c0
          have hc1 := (H7.out.2.2.2.2.2.1).c1
          go_simp
          clear hf0 hf1 hc0 hc1
          obtain ⟨w16, hw16⟩ : ∃ w16, w16 = (w15.setCell ⟨w12.heap.size, 0, none⟩ (.bool s12)).setCell ⟨w12.heap.size, 1, none⟩ (.slice p12 D12.length c12) := ⟨_, rfl⟩
          rw [← hw16]
          have M16z : Box w16 (w.heap.size) (.bool s1) (.slice p1 l1.length c1) := by rw [hw16]; exact (H7.out.1).far (by omega) _ _
          have M16b : Below w.heap.size w w16 := by rw [hw16]; exact box_kept (H7.out.2.1) (by omega) _ _
          have M16X1 : Box w16 (w.heap.size) (.bool s1) (.slice p1 l1.length c1) := by rw [hw16]; exact (H7.out.2.2.1).far (by omega) _ _
          have M16X2 : Box w16 (w.heap.size + 1) (.bool s2) (.slice p2 l2.length c2) := by rw [hw16]; exact (H7.out.2.2.2.1).far (by omega) _ _
          have M16x : Dn w16 s12 p12 c12 D12 x := by rw [hw16]; exact (H7.out.2.2.2.2.1).apart APxB5.out _ _
          have M16B5 : Box w16 (w12.heap.size) (.bool s12) (.slice p12 D12.length c12) := by rw [hw16]; exact (H7.out.2.2.2.2.2.1).put _ _
          have M16B6 : Box w16 (w13.heap.size) (.bool false) (.slice none 0 0) := by rw [hw16]; exact (H7.out.2.2.2.2.2.2.1).far (by omega) _ _
          have M16y : Dn w16 s15 p15 c15 D15 y := by rw [hw16]; exact (H7.out.2.2.2.2.2.2.2).apart APyB5.out _ _
          have BZ : Below W.heap.size W w16 := by rw [hw16]; exact box_kept BZ (by omega) _ _
          have H8 := Lib.hid (And.intro M16z (And.intro M16b (And.intro M16X1 (And.intro M16X2 (And.intro M16x (And.intro M16B5 (And.intro M16B6 M16y)))))))
          clear M16z M16b M16X1 M16X2 M16x M16B5 M16B6 M16y hw16 H7
          clear hSSrw15
          have hSSb16 := And.intro ((H8.out.2.2.1).c0) (And.intro ((H8.out.2.2.1).c1) (And.intro ((H8.out.2.2.2.1).c0) ((H8.out.2.2.2.1).c1)))
          refine hK.out _ _ ?_ (fun hHeld => ?_)
          · assumption
          clear hK K
          refine wpAnyH_ready (rs := [7]) (by kernel_rfl) (by simp) ?_
          refine AllReadyH.cons rfl (fun K hK => ?_) AllReadyH.nil
          have hf0 := (H8.out.2.2.2.2.2.2.1).f0
          have hf1 := (H8.out.2.2.2.2.2.2.1).f1
          have hc0 := (H8.out.2.2.2.2.2.2.1).c0
          have hc1 := (H8.out.2.2.2.2.2.2.1).c1
          go_simp
          clear hf0 hf1 hc0 hc1
          obtain ⟨w17, hw17⟩ : ∃ w17, w17 = (w16.setCell ⟨w13.heap.size, 0, none⟩ (.bool s15)).setCell ⟨w13.heap.size, 1, none⟩ (.slice p15 D15.length c15) := ⟨_, rfl⟩
          rw [← hw17]
          have M17z : Box w17 (w.heap.size) (.bool s1) (.slice p1 l1.length c1) := by rw [hw17]; exact (H8.out.1).far (by omega) _ _
          have M17b : Below w.heap.size w w17 := by rw [hw17]; exact box_kept (H8.out.2.1) (by omega) _ _
          have M17X1 : Box w17 (w.heap.size) (.bool s1) (.slice p1 l1.length c1) := by rw [hw17]; exact (H8.out.2.2.1).far (by omega) _ _
          have M17X2 : Box w17 (w.heap.size + 1) (.bool s2) (.slice p2 l2.length c2) := by rw [hw17]; exact (H8.out.2.2.2.1).far (by omega) _ _
          have M17x : Dn w17 s12 p12 c12 D12 x := by rw [hw17]; exact (H8.out.2.2.2.2.1).apart APxB6.out _ _
          have M17B5 : Box w17 (w12.heap.size) (.bool s12) (.slice p12 D12.length c12) := by rw [hw17]; exact (H8.out.2.2.2.2.2.1).far (by omega) _ _
          have M17B6 : Box w17 (w13.heap.size) (.bool s15) (.slice p15 D15.length c15) := by rw [hw17]; exact (H8.out.2.2.2.2.2.2.1).put _ _
          have M17y : Dn w17 s15 p15 c15 D15 y := by rw [hw17]; exact (H8.out.2.2.2.2.2.2.2).apart APyB6.out _ _
          have BZ : Below W.heap.size W w17 := by rw [hw17]; exact box_kept BZ (by omega) _ _
          have H9 := Lib.hid (And.intro M17z (And.intro M17b (And.intro M17X1 (And.intro M17X2 (And.intro M17x (And.intro M17B5 (And.intro M17B6 M17y)))))))
          clear M17z M17b M17X1 M17X2 M17x M17B5 M17B6 M17y hw17 H8
          clear hSSb16
          have hSSb17 := And.intro ((H9.out.2.2.1).c0) (And.intro ((H9.out.2.2.1).c1) (And.intro ((H9.out.2.2.2.1).c0) ((H9.out.2.2.2.1).c1)))
          refine hK.out _ _ ?_ (fun hHeld => ?_)
          · assumption
          clear hK K
          refine wpAnyH_done (by kernel_rfl) (NoPanic.normal ?_) _
          clear hSSb17
          go_wp2_with fail
          go_meet
          exact ⟨_, _, s12, s15, p12, p15, c12, c15, D12, D15, rfl, rfl, H9.out.2.2.2.2.2.1, H9.out.2.2.2.2.2.2.1, H9.out.2.2.2.2.1, H9.out.2.2.2.2.2.2.2, by have := ZLx.out; omega, by have := ZLy.out; omega, BZ⟩
      · go_simp
        have LWB6 := BZ.size
        have LTB6X1 := lt_of_box (H3.out.2.2.1)
        have LTB6X2 := lt_of_box (H3.out.2.2.2.1)
        have APxB6 := Lib.hid (apart_old (H3.out.2.2.2.2.2.2) (Nat.le_refl w12.heap.size))
        obtain ⟨w13, hw13⟩ : ∃ w13, w13 = w12.alloc (.cells #[.bool false, .slice none 0 0] 28) := ⟨_, rfl⟩
        rw [← hw13]
        have B13 : Below w12.heap.size w12 w13 := by rw [hw13]; exact (Below.refl _ _).alloc (Nat.le_refl _) _
        have BZ := BZ.trans (B13.mono BZ.size)
        have N13 : Box w13 w12.heap.size (.bool false) (.slice none 0 0) := by rw [hw13]; exact box_fresh 28 _ _ _ rfl
        have H4 := Lib.hid (And.intro (H3.out.1.below B13) (And.intro (H3.out.2.1.trans (B13.mono H3.out.2.1.size)) (And.intro (H3.out.2.2.1.below B13) (And.intro (H3.out.2.2.2.1.below B13) (And.intro (H3.out.2.2.2.2.1.below B13) (And.intro (H3.out.2.2.2.2.2.1.below B13) (And.intro (H3.out.2.2.2.2.2.2.below B13) N13)))))))
        clear hw13 B13 N13 H3
        clear hSSrw12
        have hSSa13 := And.intro ((H4.out.2.2.1).c0) (And.intro ((H4.out.2.2.1).c1) (And.intro ((H4.out.2.2.2.1).c0) ((H4.out.2.2.2.1).c1)))
        refine hK.out _ _ ?_ (fun hHeld => ?_)
        · assumption
        clear hK K
        refine wpAnyH_ready (rs := [3, 4]) (by kernel_rfl) (by simp) ?_
        refine AllReadyH.cons rfl (fun K hK => ?_) (AllReadyH.cons rfl (fun K hK => ?_) AllReadyH.nil)
        · go_simp
          go_wp2_with (have hx := H4; go_at_call 12; clear hx; refine (of_fresh (H4.out.2.2.2.2.2.1).toNm (by omega)).mono ?_; rintro e w14 ⟨s14, p14, c14, D14, rfl, n14, z14, f14, B14⟩; have ZLy := Lib.hid z14; have Q14B6 := lt_of_box (H4.out.2.2.2.2.2.2.2); have APyB6 := Lib.hid (apart_new (D := D14) f14 Q14B6); clear Q14B6;  skip; have BZ := BZ.trans (B14.mono BZ.size); have H5 := Lib.hid (And.intro (H4.out.1.below B14) (And.intro (H4.out.2.1.trans (B14.mono H4.out.2.1.size)) (And.intro (H4.out.2.2.1.below B14) (And.intro (H4.out.2.2.2.1.below B14) (And.intro (H4.out.2.2.2.2.1.below B14) (And.intro (H4.out.2.2.2.2.2.1.below B14) (And.intro (H4.out.2.2.2.2.2.2.1.below B14) (And.intro (H4.out.2.2.2.2.2.2.2.below B14) n14)))))))); clear n14 z14 f14 B14 H4; clear hSSa13; have hSSrw14 := And.intro ((H5.out.2.2.1).c0) (And.intro ((H5.out.2.2.1).c1) (And.intro ((H5.out.2.2.2.1).c0) ((H5.out.2.2.2.1).c1))))
          refine hK.out _ _ ?_ (fun hHeld => ?_)
          · assumption
          clear hK K
          refine wpAnyH_ready (rs := [4]) (by kernel_rfl) (by simp) ?_
          refine AllReadyH.cons rfl (fun K hK => ?_) AllReadyH.nil
          go_simp
          have LWB5 := BZ.size
          have LTB5X1 := lt_of_box (H5.out.2.2.1)
          have LTB5X2 := lt_of_box (H5.out.2.2.2.1)
          have LTB5B6 := lt_of_box (H5.out.2.2.2.2.2.2.2.1)
          have APxB5 := Lib.hid (apart_old (H5.out.2.2.2.2.2.2.1) (Nat.le_refl w14.heap.size))
          have APyB5 := Lib.hid (apart_old (H5.out.2.2.2.2.2.2.2.2) (Nat.le_refl w14.heap.size))
          obtain ⟨w15, hw15⟩ : ∃ w15, w15 = w14.alloc (.cells #[.bool false, .slice none 0 0] 28) := ⟨_, rfl⟩
          rw [← hw15]
          have B15 : Below w14.heap.size w14 w15 := by rw [hw15]; exact (Below.refl _ _).alloc (Nat.le_refl _) _
          have BZ := BZ.trans (B15.mono BZ.size)
          have N15 : Box w15 w14.heap.size (.bool false) (.slice none 0 0) := by rw [hw15]; exact box_fresh 28 _ _ _ rfl
          have H6 := Lib.hid (And.intro (H5.out.1.below B15) (And.intro (H5.out.2.1.trans (B15.mono H5.out.2.1.size)) (And.intro (H5.out.2.2.1.below B15) (And.intro (H5.out.2.2.2.1.below B15) (And.intro (H5.out.2.2.2.2.1.below B15) (And.intro (H5.out.2.2.2.2.2.1.below B15) (And.intro (H5.out.2.2.2.2.2.2.1.below B15) (And.intro (H5.out.2.2.2.2.2.2.2.1.below B15) (And.intro (H5.out.2.2.2.2.2.2.2.2.below B15) N15)))))))))
          clear hw15 B15 N15 H5
          clear hSSrw14
          have hSSa15 := And.intro ((H6.out.2.2.1).c0) (And.intro ((H6.out.2.2.1).c1) (And.intro ((H6.out.2.2.2.1).c0) ((H6.out.2.2.2.1).c1)))
          refine hK.out _ _ ?_ (fun hHeld => ?_)
          · assumption
          clear hK K
          refine wpAnyH_ready (rs := [6]) (by kernel_rfl) (by simp) ?_
          refine AllReadyH.cons rfl (fun K hK => ?_) AllReadyH.nil
          have H7 := Lib.hid (And.intro H6.out.1 (And.intro H6.out.2.1 (And.intro H6.out.2.2.1 (And.intro H6.out.2.2.2.1 (And.intro H6.out.2.2.2.2.2.2.1 (And.intro H6.out.2.2.2.2.2.2.2.1 (And.intro H6.out.2.2.2.2.2.2.2.2.1 H6.out.2.2.2.2.2.2.2.2.2)))))))
          have hf0 := (H7.out.2.2.2.2.2.2.2).f0
          have hf1 := (H7.out.2.2.2.2.2.2.2).f1
          have hc0 := (H7.out.2.2.2.2.2.2.2).c0
          have hc1 := (H7.out.2.2.2.2.2.2.2).c1
          go_simp
          clear hf0 hf1 hc0 hc1
          obtain ⟨w16, hw16⟩ : ∃ w16, w16 = (w15.setCell ⟨w14.heap.size, 0, none⟩ (.bool s12)).setCell ⟨w14.heap.size, 1, none⟩ (.slice p12 D12.length c12) := ⟨_, rfl⟩
          rw [← hw16]
          have M16z : Box w16 (w.heap.size) (.bool s1) (.slice p1 l1.length c1) := by rw [hw16]; exact (H7.out.1).far (by omega) _ _
          have M16b : Below w.heap.size w w16 := by rw [hw16]; exact box_kept (H7.out.2.1) (by omega) _ _
          have M16X1 : Box w16 (w.heap.size) (.bool s1) (.slice p1 l1.length c1) := by rw [hw16]; exact (H7.out.2.2.1).far (by omega) _ _
          have M16X2 : Box w16 (w.heap.size + 1) (.bool s2) (.slice p2 l2.length c2) := by rw [hw16]; exact (H7.out.2.2.2.1).far (by omega) _ _
          have M16x : Dn w16 s12 p12 c12 D12 x := by rw [hw16]; exact (H7.out.2.2.2.2.1).apart APxB5.out _ _
          have M16B6 : Box w16 (w12.heap.size) (.bool false) (.slice none 0 0) := by rw [hw16]; exact (H7.out.2.2.2.2.2.1).far (by omega) _ _
          have M16y : Dn w16 s14 p14 c14 D14 y := by rw [hw16]; exact (H7.out.2.2.2.2.2.2.1).apart APyB5.out _ _
          have M16B5 : Box w16 (w14.heap.size) (.bool s12) (.slice p12 D12.length c12) := by rw [hw16]; exact (H7.out.2.2.2.2.2.2.2).put _ _
          have BZ : Below W.heap.size W w16 := by rw [hw16]; exact box_kept BZ (by omega) _ _
          have H8 := Lib.hid (And.intro M16z (And.intro M16b (And.intro M16X1 (And.intro M16X2 (And.intro M16x (And.intro M16B6 (And.intro M16y M16B5)))))))
          clear M16z M16b M16X1 M16X2 M16x M16B6 M16y M16B5 hw16 H7
          clear hSSa15
          have hSSb16 := And.intro ((H8.out.2.2.1).c0) (And.intro ((H8.out.2.2.1).c1) (And.intro ((H8.out.2.2.2.1).c0) ((H8.out.2.2.2.1).c1)))
          refine hK.out _ _ ?_ (fun hHeld => ?_)
          · assumption
          clear hK K
          refine wpAnyH_ready (rs := [7]) (by kernel_rfl) (by simp) ?_
          refine AllReadyH.cons rfl (fun K hK => ?_) AllReadyH.nil
          have hf0 := (H8.out.2.2.2.2.2.1).f0
          have hf1 := (H8.out.2.2.2.2.2.1).f1
          have hc0 := (H8.out.2.2.2.2.2.1).c0
          have hc1 := (H8.out.2.2.2.2.2.1).c1
          go_simp
          clear hf0 hf1 hc0 hc1
          obtain ⟨w17, hw17⟩ : ∃ w17, w17 = (w16.setCell ⟨w12.heap.size, 0, none⟩ (.bool s14)).setCell ⟨w12.heap.size, 1, none⟩ (.slice p14 D14.length c14) := ⟨_, rfl⟩
          rw [← hw17]
          have M17z : Box w17 (w.heap.size) (.bool s1) (.slice p1 l1.length c1) := by rw [hw17]; exact (H8.out.1).far (by omega) _ _
          have M17b : Below w.heap.size w w17 := by rw [hw17]; exact box_kept (H8.out.2.1) (by omega) _ _
          have M17X1 : Box w17 (w.heap.size) (.bool s1) (.slice p1 l1.length c1) := by rw [hw17]; exact (H8.out.2.2.1).far (by omega) _ _
          have M17X2 : Box w17 (w.heap.size + 1) (.bool s2) (.slice p2 l2.length c2) := by rw [hw17]; exact (H8.out.2.2.2.1).far (by omega) _ _
          have M17x : Dn w17 s12 p12 c12 D12 x := by rw [hw17]; exact (H8.out.2.2.2.2.1).apart APxB6.out _ _
          have M17B6 : Box w17 (w12.heap.size) (.bool s14) (.slice p14 D14.length c14) := by rw [hw17]; exact (H8.out.2.2.2.2.2.1).put _ _
          have M17y : Dn w17 s14 p14 c14 D14 y := by rw [hw17]; exact (H8.out.2.2.2.2.2.2.1).apart APyB6.out _ _
          have M17B5 : Box w17 (w14.heap.size) (.bool s12) (.slice p12 D12.length c12) := by rw [hw17]; exact (H8.out.2.2.2.2.2.2.2).far (by omega) _ _
          have BZ : Below W.heap.size W w17 := by rw [hw17]; exact box_kept BZ (by omega) _ _
          have H9 := Lib.hid (And.intro M17z (And.intro M17b (And.intro M17X1 (And.intro M17X2 (And.intro M17x (And.intro M17B6 (And.intro M17y M17B5)))))))
          clear M17z M17b M17X1 M17X2 M17x M17B6 M17y M17B5 hw17 H8
          clear hSSb16
          have hSSb17 := And.intro ((H9.out.2.2.1).c0) (And.intro ((H9.out.2.2.1).c1) (And.intro ((H9.out.2.2.2.1).c0) ((H9.out.2.2.2.1).c1)))
          refine hK.out _ _ ?_ (fun hHeld => ?_)
          · assumption
          clear hK K
          refine wpAnyH_done (by kernel_rfl) (NoPanic.normal ?_) _
          clear hSSb17
          go_wp2_with fail
          go_meet
          exact ⟨_, _, s12, s14, p12, p14, c12, c14, D12, D14, rfl, rfl, H9.out.2.2.2.2.2.2.2, H9.out.2.2.2.2.2.1, H9.out.2.2.2.2.1, H9.out.2.2.2.2.2.2.1, by have := ZLx.out; omega, by have := ZLy.out; omega, BZ⟩
        · go_simp
          have LWB5 := BZ.size
          have LTB5X1 := lt_of_box (H4.out.2.2.1)
          have LTB5X2 := lt_of_box (H4.out.2.2.2.1)
          have LTB5B6 := lt_of_box (H4.out.2.2.2.2.2.2.2)
          have APxB5 := Lib.hid (apart_old (H4.out.2.2.2.2.2.2.1) (Nat.le_refl w13.heap.size))
          obtain ⟨w14, hw14⟩ : ∃ w14, w14 = w13.alloc (.cells #[.bool false, .slice none 0 0] 28) := ⟨_, rfl⟩
          rw [← hw14]
          have B14 : Below w13.heap.size w13 w14 := by rw [hw14]; exact (Below.refl _ _).alloc (Nat.le_refl _) _
          have BZ := BZ.trans (B14.mono BZ.size)
          have N14 : Box w14 w13.heap.size (.bool false) (.slice none 0 0) := by rw [hw14]; exact box_fresh 28 _ _ _ rfl
          have H5 := Lib.hid (And.intro (H4.out.1.below B14) (And.intro (H4.out.2.1.trans (B14.mono H4.out.2.1.size)) (And.intro (H4.out.2.2.1.below B14) (And.intro (H4.out.2.2.2.1.below B14) (And.intro (H4.out.2.2.2.2.1.below B14) (And.intro (H4.out.2.2.2.2.2.1.below B14) (And.intro (H4.out.2.2.2.2.2.2.1.below B14) (And.intro (H4.out.2.2.2.2.2.2.2.below B14) N14))))))))
          clear hw14 B14 N14 H4
          clear hSSa13
          have hSSa14 := And.intro ((H5.out.2.2.1).c0) (And.intro ((H5.out.2.2.1).c1) (And.intro ((H5.out.2.2.2.1).c0) ((H5.out.2.2.2.1).c1)))
          refine hK.out _ _ ?_ (fun hHeld => ?_)
          · assumption
          clear hK K
          refine wpAnyH_ready (rs := [3]) (by kernel_rfl) (by simp) ?_
          refine AllReadyH.cons rfl (fun K hK => ?_) AllReadyH.nil
          go_simp
          go_wp2_with (have hx := H5; go_at_call 12; clear hx; refine (of_fresh (H5.out.2.2.2.2.2.1).toNm (by omega)).mono ?_; rintro e w15 ⟨s15, p15, c15, D15, rfl, n15, z15, f15, B15⟩; have ZLy := Lib.hid z15; have Q15B5 := lt_of_box (H5.out.2.2.2.2.2.2.2.2); have Q15B6 := lt_of_box (H5.out.2.2.2.2.2.2.2.1); have APyB5 := Lib.hid (apart_new (D := D15) f15 Q15B5); clear Q15B5; have APyB6 := Lib.hid (apart_new (D := D15) f15 Q15B6); clear Q15B6;  skip; have BZ := BZ.trans (B15.mono BZ.size); have H6 := Lib.hid (And.intro (H5.out.1.below B15) (And.intro (H5.out.2.1.trans (B15.mono H5.out.2.1.size)) (And.intro (H5.out.2.2.1.below B15) (And.intro (H5.out.2.2.2.1.below B15) (And.intro (H5.out.2.2.2.2.1.below B15) (And.intro (H5.out.2.2.2.2.2.1.below B15) (And.intro (H5.out.2.2.2.2.2.2.1.below B15) (And.intro (H5.out.2.2.2.2.2.2.2.1.below B15) (And.intro (H5.out.2.2.2.2.2.2.2.2.below B15) n15))))))))); clear n15 z15 f15 B15 H5; clear hSSa14; have hSSrw15 := And.intro ((H6.out.2.2.1).c0) (And.intro ((H6.out.2.2.1).c1) (And.intro ((H6.out.2.2.2.1).c0) ((H6.out.2.2.2.1).c1))))
          refine hK.out _ _ ?_ (fun hHeld => ?_)
          · assumption
          clear hK K
          refine wpAnyH_ready (rs := [6]) (by kernel_rfl) (by simp) ?_
          refine AllReadyH.cons rfl (fun K hK => ?_) AllReadyH.nil
          have H7 := Lib.hid (And.intro H6.out.1 (And.intro H6.out.2.1 (And.intro H6.out.2.2.1 (And.intro H6.out.2.2.2.1 (And.intro H6.out.2.2.2.2.2.2.1 (And.intro H6.out.2.2.2.2.2.2.2.1 (And.intro H6.out.2.2.2.2.2.2.2.2.1 H6.out.2.2.2.2.2.2.2.2.2)))))))
          have hf0 := (H7.out.2.2.2.2.2.2.1).f0
          have hf1 := (H7.out.2.2.2.2.2.2.1).f1
          have hc0 := (H7.out.2.2.2.2.2.2.1).c0
          have hc1 := (H7.out.2.2.2.2.2.2.1).c1
          go_simp
          clear hf0 hf1 hc0 hc1
          obtain ⟨w16, hw16⟩ : ∃ w16, w16 = (w15.setCell ⟨w13.heap.size, 0, none⟩ (.bool s12)).setCell ⟨w13.heap.size, 1, none⟩ (.slice p12 D12.length c12) := ⟨_, rfl⟩
          rw [← hw16]
          have M16z : Box w16 (w.heap.size) (.bool s1) (.slice p1 l1.length c1) := by rw [hw16]; exact (H7.out.1).far (by omega) _ _
          have M16b : Below w.heap.size w w16 := by rw [hw16]; exact box_kept (H7.out.2.1) (by omega) _ _
          have M16X1 : Box w16 (w.heap.size) (.bool s1) (.slice p1 l1.length c1) := by rw [hw16]; exact (H7.out.2.2.1).far (by omega) _ _
          have M16X2 : Box w16 (w.heap.size + 1) (.bool s2) (.slice p2 l2.length c2) := by rw [hw16]; exact (H7.out.2.2.2.1).far (by omega) _ _
          have M16x : Dn w16 s12 p12 c12 D12 x := by rw [hw16]; exact (H7.out.2.2.2.2.1).apart APxB5.out _ _
          have M16B6 : Box w16 (w12.heap.size) (.bool false) (.slice none 0 0) := by rw [hw16]; exact (H7.out.2.2.2.2.2.1).far (by omega) _ _
          have M16B5 : Box w16 (w13.heap.size) (.bool s12) (.slice p12 D12.length c12) := by rw [hw16]; exact (H7.out.2.2.2.2.2.2.1).put _ _
          have M16y : Dn w16 s15 p15 c15 D15 y := by rw [hw16]; exact (H7.out.2.2.2.2.2.2.2).apart APyB5.out _ _
          have BZ : Below W.heap.size W w16 := by rw [hw16]; exact box_kept BZ (by omega) _ _
          have H8 := Lib.hid (And.intro M16z (And.intro M16b (And.intro M16X1 (And.intro M16X2 (And.intro M16x (And.intro M16B6 (And.intro M16B5 M16y)))))))
          clear M16z M16b M16X1 M16X2 M16x M16B6 M16B5 M16y hw16 H7
          clear hSSrw15
          have hSSb16 := And.intro ((H8.out.2.2.1).c0) (And.intro ((H8.out.2.2.1).c1) (And.intro ((H8.out.2.2.2.1).c0) ((H8.out.2.2.2.1).c1)))
          refine hK.out _ _ ?_ (fun hHeld => ?_)
          · assumption
          clear hK K
          refine wpAnyH_ready (rs := [7]) (by kernel_rfl) (by simp) ?_
          refine AllReadyH.cons rfl (fun K hK => ?_) AllReadyH.nil
          have hf0 := (H8.out.2.2.2.2.2.1).f0
          have hf1 := (H8.out.2.2.2.2.2.1).f1
          have hc0 := (H8.out.2.2.2.2.2.1).c0
          have hc1 := (H8.out.2.2.2.2.2.1).c1
          go_simp
          clear hf0 hf1 hc0 hc1
          obtain ⟨w17, hw17⟩ : ∃ w17, w17 = (w16.setCell ⟨w12.heap.size, 0, none⟩ (.bool s15)).setCell ⟨w12.heap.size, 1, none⟩ (.slice p15 D15.length c15) := ⟨_, rfl⟩
          rw [← hw17]
          have M17z : Box w17 (w.heap.size) (.bool s1) (.slice p1 l1.length c1) := by rw [hw17]; exact (H8.out.1).far (by omega) _ _
          have M17b : Below w.heap.size w w17 := by rw [hw17]; exact box_kept (H8.out.2.1) (by omega) _ _
          have M17X1 : Box w17 (w.heap.size) (.bool s1) (.slice p1 l1.length c1) := by rw [hw17]; exact (H8.out.2.2.1).far (by omega) _ _
          have M17X2 : Box w17 (w.heap.size + 1) (.bool s2) (.slice p2 l2.length c2) := by rw [hw17]; exact (H8.out.2.2.2.1).far (by omega) _ _
          have M17x : Dn w17 s12 p12 c12 D12 x := by rw [hw17]; exact (H8.out.2.2.2.2.1).apart APxB6.out _ _
          have M17B6 : Box w17 (w12.heap.size) (.bool s15) (.slice p15 D15.length c15) := by rw [hw17]; exact (H8.out.2.2.2.2.2.1).put _ _
          have M17B5 : Box w17 (w13.heap.size) (.bool s12) (.slice p12 D12.length c12) := by rw [hw17]; exact (H8.out.2.2.2.2.2.2.1).far (by omega) _ _
          have M17y : Dn w17 s15 p15 c15 D15 y := by rw [hw17]; exact (H8.out.2.2.2.2.2.2.2).apart APyB6.out _ _
          have BZ : Below W.heap.size W w17 := by rw [hw17]; exact box_kept BZ (by omega) _ _
          have H9 := Lib.hid (And.intro M17z (And.intro M17b (And.intro M17X1 (And.intro M17X2 (And.intro M17x (And.intro M17B6 (And.intro M17B5 M17y)))))))
          clear M17z M17b M17X1 M17X2 M17x M17B6 M17B5 M17y hw17 H8
          clear hSSb16
          have hSSb17 := And.intro ((H9.out.2.2.1).c0) (And.intro ((H9.out.2.2.1).c1) (And.intro ((H9.out.2.2.2.1).c0) ((H9.out.2.2.2.1).c1)))
          refine hK.out _ _ ?_ (fun hHeld => ?_)
          · assumption
          clear hK K
          refine wpAnyH_done (by kernel_rfl) (NoPanic.normal ?_) _
          clear hSSb17
          go_wp2_with fail
          go_meet
          exact ⟨_, _, s12, s15, p12, p15, c12, c15, D12, D15, rfl, rfl, H9.out.2.2.2.2.2.2.1, H9.out.2.2.2.2.2.1, H9.out.2.2.2.2.1, H9.out.2.2.2.2.2.2.2, by have := ZLx.out; omega, by have := ZLy.out; omega, BZ⟩
    · go_simp
      have LWB5 := BZ.size
      have LTB5X1 := lt_of_box (H2.out.2.2.1)
      have LTB5X2 := lt_of_box (H2.out.2.2.2.1)
      obtain ⟨w12, hw12⟩ : ∃ w12, w12 = wd.alloc (.cells #[.bool false, .slice none 0 0] 28) := ⟨_, rfl⟩
      rw [← hw12]
      have B12 : Below wd.heap.size wd w12 := by rw [hw12]; exact (Below.refl _ _).alloc (Nat.le_refl _) _
      have BZ := BZ.trans (B12.mono BZ.size)
      have N12 : Box w12 wd.heap.size (.bool false) (.slice none 0 0) := by rw [hw12]; exact box_fresh 28 _ _ _ rfl
      have H3 := Lib.hid (And.intro (H2.out.1.below B12) (And.intro (H2.out.2.1.trans (B12.mono H2.out.2.1.size)) (And.intro (H2.out.2.2.1.below B12) (And.intro (H2.out.2.2.2.1.below B12) (And.intro (H2.out.2.2.2.2.1.below B12) (And.intro (H2.out.2.2.2.2.2.below B12) N12))))))
      clear hw12 B12 N12 H2
      clear hSS
      have hSSa12 := And.intro ((H3.out.2.2.1).c0) (And.intro ((H3.out.2.2.1).c1) (And.intro ((H3.out.2.2.2.1).c0) ((H3.out.2.2.2.1).c1)))
      refine hK.out _ _ ?_ (fun hHeld => ?_)
      · assumption
      clear hK K
      refine wpAnyH_ready (rs := [1, 5]) (by kernel_rfl) (by simp) ?_
      refine AllReadyH.cons rfl (fun K hK => ?_) (AllReadyH.cons rfl (fun K hK => ?_) AllReadyH.nil)
      · go_simp
        go_wp2_with (have hx := H3; go_at_call 12; clear hx; refine (of_fresh (H3.out.2.2.2.2.1).toNm (by omega)).mono ?_; rintro e w13 ⟨s13, p13, c13, D13, rfl, n13, z13, f13, B13⟩; have ZLx := Lib.hid z13; have Q13B5 := lt_of_box (H3.out.2.2.2.2.2.2); have APxB5 := Lib.hid (apart_new (D := D13) f13 Q13B5); clear Q13B5;  skip; have BZ := BZ.trans (B13.mono BZ.size); have H4 := Lib.hid (And.intro (H3.out.1.below B13) (And.intro (H3.out.2.1.trans (B13.mono H3.out.2.1.size)) (And.intro (H3.out.2.2.1.below B13) (And.intro (H3.out.2.2.2.1.below B13) (And.intro (H3.out.2.2.2.2.1.below B13) (And.intro (H3.out.2.2.2.2.2.1.below B13) (And.intro (H3.out.2.2.2.2.2.2.below B13) n13))))))); clear n13 z13 f13 B13 H3; clear hSSa12; have hSSrw13 := And.intro ((H4.out.2.2.1).c0) (And.intro ((H4.out.2.2.1).c1) (And.intro ((H4.out.2.2.2.1).c0) ((H4.out.2.2.2.1).c1))))
        refine hK.out _ _ ?_ (fun hHeld => ?_)
        · assumption
        clear hK K
        refine wpAnyH_ready (rs := [3, 5]) (by kernel_rfl) (by simp) ?_
        refine AllReadyH.cons rfl (fun K hK => ?_) (AllReadyH.cons rfl (fun K hK => ?_) AllReadyH.nil)
        · go_simp
          go_wp2_with (have hx := H4; go_at_call 12; clear hx; refine (of_fresh (H4.out.2.2.2.2.2.1).toNm (by omega)).mono ?_; rintro e w14 ⟨s14, p14, c14, D14, rfl, n14, z14, f14, B14⟩; have ZLy := Lib.hid z14; have Q14B5 := lt_of_box (H4.out.2.2.2.2.2.2.1); have APyB5 := Lib.hid (apart_new (D := D14) f14 Q14B5); clear Q14B5;  skip; have BZ := BZ.trans (B14.mono BZ.size); have H5 := Lib.hid (And.intro (H4.out.1.below B14) (And.intro (H4.out.2.1.trans (B14.mono H4.out.2.1.size)) (And.intro (H4.out.2.2.1.below B14) (And.intro (H4.out.2.2.2.1.below B14) (And.intro (H4.out.2.2.2.2.1.below B14) (And.intro (H4.out.2.2.2.2.2.1.below B14) (And.intro (H4.out.2.2.2.2.2.2.1.below B14) (And.intro (H4.out.2.2.2.2.2.2.2.below B14) n14)))))))); clear n14 z14 f14 B14 H4; clear hSSrw13; have hSSrw14 := And.intro ((H5.out.2.2.1).c0) (And.intro ((H5.out.2.2.1).c1) (And.intro ((H5.out.2.2.2.1).c0) ((H5.out.2.2.2.1).c1))))
          refine hK.out _ _ ?_ (fun hHeld => ?_)
          · assumption
          clear hK K
          refine wpAnyH_ready (rs := [5]) (by kernel_rfl) (by simp) ?_
          refine AllReadyH.cons rfl (fun K hK => ?_) AllReadyH.nil
          go_simp
          have LWB6 := BZ.size
          have LTB6X1 := lt_of_box (H5.out.2.2.1)
          have LTB6X2 := lt_of_box (H5.out.2.2.2.1)
          have LTB6B5 := lt_of_box (H5.out.2.2.2.2.2.2.1)
          have APxB6 := Lib.hid (apart_old (H5.out.2.2.2.2.2.2.2.1) (Nat.le_refl w14.heap.size))
          have APyB6 := Lib.hid (apart_old (H5.out.2.2.2.2.2.2.2.2) (Nat.le_refl w14.heap.size))
          obtain ⟨w15, hw15⟩ : ∃ w15, w15 = w14.alloc (.cells #[.bool false, .slice none 0 0] 28) := ⟨_, rfl⟩
          rw [← hw15]
          have B15 : Below w14.heap.size w14 w15 := by rw [hw15]; exact (Below.refl _ _).alloc (Nat.le_refl _) _
          have BZ := BZ.trans (B15.mono BZ.size)
          have N15 : Box w15 w14.heap.size (.bool false) (.slice none 0 0) := by rw [hw15]; exact box_fresh 28 _ _ _ rfl
          have H6 := Lib.hid (And.intro (H5.out.1.below B15) (And.intro (H5.out.2.1.trans (B15.mono H5.out.2.1.size)) (And.intro (H5.out.2.2.1.below B15) (And.intro (H5.out.2.2.2.1.below B15) (And.intro (H5.out.2.2.2.2.1.below B15) (And.intro (H5.out.2.2.2.2.2.1.below B15) (And.intro (H5.out.2.2.2.2.2.2.1.below B15) (And.intro (H5.out.2.2.2.2.2.2.2.1.below B15) (And.intro (H5.out.2.2.2.2.2.2.2.2.below B15) N15)))))))))
          clear hw15 B15 N15 H5
          clear hSSrw14
          have hSSa15 := And.intro ((H6.out.2.2.1).c0) (And.intro ((H6.out.2.2.1).c1) (And.intro ((H6.out.2.2.2.1).c0) ((H6.out.2.2.2.1).c1)))
          refine hK.out _ _ ?_ (fun hHeld => ?_)
          · assumption
          clear hK K
          refine wpAnyH_ready (rs := [6]) (by kernel_rfl) (by simp) ?_
          refine AllReadyH.cons rfl (fun K hK => ?_) AllReadyH.nil
          have H7 := Lib.hid (And.intro H6.out.1 (And.intro H6.out.2.1 (And.intro H6.out.2.2.1 (And.intro H6.out.2.2.2.1 (And.intro H6.out.2.2.2.2.2.2.1 (And.intro H6.out.2.2.2.2.2.2.2.1 (And.intro H6.out.2.2.2.2.2.2.2.2.1 H6.out.2.2.2.2.2.2.2.2.2)))))))
          have hf0 := (H7.out.2.2.2.2.1).f0
          have hf1 := (H7.out.2.2.2.2.1).f1
          have hc0 := (H7.out.2.2.2.2.1).c0
          have hc1 := (H7.out.2.2.2.2.1).c1
          go_simp
          clear hf0 hf1 hc0 hc1
          obtain ⟨w16, hw16⟩ : ∃ w16, w16 = (w15.setCell ⟨wd.heap.size, 0, none⟩ (.bool s13)).setCell ⟨wd.heap.size, 1, none⟩ (.slice p13 D13.length c13) := ⟨_, rfl⟩
          rw [← hw16]
          have M16z : Box w16 (w.heap.size) (.bool s1) (.slice p1 l1.length c1) := by rw [hw16]; exact (H7.out.1).far (by omega) _ _
          have M16b : Below w.heap.size w w16 := by rw [hw16]; exact box_kept (H7.out.2.1) (by omega) _ _
          have M16X1 : Box w16 (w.heap.size) (.bool s1) (.slice p1 l1.length c1) := by rw [hw16]; exact (H7.out.2.2.1).far (by omega) _ _
          have M16X2 : Box w16 (w.heap.size + 1) (.bool s2) (.slice p2 l2.length c2) := by rw [hw16]; exact (H7.out.2.2.2.1).far (by omega) _ _
          have M16B5 : Box w16 (wd.heap.size) (.bool s13) (.slice p13 D13.length c13) := by rw [hw16]; exact (H7.out.2.2.2.2.1).put _ _
          have M16x : Dn w16 s13 p13 c13 D13 x := by rw [hw16]; exact (H7.out.2.2.2.2.2.1).apart APxB5.out _ _
          have M16y : Dn w16 s14 p14 c14 D14 y := by rw [hw16]; exact (H7.out.2.2.2.2.2.2.1).apart APyB5.out _ _
          have M16B6 : Box w16 (w14.heap.size) (.bool false) (.slice none 0 0) := by rw [hw16]; exact (H7.out.2.2.2.2.2.2.2).far (by omega) _ _
          have BZ : Below W.heap.size W w16 := by rw [hw16]; exact box_kept BZ (by omega) _ _
          have H8 := Lib.hid (And.intro M16z (And.intro M16b (And.intro M16X1 (And.intro M16X2 (And.intro M16B5 (And.intro M16x (And.intro M16y M16B6)))))))
          clear M16z M16b M16X1 M16X2 M16B5 M16x M16y M16B6 hw16 H7
          clear hSSa15
          have hSSb16 := And.intro ((H8.out.2.2.1).c0) (And.intro ((H8.out.2.2.1).c1) (And.intro ((H8.out.2.2.2.1).c0) ((H8.out.2.2.2.1).c1)))
          refine hK.out _ _ ?_ (fun hHeld => ?_)
          · assumption
          clear hK K
          refine wpAnyH_ready (rs := [7]) (by kernel_rfl) (by simp) ?_
          refine AllReadyH.cons rfl (fun K hK => ?_) AllReadyH.nil
          have hf0 := (H8.out.2.2.2.2.2.2.2).f0
          have hf1 := (H8.out.2.2.2.2.2.2.2).f1
          have hc0 := (H8.out.2.2.2.2.2.2.2).c0
          have hc1 := (H8.out.2.2.2.2.2.2.2).c1
          go_simp
          clear hf0 hf1 hc0 hc1
          obtain ⟨w17, hw17⟩ : ∃ w17, w17 = (w16.setCell ⟨w14.heap.size, 0, none⟩ (.bool s14)).setCell ⟨w14.heap.size, 1, none⟩ (.slice p14 D14.length c14) := ⟨_, rfl⟩
          rw [← hw17]
          have M17z : Box w17 (w.heap.size) (.bool s1) (.slice p1 l1.length c1) := by rw [hw17]; exact (H8.out.1).far (by omega) _ _
          have M17b : Below w.heap.size w w17 := by rw [hw17]; exact box_kept (H8.out.2.1) (by omega) _ _
          have M17X1 : Box w17 (w.heap.size) (.bool s1) (.slice p1 l1.length c1) := by rw [hw17]; exact (H8.out.2.2.1).far (by omega) _ _
          have M17X2 : Box w17 (w.heap.size + 1) (.bool s2) (.slice p2 l2.length c2) := by rw [hw17]; exact (H8.out.2.2.2.1).far (by omega) _ _
          have M17B5 : Box w17 (wd.heap.size) (.bool s13) (.slice p13 D13.length c13) := by rw [hw17]; exact (H8.out.2.2.2.2.1).far (by omega) _ _
          have M17x : Dn w17 s13 p13 c13 D13 x := by rw [hw17]; exact (H8.out.2.2.2.2.2.1).apart APxB6.out _ _
          have M17y : Dn w17 s14 p14 c14 D14 y := by rw [hw17]; exact (H8.out.2.2.2.2.2.2.1).apart APyB6.out _ _
          have M17B6 : Box w17 (w14.heap.size) (.bool s14) (.slice p14 D14.length c14) := by rw [hw17]; exact (H8.out.2.2.2.2.2.2.2).put _ _
          have BZ : Below W.heap.size W w17 := by rw [hw17]; exact box_kept BZ (by omega) _ _
          have H9 := Lib.hid (And.intro M17z (And.intro M17b (And.intro M17X1 (And.intro M17X2 (And.intro M17B5 (And.intro M17x (And.intro M17y M17B6)))))))
          clear M17z M17b M17X1 M17X2 M17B5 M17x M17y M17B6 hw17 H8
          clear hSSb16
          have hSSb17 := And.intro ((H9.out.2.2.1).c0) (And.intro ((H9.out.2.2.1).c1) (And.intro ((H9.out.2.2.2.1).c0) ((H9.out.2.2.2.1).c1)))
          refine hK.out _ _ ?_ (fun hHeld => ?_)
          · assumption
          clear hK K
          refine wpAnyH_done (by kernel_rfl) (NoPanic.normal ?_) _
          clear hSSb17
          go_wp2_with fail
          go_meet
          exact ⟨_, _, s13, s14, p13, p14, c13, c14, D13, D14, rfl, rfl, H9.out.2.2.2.2.1, H9.out.2.2.2.2.2.2.2, H9.out.2.2.2.2.2.1, H9.out.2.2.2.2.2.2.1, by have := ZLx.out; omega, by have := ZLy.out; omega, BZ⟩
        · go_simp
          have LWB6 := BZ.size
          have LTB6X1 := lt_of_box (H4.out.2.2.1)
          have LTB6X2 := lt_of_box (H4.out.2.2.2.1)
          have LTB6B5 := lt_of_box (H4.out.2.2.2.2.2.2.1)
          have APxB6 := Lib.hid (apart_old (H4.out.2.2.2.2.2.2.2) (Nat.le_refl w13.heap.size))
          obtain ⟨w14, hw14⟩ : ∃ w14, w14 = w13.alloc (.cells #[.bool false, .slice none 0 0] 28) := ⟨_, rfl⟩
          rw [← hw14]
          have B14 : Below w13.heap.size w13 w14 := by rw [hw14]; exact (Below.refl _ _).alloc (Nat.le_refl _) _
          have BZ := BZ.trans (B14.mono BZ.size)
          have N14 : Box w14 w13.heap.size (.bool false) (.slice none 0 0) := by rw [hw14]; exact box_fresh 28 _ _ _ rfl
          have H5 := Lib.hid (And.intro (H4.out.1.below B14) (And.intro (H4.out.2.1.trans (B14.mono H4.out.2.1.size)) (And.intro (H4.out.2.2.1.below B14) (And.intro (H4.out.2.2.2.1.below B14) (And.intro (H4.out.2.2.2.2.1.below B14) (And.intro (H4.out.2.2.2.2.2.1.below B14) (And.intro (H4.out.2.2.2.2.2.2.1.below B14) (And.intro (H4.out.2.2.2.2.2.2.2.below B14) N14))))))))
          clear hw14 B14 N14 H4
          clear hSSrw13
          have hSSa14 := And.intro ((H5.out.2.2.1).c0) (And.intro ((H5.out.2.2.1).c1) (And.intro ((H5.out.2.2.2.1).c0) ((H5.out.2.2.2.1).c1)))
          refine hK.out _ _ ?_ (fun hHeld => ?_)
          · assumption
          clear hK K
          refine wpAnyH_ready (rs := [3]) (by kernel_rfl) (by simp) ?_
          refine AllReadyH.cons rfl (fun K hK => ?_) AllReadyH.nil
          go_simp
          go_wp2_with (have hx := H5; go_at_call 12; clear hx; refine (of_fresh (H5.out.2.2.2.2.2.1).toNm (by omega)).mono ?_; rintro e w15 ⟨s15, p15, c15, D15, rfl, n15, z15, f15, B15⟩; have ZLy := Lib.hid z15; have Q15B5 := lt_of_box (H5.out.2.2.2.2.2.2.1); have Q15B6 := lt_of_box (H5.out.2.2.2.2.2.2.2.2); have APyB5 := Lib.hid (apart_new (D := D15) f15 Q15B5); clear Q15B5; have APyB6 := Lib.hid (apart_new (D := D15) f15 Q15B6); clear Q15B6;  skip; have BZ := BZ.trans (B15.mono BZ.size); have H6 := Lib.hid (And.intro (H5.out.1.below B15) (And.intro (H5.out.2.1.trans (B15.mono H5.out.2.1.size)) (And.intro (H5.out.2.2.1.below B15) (And.intro (H5.out.2.2.2.1.below B15) (And.intro (H5.out.2.2.2.2.1.below B15) (And.intro (H5.out.2.2.2.2.2.1.below B15) (And.intro (H5.out.2.2.2.2.2.2.1.below B15) (And.intro (H5.out.2.2.2.2.2.2.2.1.below B15) (And.intro (H5.out.2.2.2.2.2.2.2.2.below B15) n15))))))))); clear n15 z15 f15 B15 H5; clear hSSa14; have hSSrw15 := And.intro ((H6.out.2.2.1).c0) (And.intro ((H6.out.2.2.1).c1) (And.intro ((H6.out.2.2.2.1).c0) ((H6.out.2.2.2.1).c1))))
          refine hK.out _ _ ?_ (fun hHeld => ?_)
          · assumption
          clear hK K
          refine wpAnyH_ready (rs := [6]) (by kernel_rfl) (by simp) ?_
          refine AllReadyH.cons rfl (fun K hK => ?_) AllReadyH.nil
          have H7 := Lib.hid (And.intro H6.out.1 (And.intro H6.out.2.1 (And.intro H6.out.2.2.1 (And.intro H6.out.2.2.2.1 (And.intro H6.out.2.2.2.2.2.2.1 (And.intro H6.out.2.2.2.2.2.2.2.1 (And.intro H6.out.2.2.2.2.2.2.2.2.1 H6.out.2.2.2.2.2.2.2.2.2)))))))
          have hf0 := (H7.out.2.2.2.2.1).f0
          have hf1 := (H7.out.2.2.2.2.1).f1
          have hc0 := (H7.out.2.2.2.2.1).c0
          have hc1 := (H7.out.2.2.2.2.1).c1
          go_simp
          clear hf0 hf1 hc0 hc1
          obtain ⟨w16, hw16⟩ : ∃ w16, w16 = (w15.setCell ⟨wd.heap.size, 0, none⟩ (.bool s13)).setCell ⟨wd.heap.size, 1, none⟩ (.slice p13 D13.length c13) := ⟨_, rfl⟩
          rw [← hw16]
          have M16z : Box w16 (w.heap.size) (.bool s1) (.slice p1 l1.length c1) := by rw [hw16]; exact (H7.out.1).far (by omega) _ _
          have M16b : Below w.heap.size w w16 := by rw [hw16]; exact box_kept (H7.out.2.1) (by omega) _ _
          have M16X1 : Box w16 (w.heap.size) (.bool s1) (.slice p1 l1.length c1) := by rw [hw16]; exact (H7.out.2.2.1).far (by omega) _ _
          have M16X2 : Box w16 (w.heap.size + 1) (.bool s2) (.slice p2 l2.length c2) := by rw [hw16]; exact (H7.out.2.2.2.1).far (by omega) _ _
          have M16B5 : Box w16 (wd.heap.size) (.bool s13) (.slice p13 D13.length c13) := by rw [hw16]; exact (H7.out.2.2.2.2.1).put _ _
          have M16x : Dn w16 s13 p13 c13 D13 x := by rw [hw16]; exact (H7.out.2.2.2.2.2.1).apart APxB5.out _ _
          have M16B6 : Box w16 (w13.heap.size) (.bool false) (.slice none 0 0) := by rw [hw16]; exact (H7.out.2.2.2.2.2.2.1).far (by omega) _ _
          have M16y : Dn w16 s15 p15 c15 D15 y := by rw [hw16]; exact (H7.out.2.2.2.2.2.2.2).apart APyB5.out _ _
          have BZ : Below W.heap.size W w16 := by rw [hw16]; exact box_kept BZ (by omega) _ _
          have H8 := Lib.hid (And.intro M16z (And.intro M16b (And.intro M16X1 (And.intro M16X2 (And.intro M16B5 (And.intro M16x (And.intro M16B6 M16y)))))))
          clear M16z M16b M16X1 M16X2 M16B5 M16x M16B6 M16y hw16 H7
          clear hSSrw15
          have hSSb16 := And.intro ((H8.out.2.2.1).c0) (And.intro ((H8.out.2.2.1).c1) (And.intro ((H8.out.2.2.2.1).c0) ((H8.out.2.2.2.1).c1)))
          refine hK.out _ _ ?_ (fun hHeld => ?_)
          · assumption
          clear hK K
          refine wpAnyH_ready (rs := [7]) (by kernel_rfl) (by simp) ?_
          refine AllReadyH.cons rfl (fun K hK => ?_) AllReadyH.nil
          have hf0 := (H8.out.2.2.2.2.2.2.1).f0
          have hf1 := (H8.out.2.2.2.2.2.2.1).f1
          have hc0 := (H8.out.2.2.2.2.2.2.1).c0
          have hc1 := (H8.out.2.2.2.2.2.2.1).c1
          go_simp
          clear hf0 hf1 hc0 hc1
          obtain ⟨w17, hw17⟩ : ∃ w17, w17 = (w16.setCell ⟨w13.heap.size, 0, none⟩ (.bool s15)).setCell ⟨w13.heap.size, 1, none⟩ (.slice p15 D15.length c15) := ⟨_, rfl⟩
          rw [← hw17]
          have M17z : Box w17 (w.heap.size) (.bool s1) (.slice p1 l1.length c1) := by rw [hw17]; exact (H8.out.1).far (by omega) _ _
          have M17b : Below w.heap.size w w17 := by rw [hw17]; exact box_kept (H8.out.2.1) (by omega) _ _
          have M17X1 : Box w17 (w.heap.size) (.bool s1) (.slice p1 l1.length c1) := by rw [hw17]; exact (H8.out.2.2.1).far (by omega) _ _
          have M17X2 : Box w17 (w.heap.size + 1) (.bool s2) (.slice p2 l2.length c2) := by rw [hw17]; exact (H8.out.2.2.2.1).far (by omega) _ _
          have M17B5 : Box w17 (wd.heap.size) (.bool s13) (.slice p13 D13.length c13) := by rw [hw17]; exact (H8.out.2.2.2.2.1).far (by omega) _ _
          have M17x : Dn w17 s13 p13 c13 D13 x := by rw [hw17]; exact (H8.out.2.2.2.2.2.1).apart APxB6.out _ _
          have M17B6 : Box w17 (w13.heap.size) (.bool s15) (.slice p15 D15.length c15) := by rw [hw17]; exact (H8.out.2.2.2.2.2.2.1).put _ _
          have M17y : Dn w17 s15 p15 c15 D15 y := by rw [hw17]; exact (H8.out.2.2.2.2.2.2.2).apart APyB6.out _ _
          have BZ : Below W.heap.size W w17 := by rw [hw17]; exact box_kept BZ (by omega) _ _
          have H9 := Lib.hid (And.intro M17z (And.intro M17b (And.intro M17X1 (And.intro M17X2 (And.intro M17B5 (And.intro M17x (And.intro M17B6 M17y)))))))
          clear M17z M17b M17X1 M17X2 M17B5 M17x M17B6 M17y hw17 H8
          clear hSSb16
          have hSSb17 := And.intro ((H9.out.2.2.1).c0) (And.intro ((H9.out.2.2.1).c1) (And.intro ((H9.out.2.2.2.1).c0) ((H9.out.2.2.2.1).c1)))
          refine hK.out _ _ ?_ (fun hHeld => ?_)
          · assumption
          clear hK K
          refine wpAnyH_done (by kernel_rfl) (NoPanic.normal ?_) _
          clear hSSb17
          go_wp2_with fail
          go_meet
          exact ⟨_, _, s13, s15, p13, p15, c13, c15, D13, D15, rfl, rfl, H9.out.2.2.2.2.1, H9.out.2.2.2.2.2.2.1, H9.out.2.2.2.2.2.1, H9.out.2.2.2.2.2.2.2, by have := ZLx.out; omega, by have := ZLy.out; omega, BZ⟩
      · go_simp
        have LWB6 := BZ.size
        have LTB6X1 := lt_of_box (H3.out.2.2.1)
        have LTB6X2 := lt_of_box (H3.out.2.2.2.1)
        have LTB6B5 := lt_of_box (H3.out.2.2.2.2.2.2)
        obtain ⟨w13, hw13⟩ : ∃ w13, w13 = w12.alloc (.cells #[.bool false, .slice none 0 0] 28) := ⟨_, rfl⟩
        rw [← hw13]
        have B13 : Below w12.heap.size w12 w13 := by rw [hw13]; exact (Below.refl _ _).alloc (Nat.le_refl _) _
        have BZ := BZ.trans (B13.mono BZ.size)
        have N13 : Box w13 w12.heap.size (.bool false) (.slice none 0 0) := by rw [hw13]; exact box_fresh 28 _ _ _ rfl
        have H4 := Lib.hid (And.intro (H3.out.1.below B13) (And.intro (H3.out.2.1.trans (B13.mono H3.out.2.1.size)) (And.intro (H3.out.2.2.1.below B13) (And.intro (H3.out.2.2.2.1.below B13) (And.intro (H3.out.2.2.2.2.1.below B13) (And.intro (H3.out.2.2.2.2.2.1.below B13) (And.intro (H3.out.2.2.2.2.2.2.below B13) N13)))))))
        clear hw13 B13 N13 H3
        clear hSSa12
        have hSSa13 := And.intro ((H4.out.2.2.1).c0) (And.intro ((H4.out.2.2.1).c1) (And.intro ((H4.out.2.2.2.1).c0) ((H4.out.2.2.2.1).c1)))
        refine hK.out _ _ ?_ (fun hHeld => ?_)
        · assumption
        clear hK K
        refine wpAnyH_ready (rs := [1]) (by kernel_rfl) (by simp) ?_
        refine AllReadyH.cons rfl (fun K hK => ?_) AllReadyH.nil
        go_simp
        go_wp2_with (have hx := H4; go_at_call 12; clear hx; refine (of_fresh (H4.out.2.2.2.2.1).toNm (by omega)).mono ?_; rintro e w14 ⟨s14, p14, c14, D14, rfl, n14, z14, f14, B14⟩; have ZLx := Lib.hid z14; have Q14B5 := lt_of_box (H4.out.2.2.2.2.2.2.1); have Q14B6 := lt_of_box (H4.out.2.2.2.2.2.2.2); have APxB5 := Lib.hid (apart_new (D := D14) f14 Q14B5); clear Q14B5; have APxB6 := Lib.hid (apart_new (D := D14) f14 Q14B6); clear Q14B6;  skip; have BZ := BZ.trans (B14.mono BZ.size); have H5 := Lib.hid (And.intro (H4.out.1.below B14) (And.intro (H4.out.2.1.trans (B14.mono H4.out.2.1.size)) (And.intro (H4.out.2.2.1.below B14) (And.intro (H4.out.2.2.2.1.below B14) (And.intro (H4.out.2.2.2.2.1.below B14) (And.intro (H4.out.2.2.2.2.2.1.below B14) (And.intro (H4.out.2.2.2.2.2.2.1.below B14) (And.intro (H4.out.2.2.2.2.2.2.2.below B14) n14)))))))); clear n14 z14 f14 B14 H4; clear hSSa13; have hSSrw14 := And.intro ((H5.out.2.2.1).c0) (And.intro ((H5.out.2.2.1).c1) (And.intro ((H5.out.2.2.2.1).c0) ((H5.out.2.2.2.1).c1))))
        refine hK.out _ _ ?_ (fun hHeld => ?_)
        · assumption
        clear hK K
        refine wpAnyH_ready (rs := [3]) (by kernel_rfl) (by simp) ?_
        refine AllReadyH.cons rfl (fun K hK => ?_) AllReadyH.nil
        go_simp
        go_wp2_with (have hx := H5; go_at_call 12; clear hx; refine (of_fresh (H5.out.2.2.2.2.2.1).toNm (by omega)).mono ?_; rintro e w15 ⟨s15, p15, c15, D15, rfl, n15, z15, f15, B15⟩; have ZLy := Lib.hid z15; have Q15B5 := lt_of_box (H5.out.2.2.2.2.2.2.1); have Q15B6 := lt_of_box (H5.out.2.2.2.2.2.2.2.1); have APyB5 := Lib.hid (apart_new (D := D15) f15 Q15B5); clear Q15B5; have APyB6 := Lib.hid (apart_new (D := D15) f15 Q15B6); clear Q15B6;  skip; have BZ := BZ.trans (B15.mono BZ.size); have H6 := Lib.hid (And.intro (H5.out.1.below B15) (And.intro (H5.out.2.1.trans (B15.mono H5.out.2.1.size)) (And.intro (H5.out.2.2.1.below B15) (And.intro (H5.out.2.2.2.1.below B15) (And.intro (H5.out.2.2.2.2.1.below B15) (And.intro (H5.out.2.2.2.2.2.1.below B15) (And.intro (H5.out.2.2.2.2.2.2.1.below B15) (And.intro (H5.out.2.2.2.2.2.2.2.1.below B15) (And.intro (H5.out.2.2.2.2.2.2.2.2.below B15) n15))))))))); clear n15 z15 f15 B15 H5; clear hSSrw14; have hSSrw15 := And.intro ((H6.out.2.2.1).c0) (And.intro ((H6.out.2.2.1).c1) (And.intro ((H6.out.2.2.2.1).c0) ((H6.out.2.2.2.1).c1))))
        refine hK.out _ _ ?_ (fun hHeld => ?_)
        · assumption
        clear hK K
        refine wpAnyH_ready (rs := [6]) (by kernel_rfl) (by simp) ?_
        refine AllReadyH.cons rfl (fun K hK => ?_) AllReadyH.nil
        have H7 := Lib.hid (And.intro H6.out.1 (And.intro H6.out.2.1 (And.intro H6.out.2.2.1 (And.intro H6.out.2.2.2.1 (And.intro H6.out.2.2.2.2.2.2.1 (And.intro H6.out.2.2.2.2.2.2.2.1 (And.intro H6.out.2.2.2.2.2.2.2.2.1 H6.out.2.2.2.2.2.2.2.2.2)))))))
        have hf0 := (H7.out.2.2.2.2.1).f0
        have hf1 := (H7.out.2.2.2.2.1).f1
        have hc0 := (H7.out.2.2.2.2.1).c0
        have hc1 := (H7.out.2.2.2.2.1).c1
        go_simp
        clear hf0 hf1 hc0 hc1
        obtain ⟨w16, hw16⟩ : ∃ w16, w16 = (w15.setCell ⟨wd.heap.size, 0, none⟩ (.bool s14)).setCell ⟨wd.heap.size, 1, none⟩ (.slice p14 D14.length c14) := ⟨_, rfl⟩
        rw [← hw16]
        have M16z : Box w16 (w.heap.size) (.bool s1) (.slice p1 l1.length c1) := by rw [hw16]; exact (H7.out.1).far (by omega) _ _
        have M16b : Below w.heap.size w w16 := by rw [hw16]; exact box_kept (H7.out.2.1) (by omega) _ _
        have M16X1 : Box w16 (w.heap.size) (.bool s1) (.slice p1 l1.length c1) := by rw [hw16]; exact (H7.out.2.2.1).far (by omega) _ _
        have M16X2 : Box w16 (w.heap.size + 1) (.bool s2) (.slice p2 l2.length c2) := by rw [hw16]; exact (H7.out.2.2.2.1).far (by omega) _ _
        have M16B5 : Box w16 (wd.heap.size) (.bool s14) (.slice p14 D14.length c14) := by rw [hw16]; exact (H7.out.2.2.2.2.1).put _ _
        have M16B6 : Box w16 (w12.heap.size) (.bool false) (.slice none 0 0) := by rw [hw16]; exact (H7.out.2.2.2.2.2.1).far (by omega) _ _
        have M16x : Dn w16 s14 p14 c14 D14 x := by rw [hw16]; exact (H7.out.2.2.2.2.2.2.1).apart APxB5.out _ _
        have M16y : Dn w16 s15 p15 c15 D15 y := by rw [hw16]; exact (H7.out.2.2.2.2.2.2.2).apart APyB5.out _ _
        have BZ : Below W.heap.size W w16 := by rw [hw16]; exact box_kept BZ (by omega) _ _
        have H8 := Lib.hid (And.intro M16z (And.intro M16b (And.intro M16X1 (And.intro M16X2 (And.intro M16B5 (And.intro M16B6 (And.intro M16x M16y)))))))
        clear M16z M16b M16X1 M16X2 M16B5 M16B6 M16x M16y hw16 H7
        clear hSSrw15
        have hSSb16 := And.intro ((H8.out.2.2.1).c0) (And.intro ((H8.out.2.2.1).c1) (And.intro ((H8.out.2.2.2.1).c0) ((H8.out.2.2.2.1).c1)))
        refine hK.out _ _ ?_ (fun hHeld => ?_)
        · assumption
        clear hK K
        refine wpAnyH_ready (rs := [7]) (by kernel_rfl) (by simp) ?_
        refine AllReadyH.cons rfl (fun K hK => ?_) AllReadyH.nil
        have hf0 := (H8.out.2.2.2.2.2.1).f0
        have hf1 := (H8.out.2.2.2.2.2.1).f1
        have hc0 := (H8.out.2.2.2.2.2.1).c0
        have hc1 := (H8.out.2.2.2.2.2.1).c1
        go_simp
        clear hf0 hf1 hc0 hc1
        obtain ⟨w17, hw17⟩ : ∃ w17, w17 = (w16.setCell ⟨w12.heap.size, 0, none⟩ (.bool s15)).setCell ⟨w12.heap.size, 1, none⟩ (.slice p15 D15.length c15) := ⟨_, rfl⟩
        rw [← hw17]
        have M17z : Box w17 (w.heap.size) (.bool s1) (.slice p1 l1.length c1) := by rw [hw17]; exact (H8.out.1).far (by omega) _ _
        have M17b : Below w.heap.size w w17 := by rw [hw17]; exact box_kept (H8.out.2.1) (by omega) _ _
        have M17X1 : Box w17 (w.heap.size) (.bool s1) (.slice p1 l1.length c1) := by rw [hw17]; exact (H8.out.2.2.1).far (by omega) _ _
        have M17X2 : Box w17 (w.heap.size + 1) (.bool s2) (.slice p2 l2.length c2) := by rw [hw17]; exact (H8.out.2.2.2.1).far (by omega) _ _
        have M17B5 : Box w17 (wd.heap.size) (.bool s14) (.slice p14 D14.length c14) := by rw [hw17]; exact (H8.out.2.2.2.2.1).far (by omega) _ _
        have M17B6 : Box w17 (w12.heap.size) (.bool s15) (.slice p15 D15.length c15) := by rw [hw17]; exact (H8.out.2.2.2.2.2.1).put _ _
        have M17x : Dn w17 s14 p14 c14 D14 x := by rw [hw17]; exact (H8.out.2.2.2.2.2.2.1).apart APxB6.out _ _
        have M17y : Dn w17 s15 p15 c15 D15 y := by rw [hw17]; exact (H8.out.2.2.2.2.2.2.2).apart APyB6.out _ _
        have BZ : Below W.heap.size W w17 := by rw [hw17]; exact box_kept BZ (by omega) _ _
        have H9 := Lib.hid (And.intro M17z (And.intro M17b (And.intro M17X1 (And.intro M17X2 (And.intro M17B5 (And.intro M17B6 (And.intro M17x M17y)))))))
        clear M17z M17b M17X1 M17X2 M17B5 M17B6 M17x M17y hw17 H8
        clear hSSb16
        have hSSb17 := And.intro ((H9.out.2.2.1).c0) (And.intro ((H9.out.2.2.1).c1) (And.intro ((H9.out.2.2.2.1).c0) ((H9.out.2.2.2.1).c1)))
        refine hK.out _ _ ?_ (fun hHeld => ?_)
        · assumption
        clear hK K
        refine wpAnyH_done (by kernel_rfl) (NoPanic.normal ?_) _
        clear hSSb17
        go_wp2_with fail
        go_meet
        exact ⟨_, _, s14, s15, p14, p15, c14, c15, D14, D15, rfl, rfl, H9.out.2.2.2.2.1, H9.out.2.2.2.2.2.1, H9.out.2.2.2.2.2.2.1, H9.out.2.2.2.2.2.2.2, by have := ZLx.out; omega, by have := ZLy.out; omega, BZ⟩
    · go_simp
      have LWB6 := BZ.size
      have LTB6X1 := lt_of_box (H2.out.2.2.1)
      have LTB6X2 := lt_of_box (H2.out.2.2.2.1)
      obtain ⟨w12, hw12⟩ : ∃ w12, w12 = wd.alloc (.cells #[.bool false, .slice none 0 0] 28) := ⟨_, rfl⟩
      rw [← hw12]
      have B12 : Below wd.heap.size wd w12 := by rw [hw12]; exact (Below.refl _ _).alloc (Nat.le_refl _) _
      have BZ := BZ.trans (B12.mono BZ.size)
      have N12 : Box w12 wd.heap.size (.bool false) (.slice none 0 0) := by rw [hw12]; exact box_fresh 28 _ _ _ rfl
      have H3 := Lib.hid (And.intro (H2.out.1.below B12) (And.intro (H2.out.2.1.trans (B12.mono H2.out.2.1.size)) (And.intro (H2.out.2.2.1.below B12) (And.intro (H2.out.2.2.2.1.below B12) (And.intro (H2.out.2.2.2.2.1.below B12) (And.intro (H2.out.2.2.2.2.2.below B12) N12))))))
      clear hw12 B12 N12 H2
      clear hSS
      have hSSa12 := And.intro ((H3.out.2.2.1).c0) (And.intro ((H3.out.2.2.1).c1) (And.intro ((H3.out.2.2.2.1).c0) ((H3.out.2.2.2.1).c1)))
      refine hK.out _ _ ?_ (fun hHeld => ?_)
      · assumption
      clear hK K
      refine wpAnyH_ready (rs := [1, 4]) (by kernel_rfl) (by simp) ?_
      refine AllReadyH.cons rfl (fun K hK => ?_) (AllReadyH.cons rfl (fun K hK => ?_) AllReadyH.nil)
      · go_simp
        go_wp2_with (have hx := H3; go_at_call 12; clear hx; refine (of_fresh (H3.out.2.2.2.2.1).toNm (by omega)).mono ?_; rintro e w13 ⟨s13, p13, c13, D13, rfl, n13, z13, f13, B13⟩; have ZLx := Lib.hid z13; have Q13B6 := lt_of_box (H3.out.2.2.2.2.2.2); have APxB6 := Lib.hid (apart_new (D := D13) f13 Q13B6); clear Q13B6;  skip; have BZ := BZ.trans (B13.mono BZ.size); have H4 := Lib.hid (And.intro (H3.out.1.below B13) (And.intro (H3.out.2.1.trans (B13.mono H3.out.2.1.size)) (And.intro (H3.out.2.2.1.below B13) (And.intro (H3.out.2.2.2.1.below B13) (And.intro (H3.out.2.2.2.2.1.below B13) (And.intro (H3.out.2.2.2.2.2.1.below B13) (And.intro (H3.out.2.2.2.2.2.2.below B13) n13))))))); clear n13 z13 f13 B13 H3; clear hSSa12; have hSSrw13 := And.intro ((H4.out.2.2.1).c0) (And.intro ((H4.out.2.2.1).c1) (And.intro ((H4.out.2.2.2.1).c0) ((H4.out.2.2.2.1).c1))))
        refine hK.out _ _ ?_ (fun hHeld => ?_)
        · assumption
        clear hK K
        refine wpAnyH_ready (rs := [3, 4]) (by kernel_rfl) (by simp) ?_
        refine AllReadyH.cons rfl (fun K hK => ?_) (AllReadyH.cons rfl (fun K hK => ?_) AllReadyH.nil)
        · go_simp
          go_wp2_with (have hx := H4; go_at_call 12; clear hx; refine (of_fresh (H4.out.2.2.2.2.2.1).toNm (by omega)).mono ?_; rintro e w14 ⟨s14, p14, c14, D14, rfl, n14, z14, f14, B14⟩; have ZLy := Lib.hid z14; have Q14B6 := lt_of_box (H4.out.2.2.2.2.2.2.1); have APyB6 := Lib.hid (apart_new (D := D14) f14 Q14B6); clear Q14B6;  skip; have BZ := BZ.trans (B14.mono BZ.size); have H5 := Lib.hid (And.intro (H4.out.1.below B14) (And.intro (H4.out.2.1.trans (B14.mono H4.out.2.1.size)) (And.intro (H4.out.2.2.1.below B14) (And.intro (H4.out.2.2.2.1.below B14) (And.intro (H4.out.2.2.2.2.1.below B14) (And.intro (H4.out.2.2.2.2.2.1.below B14) (And.intro (H4.out.2.2.2.2.2.2.1.below B14) (And.intro (H4.out.2.2.2.2.2.2.2.below B14) n14)))))))); clear n14 z14 f14 B14 H4; clear hSSrw13; have hSSrw14 := And.intro ((H5.out.2.2.1).c0) (And.intro ((H5.out.2.2.1).c1) (And.intro ((H5.out.2.2.2.1).c0) ((H5.out.2.2.2.1).c1))))
          refine hK.out _ _ ?_ (fun hHeld => ?_)
          · assumption
          clear hK K
          refine wpAnyH_ready (rs := [4]) (by kernel_rfl) (by simp) ?_
          refine AllReadyH.cons rfl (fun K hK => ?_) AllReadyH.nil
          go_simp
          have LWB5 := BZ.size
          have LTB5X1 := lt_of_box (H5.out.2.2.1)
          have LTB5X2 := lt_of_box (H5.out.2.2.2.1)
          have LTB5B6 := lt_of_box (H5.out.2.2.2.2.2.2.1)
          have APxB5 := Lib.hid (apart_old (H5.out.2.2.2.2.2.2.2.1) (Nat.le_refl w14.heap.size))
          have APyB5 := Lib.hid (apart_old (H5.out.2.2.2.2.2.2.2.2) (Nat.le_refl w14.heap.size))
          obtain ⟨w15, hw15⟩ : ∃ w15, w15 = w14.alloc (.cells #[.bool false, .slice none 0 0] 28) := ⟨_, rfl⟩
          rw [← hw15]
          have B15 : Below w14.heap.size w14 w15 := by rw [hw15]; exact (Below.refl _ _).alloc (Nat.le_refl _) _
          have BZ := BZ.trans (B15.mono BZ.size)
          have N15 : Box w15 w14.heap.size (.bool false) (.slice none 0 0) := by rw [hw15]; exact box_fresh 28 _ _ _ rfl
          have H6 := Lib.hid (And.intro (H5.out.1.below B15) (And.intro (H5.out.2.1.trans (B15.mono H5.out.2.1.size)) (And.intro (H5.out.2.2.1.below B15) (And.intro (H5.out.2.2.2.1.below B15) (And.intro (H5.out.2.2.2.2.1.below B15) (And.intro (H5.out.2.2.2.2.2.1.below B15) (And.intro (H5.out.2.2.2.2.2.2.1.below B15) (And.intro (H5.out.2.2.2.2.2.2.2.1.below B15) (And.intro (H5.out.2.2.2.2.2.2.2.2.below B15) N15)))))))))
          clear hw15 B15 N15 H5
          clear hSSrw14
          have hSSa15 := And.intro ((H6.out.2.2.1).c0) (And.intro ((H6.out.2.2.1).c1) (And.intro ((H6.out.2.2.2.1).c0) ((H6.out.2.2.2.1).c1)))
          refine hK.out _ _ ?_ (fun hHeld => ?_)
          · assumption
          clear hK K
          refine wpAnyH_ready (rs := [6]) (by kernel_rfl) (by simp) ?_
          refine AllReadyH.cons rfl (fun K hK => ?_) AllReadyH.nil
          have H7 := Lib.hid (And.intro H6.out.1 (And.intro H6.out.2.1 (And.intro H6.out.2.2.1 (And.intro H6.out.2.2.2.1 (And.intro H6.out.2.2.2.2.2.2.1 (And.intro H6.out.2.2.2.2.2.2.2.1 (And.intro H6.out.2.2.2.2.2.2.2.2.1 H6.out.2.2.2.2.2.2.2.2.2)))))))
          have hf0 := (H7.out.2.2.2.2.2.2.2).f0
          have hf1 := (H7.out.2.2.2.2.2.2.2).f1
          have hc0 := (H7.out.2.2.2.2.2.2.2).c0
          have hc1 := (H7.out.2.2.2.2.2.2.2).c1
          go_simp
          clear hf0 hf1 hc0 hc1
          obtain ⟨w16, hw16⟩ : ∃ w16, w16 = (w15.setCell ⟨w14.heap.size, 0, none⟩ (.bool s13)).setCell ⟨w14.heap.size, 1, none⟩ (.slice p13 D13.length c13) := ⟨_, rfl⟩
          rw [← hw16]
          have M16z : Box w16 (w.heap.size) (.bool s1) (.slice p1 l1.length c1) := by rw [hw16]; exact (H7.out.1).far (by omega) _ _
          have M16b : Below w.heap.size w w16 := by rw [hw16]; exact box_kept (H7.out.2.1) (by omega) _ _
          have M16X1 : Box w16 (w.heap.size) (.bool s1) (.slice p1 l1.length c1) := by rw [hw16]; exact (H7.out.2.2.1).far (by omega) _ _
          have M16X2 : Box w16 (w.heap.size + 1) (.bool s2) (.slice p2 l2.length c2) := by rw [hw16]; exact (H7.out.2.2.2.1).far (by omega) _ _
          have M16B6 : Box w16 (wd.heap.size) (.bool false) (.slice none 0 0) := by rw [hw16]; exact (H7.out.2.2.2.2.1).far (by omega) _ _
          have M16x : Dn w16 s13 p13 c13 D13 x := by rw [hw16]; exact (H7.out.2.2.2.2.2.1).apart APxB5.out _ _
          have M16y : Dn w16 s14 p14 c14 D14 y := by rw [hw16]; exact (H7.out.2.2.2.2.2.2.1).apart APyB5.out _ _
          have M16B5 : Box w16 (w14.heap.size) (.bool s13) (.slice p13 D13.length c13) := by rw [hw16]; exact (H7.out.2.2.2.2.2.2.2).put _ _
          have BZ : Below W.heap.size W w16 := by rw [hw16]; exact box_kept BZ (by omega) _ _
          have H8 := Lib.hid (And.intro M16z (And.intro M16b (And.intro M16X1 (And.intro M16X2 (And.intro M16B6 (And.intro M16x (And.intro M16y M16B5)))))))
          clear M16z M16b M16X1 M16X2 M16B6 M16x M16y M16B5 hw16 H7
          clear hSSa15
          have hSSb16 := And.intro ((H8.out.2.2.1).c0) (And.intro ((H8.out.2.2.1).c1) (And.intro ((H8.out.2.2.2.1).c0) ((H8.out.2.2.2.1).c1)))
          refine hK.out _ _ ?_ (fun hHeld => ?_)
          · assumption
          clear hK K
          refine wpAnyH_ready (rs := [7]) (by kernel_rfl) (by simp) ?_
          refine AllReadyH.cons rfl (fun K hK => ?_) AllReadyH.nil
          have hf0 := (H8.out.2.2.2.2.1).f0
          have hf1 := (H8.out.2.2.2.2.1).f1
          have hc0 := (H8.out.2.2.2.2.1).c0
          have hc1 := (H8.out.2.2.2.2.1).c1
          go_simp
          clear hf0 hf1 hc0 hc1
          obtain ⟨w17, hw17⟩ : ∃ w17, w17 = (w16.setCell ⟨wd.heap.size, 0, none⟩ (.bool s14)).setCell ⟨wd.heap.size, 1, none⟩ (.slice p14 D14.length c14) := ⟨_, rfl⟩
          rw [← hw17]
          have M17z : Box w17 (w.heap.size) (.bool s1) (.slice p1 l1.length c1) := by rw [hw17]; exact (H8.out.1).far (by omega) _ _
          have M17b : Below w.heap.size w w17 := by rw [hw17]; exact box_kept (H8.out.2.1) (by omega) _ _
          have M17X1 : Box w17 (w.heap.size) (.bool s1) (.slice p1 l1.length c1) := by rw [hw17]; exact (H8.out.2.2.1).far (by omega) _ _
          have M17X2 : Box w17 (w.heap.size + 1) (.bool s2) (.slice p2 l2.length c2) := by rw [hw17]; exact (H8.out.2.2.2.1).far (by omega) _ _
          have M17B6 : Box w17 (wd.heap.size) (.bool s14) (.slice p14 D14.length c14) := by rw [hw17]; exact (H8.out.2.2.2.2.1).put _ _
          have M17x : Dn w17 s13 p13 c13 D13 x := by rw [hw17]; exact (H8.out.2.2.2.2.2.1).apart APxB6.out _ _
          have M17y : Dn w17 s14 p14 c14 D14 y := by rw [hw17]; exact (H8.out.2.2.2.2.2.2.1).apart APyB6.out _ _
          have M17B5 : Box w17 (w14.heap.size) (.bool s13) (.slice p13 D13.length c13) := by rw [hw17]; exact (H8.out.2.2.2.2.2.2.2).far (by omega) _ _
          have BZ : Below W.heap.size W w17 := by rw [hw17]; exact box_kept BZ (by omega) _ _
          have H9 := Lib.hid (And.intro M17z (And.intro M17b (And.intro M17X1 (And.intro M17X2 (And.intro M17B6 (And.intro M17x (And.intro M17y M17B5)))))))
          clear M17z M17b M17X1 M17X2 M17B6 M17x M17y M17B5 hw17 H8
          clear hSSb16
          have hSSb17 := And.intro ((H9.out.2.2.1).c0) (And.intro ((H9.out.2.2.1).c1) (And.intro ((H9.out.2.2.2.1).c0) ((H9.out.2.2.2.1).c1)))
          refine hK.out _ _ ?_ (fun hHeld => ?_)
          · assumption
          clear hK K
          refine wpAnyH_done (by kernel_rfl) (NoPanic.normal ?_) _
          clear hSSb17
          go_wp2_with fail
          go_meet
          exact ⟨_, _, s13, s14, p13, p14, c13, c14, D13, D14, rfl, rfl, H9.out.2.2.2.2.2.2.2, H9.out.2.2.2.2.1, H9.out.2.2.2.2.2.1, H9.out.2.2.2.2.2.2.1, by have := ZLx.out; omega, by have := ZLy.out; omega, BZ⟩
        · go_simp
          have LWB5 := BZ.size
          have LTB5X1 := lt_of_box (H4.out.2.2.1)
          have LTB5X2 := lt_of_box (H4.out.2.2.2.1)
          have LTB5B6 := lt_of_box (H4.out.2.2.2.2.2.2.1)
          have APxB5 := Lib.hid (apart_old (H4.out.2.2.2.2.2.2.2) (Nat.le_refl w13.heap.size))
          obtain ⟨w14, hw14⟩ : ∃ w14, w14 = w13.alloc (.cells #[.bool false, .slice none 0 0] 28) := ⟨_, rfl⟩
          rw [← hw14]
          have B14 : Below w13.heap.size w13 w14 := by rw [hw14]; exact (Below.refl _ _).alloc (Nat.le_refl _) _
          have BZ := BZ.trans (B14.mono BZ.size)
          have N14 : Box w14 w13.heap.size (.bool false) (.slice none 0 0) := by rw [hw14]; exact box_fresh 28 _ _ _ rfl
          have H5 := Lib.hid (And.intro (H4.out.1.below B14) (And.intro (H4.out.2.1.trans (B14.mono H4.out.2.1.size)) (And.intro (H4.out.2.2.1.below B14) (And.intro (H4.out.2.2.2.1.below B14) (And.intro (H4.out.2.2.2.2.1.below B14) (And.intro (H4.out.2.2.2.2.2.1.below B14) (And.intro (H4.out.2.2.2.2.2.2.1.below B14) (And.intro (H4.out.2.2.2.2.2.2.2.below B14) N14))))))))
          clear hw14 B14 N14 H4
          clear hSSrw13
          have hSSa14 := And.intro ((H5.out.2.2.1).c0) (And.intro ((H5.out.2.2.1).c1) (And.intro ((H5.out.2.2.2.1).c0) ((H5.out.2.2.2.1).c1)))
          refine hK.out _ _ ?_ (fun hHeld => ?_)
          · assumption
          clear hK K
          refine wpAnyH_ready (rs := [3]) (by kernel_rfl) (by simp) ?_
          refine AllReadyH.cons rfl (fun K hK => ?_) AllReadyH.nil
          go_simp
          go_wp2_with (have hx := H5; go_at_call 12; clear hx; refine (of_fresh (H5.out.2.2.2.2.2.1).toNm (by omega)).mono ?_; rintro e w15 ⟨s15, p15, c15, D15, rfl, n15, z15, f15, B15⟩; have ZLy := Lib.hid z15; have Q15B5 := lt_of_box (H5.out.2.2.2.2.2.2.2.2); have Q15B6 := lt_of_box (H5.out.2.2.2.2.2.2.1); have APyB5 := Lib.hid (apart_new (D := D15) f15 Q15B5); clear Q15B5; have APyB6 := Lib.hid (apart_new (D := D15) f15 Q15B6); clear Q15B6;  skip; have BZ := BZ.trans (B15.mono BZ.size); have H6 := Lib.hid (And.intro (H5.out.1.below B15) (And.intro (H5.out.2.1.trans (B15.mono H5.out.2.1.size)) (And.intro (H5.out.2.2.1.below B15) (And.intro (H5.out.2.2.2.1.below B15) (And.intro (H5.out.2.2.2.2.1.below B15) (And.intro (H5.out.2.2.2.2.2.1.below B15) (And.intro (H5.out.2.2.2.2.2.2.1.below B15) (And.intro (H5.out.2.2.2.2.2.2.2.1.below B15) (And.intro (H5.out.2.2.2.2.2.2.2.2.below B15) n15))))))))); clear n15 z15 f15 B15 H5; clear hSSa14; have hSSrw15 := And.intro ((H6.out.2.2.1).c0) (And.intro ((H6.out.2.2.1).c1) (And.intro ((H6.out.2.2.2.1).c0) ((H6.out.2.2.2.1).c1))))
          refine hK.out _ _ ?_ (fun hHeld => ?_)
          · assumption
          clear hK K
          refine wpAnyH_ready (rs := [6]) (by kernel_rfl) (by simp) ?_
          refine AllReadyH.cons rfl (fun K hK => ?_) AllReadyH.nil
          have H7 := Lib.hid (And.intro H6.out.1 (And.intro H6.out.2.1 (And.intro H6.out.2.2.1 (And.intro H6.out.2.2.2.1 (And.intro H6.out.2.2.2.2.2.2.1 (And.intro H6.out.2.2.2.2.2.2.2.1 (And.intro H6.out.2.2.2.2.2.2.2.2.1 H6.out.2.2.2.2.2.2.2.2.2)))))))
          have hf0 := (H7.out.2.2.2.2.2.2.1).f0
          have hf1 := (H7.out.2.2.2.2.2.2.1).f1
          have hc0 := (H7.out.2.2.2.2.2.2.1).c0
          have hc1 := (H7.out.2.2.2.2.2.2.1).c1
          go_simp
          clear hf0 hf1 hc0 hc1
          obtain ⟨w16, hw16⟩ : ∃ w16, w16 = (w15.setCell ⟨w13.heap.size, 0, none⟩ (.bool s13)).setCell ⟨w13.heap.size, 1, none⟩ (.slice p13 D13.length c13) := ⟨_, rfl⟩
          rw [← hw16]
          have M16z : Box w16 (w.heap.size) (.bool s1) (.slice p1 l1.length c1) := by rw [hw16]; exact (H7.out.1).far (by omega) _ _
          have M16b : Below w.heap.size w w16 := by rw [hw16]; exact box_kept (H7.out.2.1) (by omega) _ _
          have M16X1 : Box w16 (w.heap.size) (.bool s1) (.slice p1 l1.length c1) := by rw [hw16]; exact (H7.out.2.2.1).far (by omega) _ _
          have M16X2 : Box w16 (w.heap.size + 1) (.bool s2) (.slice p2 l2.length c2) := by rw [hw16]; exact (H7.out.2.2.2.1).far (by omega) _ _
          have M16B6 : Box w16 (wd.heap.size) (.bool false) (.slice none 0 0) := by rw [hw16]; exact (H7.out.2.2.2.2.1).far (by omega) _ _
          have M16x : Dn w16 s13 p13 c13 D13 x := by rw [hw16]; exact (H7.out.2.2.2.2.2.1).apart APxB5.out _ _
          have M16B5 : Box w16 (w13.heap.size) (.bool s13) (.slice p13 D13.length c13) := by rw [hw16]; exact (H7.out.2.2.2.2.2.2.1).put _ _
          have M16y : Dn w16 s15 p15 c15 D15 y := by rw [hw16]; exact (H7.out.2.2.2.2.2.2.2).apart APyB5.out _ _
          have BZ : Below W.heap.size W w16 := by rw [hw16]; exact box_kept BZ (by omega) _ _
          have H8 := Lib.hid (And.intro M16z (And.intro M16b (And.intro M16X1 (And.intro M16X2 (And.intro M16B6 (And.intro M16x (And.intro M16B5 M16y)))))))
          clear M16z M16b M16X1 M16X2 M16B6 M16x M16B5 M16y hw16 H7
          clear hSSrw15
          have hSSb16 := And.intro ((H8.out.2.2.1).c0) (And.intro ((H8.out.2.2.1).c1) (And.intro ((H8.out.2.2.2.1).c0) ((H8.out.2.2.2.1).c1)))
          refine hK.out _ _ ?_ (fun hHeld => ?_)
          · assumption
          clear hK K
          refine wpAnyH_ready (rs := [7]) (by kernel_rfl) (by simp) ?_
          refine AllReadyH.cons rfl (fun K hK => ?_) AllReadyH.nil
          have hf0 := (H8.out.2.2.2.2.1).f0
          have hf1 := (H8.out.2.2.2.2.1).f1
          have hc0 := (H8.out.2.2.2.2.1).c0
          have hc1 := (H8.out.2.2.2.2.1).c1
          go_simp
          clear hf0 hf1 hc0 hc1
          obtain ⟨w17, hw17⟩ : ∃ w17, w17 = (w16.setCell ⟨wd.heap.size, 0, none⟩ (.bool s15)).setCell ⟨wd.heap.size, 1, none⟩ (.slice p15 D15.length c15) := ⟨_, rfl⟩
          rw [← hw17]
          have M17z : Box w17 (w.heap.size) (.bool s1) (.slice p1 l1.length c1) := by rw [hw17]; exact (H8.out.1).far (by omega) _ _
          have M17b : Below w.heap.size w w17 := by rw [hw17]; exact box_kept (H8.out.2.1) (by omega) _ _
          have M17X1 : Box w17 (w.heap.size) (.bool s1) (.slice p1 l1.length c1) := by rw [hw17]; exact (H8.out.2.2.1).far (by omega) _ _
          have M17X2 : Box w17 (w.heap.size + 1) (.bool s2) (.slice p2 l2.length c2) := by rw [hw17]; exact (H8.out.2.2.2.1).far (by omega) _ _
          have M17B6 : Box w17 (wd.heap.size) (.bool s15) (.slice p15 D15.length c15) := by rw [hw17]; exact (H8.out.2.2.2.2.1).put _ _
          have M17x : Dn w17 s13 p13 c13 D13 x := by rw [hw17]; exact (H8.out.2.2.2.2.2.1).apart APxB6.out _ _
          have M17B5 : Box w17 (w13.heap.size) (.bool s13) (.slice p13 D13.length c13) := by rw [hw17]; exact (H8.out.2.2.2.2.2.2.1).far (by omega) _ _
          have M17y : Dn w17 s15 p15 c15 D15 y := by rw [hw17]; exact (H8.out.2.2.2.2.2.2.2).apart APyB6.out _ _
          have BZ : Below W.heap.size W w17 := by rw [hw17]; exact box_kept BZ (by omega) _ _
          have H9 := Lib.hid (And.intro M17z (And.intro M17b (And.intro M17X1 (And.intro M17X2 (And.intro M17B6 (And.intro M17x (And.intro M17B5 M17y)))))))
          clear M17z M17b M17X1 M17X2 M17B6 M17x M17B5 M17y hw17 H8
          clear hSSb16
          have hSSb17 := And.intro ((H9.out.2.2.1).c0) (And.intro ((H9.out.2.2.1).c1) (And.intro ((H9.out.2.2.2.1).c0) ((H9.out.2.2.2.1).c1)))
          refine hK.out _ _ ?_ (fun hHeld => ?_)
          · assumption
          clear hK K
          refine wpAnyH_done (by kernel_rfl) (NoPanic.normal ?_) _
          clear hSSb17
          go_wp2_with fail
          go_meet
          exact ⟨_, _, s13, s15, p13, p15, c13, c15, D13, D15, rfl, rfl, H9.out.2.2.2.2.2.2.1, H9.out.2.2.2.2.1, H9.out.2.2.2.2.2.1, H9.out.2.2.2.2.2.2.2, by have := ZLx.out; omega, by have := ZLy.out; omega, BZ⟩
      · go_simp
        have LWB5 := BZ.size
        have LTB5X1 := lt_of_box (H3.out.2.2.1)
        have LTB5X2 := lt_of_box (H3.out.2.2.2.1)
        have LTB5B6 := lt_of_box (H3.out.2.2.2.2.2.2)
        obtain ⟨w13, hw13⟩ : ∃ w13, w13 = w12.alloc (.cells #[.bool false, .slice none 0 0] 28) := ⟨_, rfl⟩
        rw [← hw13]
        have B13 : Below w12.heap.size w12 w13 := by rw [hw13]; exact (Below.refl _ _).alloc (Nat.le_refl _) _
        have BZ := BZ.trans (B13.mono BZ.size)
        have N13 : Box w13 w12.heap.size (.bool false) (.slice none 0 0) := by rw [hw13]; exact box_fresh 28 _ _ _ rfl
        have H4 := Lib.hid (And.intro (H3.out.1.below B13) (And.intro (H3.out.2.1.trans (B13.mono H3.out.2.1.size)) (And.intro (H3.out.2.2.1.below B13) (And.intro (H3.out.2.2.2.1.below B13) (And.intro (H3.out.2.2.2.2.1.below B13) (And.intro (H3.out.2.2.2.2.2.1.below B13) (And.intro (H3.out.2.2.2.2.2.2.below B13) N13)))))))
        clear hw13 B13 N13 H3
        clear hSSa12
        have hSSa13 := And.intro ((H4.out.2.2.1).c0) (And.intro ((H4.out.2.2.1).c1) (And.intro ((H4.out.2.2.2.1).c0) ((H4.out.2.2.2.1).c1)))
        refine hK.out _ _ ?_ (fun hHeld => ?_)
        · assumption
        clear hK K
        refine wpAnyH_ready (rs := [1]) (by kernel_rfl) (by simp) ?_
        refine AllReadyH.cons rfl (fun K hK => ?_) AllReadyH.nil
        go_simp
        go_wp2_with (have hx := H4; go_at_call 12; clear hx; refine (of_fresh (H4.out.2.2.2.2.1).toNm (by omega)).mono ?_; rintro e w14 ⟨s14, p14, c14, D14, rfl, n14, z14, f14, B14⟩; have ZLx := Lib.hid z14; have Q14B5 := lt_of_box (H4.out.2.2.2.2.2.2.2); have Q14B6 := lt_of_box (H4.out.2.2.2.2.2.2.1); have APxB5 := Lib.hid (apart_new (D := D14) f14 Q14B5); clear Q14B5; have APxB6 := Lib.hid (apart_new (D := D14) f14 Q14B6); clear Q14B6;  skip; have BZ := BZ.trans (B14.mono BZ.size); have H5 := Lib.hid (And.intro (H4.out.1.below B14) (And.intro (H4.out.2.1.trans (B14.mono H4.out.2.1.size)) (And.intro (H4.out.2.2.1.below B14) (And.intro (H4.out.2.2.2.1.below B14) (And.intro (H4.out.2.2.2.2.1.below B14) (And.intro (H4.out.2.2.2.2.2.1.below B14) (And.intro (H4.out.2.2.2.2.2.2.1.below B14) (And.intro (H4.out.2.2.2.2.2.2.2.below B14) n14)))))))); clear n14 z14 f14 B14 H4; clear hSSa13; have hSSrw14 := And.intro ((H5.out.2.2.1).c0) (And.intro ((H5.out.2.2.1).c1) (And.intro ((H5.out.2.2.2.1).c0) ((H5.out.2.2.2.1).c1))))
        refine hK.out _ _ ?_ (fun hHeld => ?_)
        · assumption
        clear hK K
        refine wpAnyH_ready (rs := [3]) (by kernel_rfl) (by simp) ?_
        refine AllReadyH.cons rfl (fun K hK => ?_) AllReadyH.nil
        go_simp
        go_wp2_with (have hx := H5; go_at_call 12; clear hx; refine (of_fresh (H5.out.2.2.2.2.2.1).toNm (by omega)).mono ?_; rintro e w15 ⟨s15, p15, c15, D15, rfl, n15, z15, f15, B15⟩; have ZLy := Lib.hid z15; have Q15B5 := lt_of_box (H5.out.2.2.2.2.2.2.2.1); have Q15B6 := lt_of_box (H5.out.2.2.2.2.2.2.1); have APyB5 := Lib.hid (apart_new (D := D15) f15 Q15B5); clear Q15B5; have APyB6 := Lib.hid (apart_new (D := D15) f15 Q15B6); clear Q15B6;  skip; have BZ := BZ.trans (B15.mono BZ.size); have H6 := Lib.hid (And.intro (H5.out.1.below B15) (And.intro (H5.out.2.1.trans (B15.mono H5.out.2.1.size)) (And.intro (H5.out.2.2.1.below B15) (And.intro (H5.out.2.2.2.1.below B15) (And.intro (H5.out.2.2.2.2.1.below B15) (And.intro (H5.out.2.2.2.2.2.1.below B15) (And.intro (H5.out.2.2.2.2.2.2.1.below B15) (And.intro (H5.out.2.2.2.2.2.2.2.1.below B15) (And.intro (H5.out.2.2.2.2.2.2.2.2.below B15) n15))))))))); clear n15 z15 f15 B15 H5; clear hSSrw14; have hSSrw15 := And.intro ((H6.out.2.2.1).c0) (And.intro ((H6.out.2.2.1).c1) (And.intro ((H6.out.2.2.2.1).c0) ((H6.out.2.2.2.1).c1))))
        refine hK.out _ _ ?_ (fun hHeld => ?_)
        · assumption
        clear hK K
        refine wpAnyH_ready (rs := [6]) (by kernel_rfl) (by simp) ?_
        refine AllReadyH.cons rfl (fun K hK => ?_) AllReadyH.nil
        have H7 := Lib.hid (And.intro H6.out.1 (And.intro H6.out.2.1 (And.intro H6.out.2.2.1 (And.intro H6.out.2.2.2.1 (And.intro H6.out.2.2.2.2.2.2.1 (And.intro H6.out.2.2.2.2.2.2.2.1 (And.intro H6.out.2.2.2.2.2.2.2.2.1 H6.out.2.2.2.2.2.2.2.2.2)))))))
        have hf0 := (H7.out.2.2.2.2.2.1).f0
        have hf1 := (H7.out.2.2.2.2.2.1).f1
        have hc0 := (H7.out.2.2.2.2.2.1).c0
        have hc1 := (H7.out.2.2.2.2.2.1).c1
        go_simp
        clear hf0 hf1 hc0 hc1
        obtain ⟨w16, hw16⟩ : ∃ w16, w16 = (w15.setCell ⟨w12.heap.size, 0, none⟩ (.bool s14)).setCell ⟨w12.heap.size, 1, none⟩ (.slice p14 D14.length c14) := ⟨_, rfl⟩
        rw [← hw16]
        have M16z : Box w16 (w.heap.size) (.bool s1) (.slice p1 l1.length c1) := by rw [hw16]; exact (H7.out.1).far (by omega) _ _
        have M16b : Below w.heap.size w w16 := by rw [hw16]; exact box_kept (H7.out.2.1) (by omega) _ _
        have M16X1 : Box w16 (w.heap.size) (.bool s1) (.slice p1 l1.length c1) := by rw [hw16]; exact (H7.out.2.2.1).far (by omega) _ _
        have M16X2 : Box w16 (w.heap.size + 1) (.bool s2) (.slice p2 l2.length c2) := by rw [hw16]; exact (H7.out.2.2.2.1).far (by omega) _ _
        have M16B6 : Box w16 (wd.heap.size) (.bool false) (.slice none 0 0) := by rw [hw16]; exact (H7.out.2.2.2.2.1).far (by omega) _ _
        have M16B5 : Box w16 (w12.heap.size) (.bool s14) (.slice p14 D14.length c14) := by rw [hw16]; exact (H7.out.2.2.2.2.2.1).put _ _
        have M16x : Dn w16 s14 p14 c14 D14 x := by rw [hw16]; exact (H7.out.2.2.2.2.2.2.1).apart APxB5.out _ _
        have M16y : Dn w16 s15 p15 c15 D15 y := by rw [hw16]; exact (H7.out.2.2.2.2.2.2.2).apart APyB5.out _ _
        have BZ : Below W.heap.size W w16 := by rw [hw16]; exact box_kept BZ (by omega) _ _
        have H8 := Lib.hid (And.intro M16z (And.intro M16b (And.intro M16X1 (And.intro M16X2 (And.intro M16B6 (And.intro M16B5 (And.intro M16x M16y)))))))
        clear M16z M16b M16X1 M16X2 M16B6 M16B5 M16x M16y hw16 H7
        clear hSSrw15
        have hSSb16 := And.intro ((H8.out.2.2.1).c0) (And.intro ((H8.out.2.2.1).c1) (And.intro ((H8.out.2.2.2.1).c0) ((H8.out.2.2.2.1).c1)))
        refine hK.out _ _ ?_ (fun hHeld => ?_)
        · assumption
        clear hK K
        refine wpAnyH_ready (rs := [7]) (by kernel_rfl) (by simp) ?_
        refine AllReadyH.cons rfl (fun K hK => ?_) AllReadyH.nil
        have hf0 := (H8.out.2.2.2.2.1).f0
        have hf1 := (H8.out.2.2.2.2.1).f1
        have hc0 := (H8.out.2.2.2.2.1).c0
        have hc1 := (H8.out.2.2.2.2.1).c1
        go_simp
        clear hf0 hf1 hc0 hc1
        obtain ⟨w17, hw17⟩ : ∃ w17, w17 = (w16.setCell ⟨wd.heap.size, 0, none⟩ (.bool s15)).setCell ⟨wd.heap.size, 1, none⟩ (.slice p15 D15.length c15) := ⟨_, rfl⟩
        rw [← hw17]
        have M17z : Box w17 (w.heap.size) (.bool s1) (.slice p1 l1.length c1) := by rw [hw17]; exact (H8.out.1).far (by omega) _ _
        have M17b : Below w.heap.size w w17 := by rw [hw17]; exact box_kept (H8.out.2.1) (by omega) _ _
        have M17X1 : Box w17 (w.heap.size) (.bool s1) (.slice p1 l1.length c1) := by rw [hw17]; exact (H8.out.2.2.1).far (by omega) _ _
        have M17X2 : Box w17 (w.heap.size + 1) (.bool s2) (.slice p2 l2.length c2) := by rw [hw17]; exact (H8.out.2.2.2.1).far (by omega) _ _
        have M17B6 : Box w17 (wd.heap.size) (.bool s15) (.slice p15 D15.length c15) := by rw [hw17]; exact (H8.out.2.2.2.2.1).put _ _
        have M17B5 : Box w17 (w12.heap.size) (.bool s14) (.slice p14 D14.length c14) := by rw [hw17]; exact (H8.out.2.2.2.2.2.1).far (by omega) _ _
        have M17x : Dn w17 s14 p14 c14 D14 x := by rw [hw17]; exact (H8.out.2.2.2.2.2.2.1).apart APxB6.out _ _
        have M17y : Dn w17 s15 p15 c15 D15 y := by rw [hw17]; exact (H8.out.2.2.2.2.2.2.2).apart APyB6.out _ _
        have BZ : Below W.heap.size W w17 := by rw [hw17]; exact box_kept BZ (by omega) _ _
        have H9 := Lib.hid (And.intro M17z (And.intro M17b (And.intro M17X1 (And.intro M17X2 (And.intro M17B6 (And.intro M17B5 (And.intro M17x M17y)))))))
        clear M17z M17b M17X1 M17X2 M17B6 M17B5 M17x M17y hw17 H8
        clear hSSb16
        have hSSb17 := And.intro ((H9.out.2.2.1).c0) (And.intro ((H9.out.2.2.1).c1) (And.intro ((H9.out.2.2.2.1).c0) ((H9.out.2.2.2.1).c1)))
        refine hK.out _ _ ?_ (fun hHeld => ?_)
        · assumption
        clear hK K
        refine wpAnyH_done (by kernel_rfl) (NoPanic.normal ?_) _
        clear hSSb17
        go_wp2_with fail
        go_meet
        exact ⟨_, _, s14, s15, p14, p15, c14, c15, D14, D15, rfl, rfl, H9.out.2.2.2.2.2.1, H9.out.2.2.2.2.1, H9.out.2.2.2.2.2.2.1, H9.out.2.2.2.2.2.2.2, by have := ZLx.out; omega, by have := ZLy.out; omega, BZ⟩
  case rest =>
    obtain ⟨b5, b6, sx, sy, qx, qy, dx, dy, Dx, Dy, rfl, rfl, hR⟩ := hcut
    obtain ⟨w212, hw212⟩ : ∃ w212, w212 = wc := ⟨_, rfl⟩
    rw [← hw212] at hR ⊢
    clear hw212
    have BR := hR.out.2.2.2.2.2.2
    have H2 := Lib.hid (And.intro (H1.out.1.below BR) (And.intro (H1.out.2.1.trans (BR.mono H1.out.2.1.size)) (And.intro (H1.out.2.2.1.below BR) (And.intro (H1.out.2.2.2.1.below BR) (And.intro (H1.out.2.2.2.2.1.below BR) (And.intro (H1.out.2.2.2.2.2.below BR) (And.intro hR.out.1 (And.intro hR.out.2.1 (And.intro hR.out.2.2.1 hR.out.2.2.2.1)))))))))
    clear BR
    have HLn := Lib.hid (And.intro hR.out.2.2.2.2.1 hR.out.2.2.2.2.2.1)
    have HBW := Lib.hid (H2.out.2.1)
    have H3 := Lib.hid (And.intro (HT.out.below hR.out.2.2.2.2.2.2) (And.intro (Below.refl w212.heap.size w212) (And.intro H2.out.2.2.1 (And.intro H2.out.2.2.2.1 (And.intro H2.out.2.2.2.2.1 (And.intro H2.out.2.2.2.2.2.1 (And.intro H2.out.2.2.2.2.2.2.1 (And.intro H2.out.2.2.2.2.2.2.2.1 (And.intro H2.out.2.2.2.2.2.2.2.2.1 H2.out.2.2.2.2.2.2.2.2.2)))))))))
    clear hR
    go_upto_region 4 with fail
    go_cut [7, 8, 9] (fun u v z wx => ∃ (b7 b8 b9 : Nat) (s7 s8 s9 : Bool) (p7 p8 p9 : Option Addr) (c7 c8 c9 : Nat) (D7 D8 D9 : List Int), u = .pointer (some ⟨b7, 0, none⟩) ∧ v = .pointer (some ⟨b8, 0, none⟩) ∧ z = .pointer (some ⟨b9, 0, none⟩) ∧ Hid ((Box wx b7 (.bool s7) (.slice p7 D7.length c7) ∧ Box wx b8 (.bool s8) (.slice p8 D8.length c8) ∧ Box wx b9 (.bool s9) (.slice p9 D9.length c9)) ∧ (Nu 61 wx s7 p7 c7 D7 (x + y) ∧ Bg.Can 65536 s7 D7 ∧ Own 52 .u16 w212.heap.size wx (.slice p7 D7.length c7) D7) ∧ (Nu 61 wx s8 p8 c8 D8 (x - y) ∧ Bg.Can 65536 s8 D8) ∧ (Nu 120 wx s9 p9 c9 D9 (x * y) ∧ Bg.Can 65536 s9 D9 ∧ Own 52 .u16 w212.heap.size wx (.slice p9 D9.length c9) D9) ∧ (∀ g, Value.ownBlock (.slice p7 D7.length c7) = some g → Value.ownBlock (.slice p9 D9.length c9) ≠ some g) ∧ Below w212.heap.size w212 wx))
    case first =>
      refine region4 H3.out.2.2.1 H3.out.2.2.2.1 H3.out.2.2.2.2.1 H3.out.2.2.2.2.2.1 _ _ _ _ _ _ _ _ _ _ _ _ _ _ _ _ _ _ _ _ _ _ _ _ _ _ _ _ _ _ _ _ _ _ _ _ _ _ _ _ _ _ _ _ _ _ _ _ _ _ _ _ _ _ _ _ _ _ _ _ _ _ _ _ _ _ _ _ _ _ _ _ _ _ _ _ _ _ _ _ _ _ _ _ _ _ _ _ _ _ _ _ _ _ _ _ _ _ _ _ _ _ _ ?_
      intro b7 b8 b9 sA sB sC pA pB pC cA cB cC DA DB DC wx hH
      go_wp2_with fail
      go_meet
      exact ⟨b7, b8, b9, sA, sB, sC, pA, pB, pC, cA, cB, cC, DA, DB, DC, rfl, rfl, rfl, Lib.hid ⟨⟨hH.out.1, hH.out.2.1, hH.out.2.2.1⟩, ⟨hH.out.2.2.2.1.nu, hH.out.2.2.2.1.can, hH.out.2.2.2.1.own⟩, ⟨hH.out.2.2.2.2.1.nu, hH.out.2.2.2.2.1.can⟩, ⟨hH.out.2.2.2.2.2.1.nu, hH.out.2.2.2.2.2.1.can, hH.out.2.2.2.2.2.1.own⟩, hH.out.2.2.2.2.2.2.1, hH.out.2.2.2.2.2.2.2⟩⟩
    case rest =>
      obtain ⟨b7, b8, b9, s7, s8, s9, p7, p8, p9, c7, c8, c9, D7, D8, D9, rfl, rfl, rfl, hR⟩ := hcut
      obtain ⟨w213, hw213⟩ : ∃ w213, w213 = wc := ⟨_, rfl⟩
      rw [← hw213] at hR ⊢
      clear hw213
      obtain ⟨⟨x7, x8, x9⟩, ⟨n7, k7, o7⟩, ⟨n8, k8⟩, ⟨n9, k9, o9⟩, hap, BR⟩ := hR.out
      have HAP := Lib.hid hap
      have H4 := Lib.hid (And.intro (H3.out.1.below BR) (And.intro (H3.out.2.1.trans (BR.mono H3.out.2.1.size)) (And.intro (H3.out.2.2.1.below BR) (And.intro (H3.out.2.2.2.1.below BR) (And.intro (H3.out.2.2.2.2.1.below BR) (And.intro (H3.out.2.2.2.2.2.1.below BR) (And.intro (H3.out.2.2.2.2.2.2.1.below BR) (And.intro (H3.out.2.2.2.2.2.2.2.1.below BR) (And.intro (H3.out.2.2.2.2.2.2.2.2.1.below BR) (And.intro (H3.out.2.2.2.2.2.2.2.2.2.below BR) (And.intro x7 (And.intro x8 (And.intro x9 (And.intro n7 (And.intro k7 (And.intro n8 (And.intro k8 (And.intro n9 (And.intro k9 (And.intro o7 o9))))))))))))))))))))
      clear x7 x8 x9 n7 k7 o7 n8 k8 n9 k9 o9 hap BR hR
      go_upto_region 5 with fail
      go_cut [66] (fun v wx => v = .bool false ∧ Hid (Below w213.heap.size w213 wx))
      case first =>
        have BZ := Below.refl w213.heap.size w213
        have B215 : Below w213.heap.size w213 w213.drew := (Below.refl _ _).drew
        have BZ := BZ.trans (B215.mono BZ.size)
        have H5 := Lib.hid (And.intro (H4.out.1.below B215) (And.intro (H4.out.2.1.trans (B215.mono H4.out.2.1.size)) (And.intro (H4.out.2.2.1.below B215) (And.intro (H4.out.2.2.2.1.below B215) (And.intro (H4.out.2.2.2.2.1.below B215) (And.intro (H4.out.2.2.2.2.2.1.below B215) (And.intro (H4.out.2.2.2.2.2.2.1.below B215) (And.intro (H4.out.2.2.2.2.2.2.2.1.below B215) (And.intro (H4.out.2.2.2.2.2.2.2.2.1.below B215) (And.intro (H4.out.2.2.2.2.2.2.2.2.2.1.below B215) (And.intro (H4.out.2.2.2.2.2.2.2.2.2.2.1.below B215) (And.intro (H4.out.2.2.2.2.2.2.2.2.2.2.2.1.below B215) (And.intro (H4.out.2.2.2.2.2.2.2.2.2.2.2.2.1.below B215) (And.intro (H4.out.2.2.2.2.2.2.2.2.2.2.2.2.2.1.below B215) (And.intro (H4.out.2.2.2.2.2.2.2.2.2.2.2.2.2.2.1.below B215) (And.intro (H4.out.2.2.2.2.2.2.2.2.2.2.2.2.2.2.2.1.below B215) (And.intro (H4.out.2.2.2.2.2.2.2.2.2.2.2.2.2.2.2.2.1.below B215) (And.intro (H4.out.2.2.2.2.2.2.2.2.2.2.2.2.2.2.2.2.2.1.below B215) (And.intro (H4.out.2.2.2.2.2.2.2.2.2.2.2.2.2.2.2.2.2.2.1.below B215) (And.intro (H4.out.2.2.2.2.2.2.2.2.2.2.2.2.2.2.2.2.2.2.2.1.below B215) (H4.out.2.2.2.2.2.2.2.2.2.2.2.2.2.2.2.2.2.2.2.2.below B215)))))))))))))))))))))
        clear B215
        have hSS : w213.drew.cell? ⟨w.heap.size, 0, none⟩ = some (.bool s1) ∧ w213.drew.cell? ⟨w.heap.size, 1, none⟩ = some (.slice p1 l1.length c1) ∧ w213.drew.cell? ⟨w.heap.size + 1, 0, none⟩ = some (.bool s2) ∧ w213.drew.cell? ⟨w.heap.size + 1, 1, none⟩ = some (.slice p2 l2.length c2) ∧ w213.drew.cell? ⟨b5, 0, none⟩ = some (.bool sx) ∧ w213.drew.cell? ⟨b5, 1, none⟩ = some (.slice qx Dx.length dx) ∧ w213.drew.cell? ⟨b6, 0, none⟩ = some (.bool sy) ∧ w213.drew.cell? ⟨b6, 1, none⟩ = some (.slice qy Dy.length dy) ∧ w213.drew.cell? ⟨b7, 0, none⟩ = some (.bool s7) ∧ w213.drew.cell? ⟨b7, 1, none⟩ = some (.slice p7 D7.length c7) ∧ w213.drew.cell? ⟨b8, 0, none⟩ = some (.bool s8) ∧ w213.drew.cell? ⟨b8, 1, none⟩ = some (.slice p8 D8.length c8) ∧ w213.drew.cell? ⟨b9, 0, none⟩ = some (.bool s9) ∧ w213.drew.cell? ⟨b9, 1, none⟩ = some (.slice p9 D9.length c9) := And.intro ((H5.out.2.2.1).c0) (And.intro ((H5.out.2.2.1).c1) (And.intro ((H5.out.2.2.2.1).c0) (And.intro ((H5.out.2.2.2.1).c1) (And.intro ((H5.out.2.2.2.2.2.2.1).c0) (And.intro ((H5.out.2.2.2.2.2.2.1).c1) (And.intro ((H5.out.2.2.2.2.2.2.2.1).c0) (And.intro ((H5.out.2.2.2.2.2.2.2.1).c1) (And.intro ((H5.out.2.2.2.2.2.2.2.2.2.2.1).c0) (And.intro ((H5.out.2.2.2.2.2.2.2.2.2.2.1).c1) (And.intro ((H5.out.2.2.2.2.2.2.2.2.2.2.2.1).c0) (And.intro ((H5.out.2.2.2.2.2.2.2.2.2.2.2.1).c1) (And.intro ((H5.out.2.2.2.2.2.2.2.2.2.2.2.2.1).c0) ((H5.out.2.2.2.2.2.2.2.2.2.2.2.2.1).c1)))))))))))))
        refine wp_region_noPanic ?_
        refine wp_region_held_drew (S := fun w' => w'.cell? ⟨w.heap.size, 0, none⟩ = some (.bool s1) ∧ w'.cell? ⟨w.heap.size, 1, none⟩ = some (.slice p1 l1.length c1) ∧ w'.cell? ⟨w.heap.size + 1, 0, none⟩ = some (.bool s2) ∧ w'.cell? ⟨w.heap.size + 1, 1, none⟩ = some (.slice p2 l2.length c2) ∧ w'.cell? ⟨b5, 0, none⟩ = some (.bool sx) ∧ w'.cell? ⟨b5, 1, none⟩ = some (.slice qx Dx.length dx) ∧ w'.cell? ⟨b6, 0, none⟩ = some (.bool sy) ∧ w'.cell? ⟨b6, 1, none⟩ = some (.slice qy Dy.length dy) ∧ w'.cell? ⟨b7, 0, none⟩ = some (.bool s7) ∧ w'.cell? ⟨b7, 1, none⟩ = some (.slice p7 D7.length c7) ∧ w'.cell? ⟨b8, 0, none⟩ = some (.bool s8) ∧ w'.cell? ⟨b8, 1, none⟩ = some (.slice p8 D8.length c8) ∧ w'.cell? ⟨b9, 0, none⟩ = some (.bool s9) ∧ w'.cell? ⟨b9, 1, none⟩ = some (.slice p9 D9.length c9)) (by kernel_rfl) hSS (fun hHeld => ?_)
        refine wpAnyH_take (i := 0) (oi := { dst := some 36, op := Op.load 24 (Operand.tmp 2), type := 24, pos := "law.go:68", after := #[], guard := none }) (v := ?_) rfl (by kernel_rfl) (by kernel_rfl) (by kernel_rfl) (fun _ _ _ h => h) (Or.inl ⟨by rfl, ?_⟩) (by assumption) ?_
        rotate_left
        · (intro w0 hSw; (try dsimp only at hSw); go_simp; (try with_reducible rfl))
        try simp only [Act.put, List.setIfInBounds_toArray, List.set_cons_zero, List.set_cons_succ]
        refine wpAnyH_take (i := 1) (oi := { dst := some 37, op := Op.load 24 (Operand.tmp 3), type := 24, pos := "law.go:68", after := #[], guard := none }) (v := ?_) rfl (by kernel_rfl) (by kernel_rfl) (by kernel_rfl) (fun _ _ _ h => h) (Or.inl ⟨by rfl, ?_⟩) (by assumption) ?_
        rotate_left
        · (intro w0 hSw; (try dsimp only at hSw); go_simp; (try with_reducible rfl))
        try simp only [Act.put, List.setIfInBounds_toArray, List.set_cons_zero, List.set_cons_succ]
        refine wpAnyH_take (i := 3) (oi := { dst := some 39, op := Op.load 28 (Operand.tmp 5), type := 28, pos := "law.go:68", after := #[], guard := none }) (v := ?_) rfl (by kernel_rfl) (by kernel_rfl) (by kernel_rfl) (fun _ _ _ h => h) (Or.inl ⟨by rfl, ?_⟩) (by assumption) ?_
        rotate_left
        · (intro w0 hSw; (try dsimp only at hSw); go_simp; (try with_reducible rfl))
        try simp only [Act.put, List.setIfInBounds_toArray, List.set_cons_zero, List.set_cons_succ]
        refine wpAnyH_take (i := 4) (oi := { dst := some 40, op := Op.load 28 (Operand.tmp 6), type := 28, pos := "law.go:68", after := #[], guard := none }) (v := ?_) rfl (by kernel_rfl) (by kernel_rfl) (by kernel_rfl) (fun _ _ _ h => h) (Or.inl ⟨by rfl, ?_⟩) (by assumption) ?_
        rotate_left
        · (intro w0 hSw; (try dsimp only at hSw); go_simp; (try with_reducible rfl))
        try simp only [Act.put, List.setIfInBounds_toArray, List.set_cons_zero, List.set_cons_succ]
        refine wpAnyH_ready (rs := [2]) (by kernel_rfl) (by simp) ?_
        refine AllReadyH.cons rfl (fun K hK => ?_) AllReadyH.nil
        go_simp
        go_wp2_with (have hx := H5; go_at_call 27; clear hx; refine (cmp_nu H5.out.2.2.2.2.1 H5.out.2.2.2.2.2.1 (by decide) (by decide)).mono ?_; rintro e w216 ⟨rfl, B216⟩; have BZ := BZ.trans (B216.mono BZ.size); have H6 := Lib.hid (And.intro (H5.out.1.below B216) (And.intro (H5.out.2.1.trans (B216.mono H5.out.2.1.size)) (And.intro (H5.out.2.2.1.below B216) (And.intro (H5.out.2.2.2.1.below B216) (And.intro (H5.out.2.2.2.2.1.below B216) (And.intro (H5.out.2.2.2.2.2.1.below B216) (And.intro (H5.out.2.2.2.2.2.2.1.below B216) (And.intro (H5.out.2.2.2.2.2.2.2.1.below B216) (And.intro (H5.out.2.2.2.2.2.2.2.2.1.below B216) (And.intro (H5.out.2.2.2.2.2.2.2.2.2.1.below B216) (And.intro (H5.out.2.2.2.2.2.2.2.2.2.2.1.below B216) (And.intro (H5.out.2.2.2.2.2.2.2.2.2.2.2.1.below B216) (And.intro (H5.out.2.2.2.2.2.2.2.2.2.2.2.2.1.below B216) (And.intro (H5.out.2.2.2.2.2.2.2.2.2.2.2.2.2.1.below B216) (And.intro (H5.out.2.2.2.2.2.2.2.2.2.2.2.2.2.2.1.below B216) (And.intro (H5.out.2.2.2.2.2.2.2.2.2.2.2.2.2.2.2.1.below B216) (And.intro (H5.out.2.2.2.2.2.2.2.2.2.2.2.2.2.2.2.2.1.below B216) (And.intro (H5.out.2.2.2.2.2.2.2.2.2.2.2.2.2.2.2.2.2.1.below B216) (And.intro (H5.out.2.2.2.2.2.2.2.2.2.2.2.2.2.2.2.2.2.2.1.below B216) (And.intro (H5.out.2.2.2.2.2.2.2.2.2.2.2.2.2.2.2.2.2.2.2.1.below B216) (H5.out.2.2.2.2.2.2.2.2.2.2.2.2.2.2.2.2.2.2.2.2.below B216))))))))))))))))))))); clear B216 H5; clear hSS; have hSS216 := And.intro ((H6.out.2.2.1).c0) (And.intro ((H6.out.2.2.1).c1) (And.intro ((H6.out.2.2.2.1).c0) (And.intro ((H6.out.2.2.2.1).c1) (And.intro ((H6.out.2.2.2.2.2.2.1).c0) (And.intro ((H6.out.2.2.2.2.2.2.1).c1) (And.intro ((H6.out.2.2.2.2.2.2.2.1).c0) (And.intro ((H6.out.2.2.2.2.2.2.2.1).c1) (And.intro ((H6.out.2.2.2.2.2.2.2.2.2.2.1).c0) (And.intro ((H6.out.2.2.2.2.2.2.2.2.2.2.1).c1) (And.intro ((H6.out.2.2.2.2.2.2.2.2.2.2.2.1).c0) (And.intro ((H6.out.2.2.2.2.2.2.2.2.2.2.2.1).c1) (And.intro ((H6.out.2.2.2.2.2.2.2.2.2.2.2.2.1).c0) ((H6.out.2.2.2.2.2.2.2.2.2.2.2.2.1).c1))))))))))))))
        refine hK.out _ _ ?_ (fun hHeld => ?_)
        · assumption
        clear hK K
        refine wpAnyH_ready (rs := [5]) (by kernel_rfl) (by simp) ?_
        refine AllReadyH.cons rfl (fun K hK => ?_) AllReadyH.nil
        go_simp
        go_wp2_with (have hx := H6; go_at_call 28; clear hx; refine (rcmp_at H6.out.2.2.2.2.2.2.2.2.1 H6.out.2.2.2.2.2.2.2.2.2.1).mono ?_; rintro e w217 ⟨rfl, B217⟩; have BZ := BZ.trans (B217.mono BZ.size); have H7 := Lib.hid (And.intro (H6.out.1.below B217) (And.intro (H6.out.2.1.trans (B217.mono H6.out.2.1.size)) (And.intro (H6.out.2.2.1.below B217) (And.intro (H6.out.2.2.2.1.below B217) (And.intro (H6.out.2.2.2.2.1.below B217) (And.intro (H6.out.2.2.2.2.2.1.below B217) (And.intro (H6.out.2.2.2.2.2.2.1.below B217) (And.intro (H6.out.2.2.2.2.2.2.2.1.below B217) (And.intro (H6.out.2.2.2.2.2.2.2.2.1.below B217) (And.intro (H6.out.2.2.2.2.2.2.2.2.2.1.below B217) (And.intro (H6.out.2.2.2.2.2.2.2.2.2.2.1.below B217) (And.intro (H6.out.2.2.2.2.2.2.2.2.2.2.2.1.below B217) (And.intro (H6.out.2.2.2.2.2.2.2.2.2.2.2.2.1.below B217) (And.intro (H6.out.2.2.2.2.2.2.2.2.2.2.2.2.2.1.below B217) (And.intro (H6.out.2.2.2.2.2.2.2.2.2.2.2.2.2.2.1.below B217) (And.intro (H6.out.2.2.2.2.2.2.2.2.2.2.2.2.2.2.2.1.below B217) (And.intro (H6.out.2.2.2.2.2.2.2.2.2.2.2.2.2.2.2.2.1.below B217) (And.intro (H6.out.2.2.2.2.2.2.2.2.2.2.2.2.2.2.2.2.2.1.below B217) (And.intro (H6.out.2.2.2.2.2.2.2.2.2.2.2.2.2.2.2.2.2.2.1.below B217) (And.intro (H6.out.2.2.2.2.2.2.2.2.2.2.2.2.2.2.2.2.2.2.2.1.below B217) (H6.out.2.2.2.2.2.2.2.2.2.2.2.2.2.2.2.2.2.2.2.2.below B217))))))))))))))))))))); clear B217 H6; clear hSS216; have hSS217 := And.intro ((H7.out.2.2.1).c0) (And.intro ((H7.out.2.2.1).c1) (And.intro ((H7.out.2.2.2.1).c0) (And.intro ((H7.out.2.2.2.1).c1) (And.intro ((H7.out.2.2.2.2.2.2.1).c0) (And.intro ((H7.out.2.2.2.2.2.2.1).c1) (And.intro ((H7.out.2.2.2.2.2.2.2.1).c0) (And.intro ((H7.out.2.2.2.2.2.2.2.1).c1) (And.intro ((H7.out.2.2.2.2.2.2.2.2.2.2.1).c0) (And.intro ((H7.out.2.2.2.2.2.2.2.2.2.2.1).c1) (And.intro ((H7.out.2.2.2.2.2.2.2.2.2.2.2.1).c0) (And.intro ((H7.out.2.2.2.2.2.2.2.2.2.2.2.1).c1) (And.intro ((H7.out.2.2.2.2.2.2.2.2.2.2.2.2.1).c0) ((H7.out.2.2.2.2.2.2.2.2.2.2.2.2.1).c1))))))))))))))
        refine hK.out _ _ ?_ (fun hHeld => ?_)
        · assumption
        clear hK K
        refine wpAnyH_take (i := 6) (oi := { dst := some 42, op := Op.binOp BinOp.neq 3 (Operand.tmp 38) (Operand.tmp 41) 3, type := 4, pos := "law.go:68", after := #[{ on := 2, ground := Ground.data }, { on := 5, ground := Ground.data }], guard := none }) (v := ?_) rfl (by kernel_rfl) (by kernel_rfl) (by kernel_rfl) (fun _ _ _ h => h) (Or.inl ⟨by rfl, ?_⟩) (by assumption) ?_
        rotate_left
        · (intro w0 hSw; (try dsimp only at hSw); go_simp; (try with_reducible rfl))
        try simp only [Act.put, List.setIfInBounds_toArray, List.set_cons_zero, List.set_cons_succ]
        refine wpAnyH_take (i := 7) (oi := { dst := some 43, op := Op.move (Operand.tmp 42), type := 4, pos := "law.go:68", after := #[{ on := 6, ground := Ground.data }, { on := 5, ground := Ground.chain }], guard := none }) (v := ?_) rfl (by kernel_rfl) (by kernel_rfl) (by kernel_rfl) (fun _ _ _ h => h) (Or.inl ⟨by rfl, ?_⟩) (by assumption) ?_
        rotate_left
        · (intro w0 hSw; (try dsimp only at hSw); go_simp; (try with_reducible rfl))
        try simp only [Act.put, List.setIfInBounds_toArray, List.set_cons_zero, List.set_cons_succ]
        refine wpAnyH_take (i := 8) (oi := { dst := some 44, op := Op.load 24 (Operand.tmp 7), type := 24, pos := "law.go:68", after := #[{ on := 7, ground := Ground.guard }], guard := some (7, false) }) (v := ?_) rfl (by kernel_rfl) (by kernel_rfl) (by kernel_rfl) (fun _ _ _ h => h) (Or.inl ⟨by rfl, ?_⟩) (by assumption) ?_
        rotate_left
        · (intro w0 hSw; (try dsimp only at hSw); go_simp; (try with_reducible rfl))
        try simp only [Act.put, List.setIfInBounds_toArray, List.set_cons_zero, List.set_cons_succ]
        refine wpAnyH_take (i := 9) (oi := { dst := some 45, op := Op.load 28 (Operand.tmp 5), type := 28, pos := "law.go:68", after := #[{ on := 7, ground := Ground.guard }], guard := some (7, false) }) (v := ?_) rfl (by kernel_rfl) (by kernel_rfl) (by kernel_rfl) (fun _ _ _ h => h) (Or.inl ⟨by rfl, ?_⟩) (by assumption) ?_
        rotate_left
        · (intro w0 hSw; (try dsimp only at hSw); go_simp; (try with_reducible rfl))
        try simp only [Act.put, List.setIfInBounds_toArray, List.set_cons_zero, List.set_cons_succ]
        refine wpAnyH_take (i := 10) (oi := { dst := some 46, op := Op.load 28 (Operand.tmp 6), type := 28, pos := "law.go:68", after := #[{ on := 7, ground := Ground.guard }], guard := some (7, false) }) (v := ?_) rfl (by kernel_rfl) (by kernel_rfl) (by kernel_rfl) (fun _ _ _ h => h) (Or.inl ⟨by rfl, ?_⟩) (by assumption) ?_
        rotate_left
        · (intro w0 hSw; (try dsimp only at hSw); go_simp; (try with_reducible rfl))
        try simp only [Act.put, List.setIfInBounds_toArray, List.set_cons_zero, List.set_cons_succ]
        refine wpAnyH_ready (rs := [11]) (by kernel_rfl) (by simp) ?_
        refine AllReadyH.cons rfl (fun K hK => ?_) AllReadyH.nil
        go_simp
        go_wp2_with (have hx := H7; go_at_call 29; clear hx; refine (radd_at H7.out.2.2.2.2.2.2.2.2.1 H7.out.2.2.2.2.2.2.2.2.2.1 (by have := HLn.out; omega) (by have := HLn.out; omega)).mono ?_; rintro e w218 ⟨s218, p218, c218, D218, rfl, n218, z218, -, B218⟩; skip; have BZ := BZ.trans (B218.mono BZ.size); have H8 := Lib.hid (And.intro (H7.out.1.below B218) (And.intro (H7.out.2.1.trans (B218.mono H7.out.2.1.size)) (And.intro (H7.out.2.2.1.below B218) (And.intro (H7.out.2.2.2.1.below B218) (And.intro (H7.out.2.2.2.2.1.below B218) (And.intro (H7.out.2.2.2.2.2.1.below B218) (And.intro (H7.out.2.2.2.2.2.2.1.below B218) (And.intro (H7.out.2.2.2.2.2.2.2.1.below B218) (And.intro (H7.out.2.2.2.2.2.2.2.2.1.below B218) (And.intro (H7.out.2.2.2.2.2.2.2.2.2.1.below B218) (And.intro (H7.out.2.2.2.2.2.2.2.2.2.2.1.below B218) (And.intro (H7.out.2.2.2.2.2.2.2.2.2.2.2.1.below B218) (And.intro (H7.out.2.2.2.2.2.2.2.2.2.2.2.2.1.below B218) (And.intro (H7.out.2.2.2.2.2.2.2.2.2.2.2.2.2.1.below B218) (And.intro (H7.out.2.2.2.2.2.2.2.2.2.2.2.2.2.2.1.below B218) (And.intro (H7.out.2.2.2.2.2.2.2.2.2.2.2.2.2.2.2.1.below B218) (And.intro (H7.out.2.2.2.2.2.2.2.2.2.2.2.2.2.2.2.2.1.below B218) (And.intro (H7.out.2.2.2.2.2.2.2.2.2.2.2.2.2.2.2.2.2.1.below B218) (And.intro (H7.out.2.2.2.2.2.2.2.2.2.2.2.2.2.2.2.2.2.2.1.below B218) (And.intro (H7.out.2.2.2.2.2.2.2.2.2.2.2.2.2.2.2.2.2.2.2.1.below B218) (And.intro (H7.out.2.2.2.2.2.2.2.2.2.2.2.2.2.2.2.2.2.2.2.2.below B218) n218))))))))))))))))))))); clear n218 B218 H7; clear hSS217; have hSSrw218 := And.intro ((H8.out.2.2.1).c0) (And.intro ((H8.out.2.2.1).c1) (And.intro ((H8.out.2.2.2.1).c0) (And.intro ((H8.out.2.2.2.1).c1) (And.intro ((H8.out.2.2.2.2.2.2.1).c0) (And.intro ((H8.out.2.2.2.2.2.2.1).c1) (And.intro ((H8.out.2.2.2.2.2.2.2.1).c0) (And.intro ((H8.out.2.2.2.2.2.2.2.1).c1) (And.intro ((H8.out.2.2.2.2.2.2.2.2.2.2.1).c0) (And.intro ((H8.out.2.2.2.2.2.2.2.2.2.2.1).c1) (And.intro ((H8.out.2.2.2.2.2.2.2.2.2.2.2.1).c0) (And.intro ((H8.out.2.2.2.2.2.2.2.2.2.2.2.1).c1) (And.intro ((H8.out.2.2.2.2.2.2.2.2.2.2.2.2.1).c0) ((H8.out.2.2.2.2.2.2.2.2.2.2.2.2.1).c1))))))))))))))
        refine hK.out _ _ ?_ (fun hHeld => ?_)
        · assumption
        clear hK K
        refine wpAnyH_ready (rs := [12]) (by kernel_rfl) (by simp) ?_
        refine AllReadyH.cons rfl (fun K hK => ?_) AllReadyH.nil
        go_simp
        go_wp2_with (have hx := H8; go_at_call 13; clear hx; refine (alike_at H8.out.2.2.2.2.2.2.2.2.2.2.2.2.2.1.toNm H8.out.2.2.2.2.2.2.2.2.2.2.2.2.2.2.1 H8.out.2.2.2.2.2.2.2.2.2.2.2.2.2.2.2.2.2.2.2.2.2 (by have := HLn.out; omega)).mono ?_; rintro e w219 ⟨rfl, B219⟩; have BZ := BZ.trans (B219.mono BZ.size); have H9 := Lib.hid (And.intro (H8.out.1.below B219) (And.intro (H8.out.2.1.trans (B219.mono H8.out.2.1.size)) (And.intro (H8.out.2.2.1.below B219) (And.intro (H8.out.2.2.2.1.below B219) (And.intro (H8.out.2.2.2.2.1.below B219) (And.intro (H8.out.2.2.2.2.2.1.below B219) (And.intro (H8.out.2.2.2.2.2.2.1.below B219) (And.intro (H8.out.2.2.2.2.2.2.2.1.below B219) (And.intro (H8.out.2.2.2.2.2.2.2.2.1.below B219) (And.intro (H8.out.2.2.2.2.2.2.2.2.2.1.below B219) (And.intro (H8.out.2.2.2.2.2.2.2.2.2.2.1.below B219) (And.intro (H8.out.2.2.2.2.2.2.2.2.2.2.2.1.below B219) (And.intro (H8.out.2.2.2.2.2.2.2.2.2.2.2.2.1.below B219) (And.intro (H8.out.2.2.2.2.2.2.2.2.2.2.2.2.2.1.below B219) (And.intro (H8.out.2.2.2.2.2.2.2.2.2.2.2.2.2.2.1.below B219) (And.intro (H8.out.2.2.2.2.2.2.2.2.2.2.2.2.2.2.2.1.below B219) (And.intro (H8.out.2.2.2.2.2.2.2.2.2.2.2.2.2.2.2.2.1.below B219) (And.intro (H8.out.2.2.2.2.2.2.2.2.2.2.2.2.2.2.2.2.2.1.below B219) (And.intro (H8.out.2.2.2.2.2.2.2.2.2.2.2.2.2.2.2.2.2.2.1.below B219) (And.intro (H8.out.2.2.2.2.2.2.2.2.2.2.2.2.2.2.2.2.2.2.2.1.below B219) (And.intro (H8.out.2.2.2.2.2.2.2.2.2.2.2.2.2.2.2.2.2.2.2.2.1.below B219) (H8.out.2.2.2.2.2.2.2.2.2.2.2.2.2.2.2.2.2.2.2.2.2.below B219)))))))))))))))))))))); clear B219 H8; clear hSSrw218; have hSS219 := And.intro ((H9.out.2.2.1).c0) (And.intro ((H9.out.2.2.1).c1) (And.intro ((H9.out.2.2.2.1).c0) (And.intro ((H9.out.2.2.2.1).c1) (And.intro ((H9.out.2.2.2.2.2.2.1).c0) (And.intro ((H9.out.2.2.2.2.2.2.1).c1) (And.intro ((H9.out.2.2.2.2.2.2.2.1).c0) (And.intro ((H9.out.2.2.2.2.2.2.2.1).c1) (And.intro ((H9.out.2.2.2.2.2.2.2.2.2.2.1).c0) (And.intro ((H9.out.2.2.2.2.2.2.2.2.2.2.1).c1) (And.intro ((H9.out.2.2.2.2.2.2.2.2.2.2.2.1).c0) (And.intro ((H9.out.2.2.2.2.2.2.2.2.2.2.2.1).c1) (And.intro ((H9.out.2.2.2.2.2.2.2.2.2.2.2.2.1).c0) ((H9.out.2.2.2.2.2.2.2.2.2.2.2.2.1).c1))))))))))))))
        refine hK.out _ _ ?_ (fun hHeld => ?_)
        · assumption
        clear hK K
        refine wpAnyH_take (i := 13) (oi := { dst := some 49, op := Op.unOp UnOp.not 4 (Operand.tmp 48), type := 4, pos := "law.go:68", after := #[{ on := 12, ground := Ground.data }, { on := 7, ground := Ground.guard }], guard := some (7, false) }) (v := ?_) rfl (by kernel_rfl) (by kernel_rfl) (by kernel_rfl) (fun _ _ _ h => h) (Or.inl ⟨by rfl, ?_⟩) (by assumption) ?_
        rotate_left
        · (intro w0 hSw; (try dsimp only at hSw); go_simp; (try with_reducible rfl))
        try simp only [Act.put, List.setIfInBounds_toArray, List.set_cons_zero, List.set_cons_succ]
        refine wpAnyH_take (i := 14) (oi := { dst := some 50, op := Op.pick (Operand.tmp 43) (Operand.const (Value.bool true)) (Operand.tmp 49), type := 4, pos := "law.go:68", after := #[{ on := 7, ground := Ground.data }, { on := 13, ground := Ground.data }], guard := none }) (v := ?_) rfl (by kernel_rfl) (by kernel_rfl) (by kernel_rfl) (fun _ _ _ h => h) (Or.inl ⟨by rfl, ?_⟩) (by assumption) ?_
        rotate_left
        · (intro w0 hSw; (try dsimp only at hSw); go_simp; (try with_reducible rfl))
        try simp only [Act.put, List.setIfInBounds_toArray, List.set_cons_zero, List.set_cons_succ]
        refine wpAnyH_take (i := 15) (oi := { dst := some 51, op := Op.move (Operand.tmp 50), type := 4, pos := "law.go:68", after := #[{ on := 14, ground := Ground.data }, { on := 12, ground := Ground.chain }], guard := none }) (v := ?_) rfl (by kernel_rfl) (by kernel_rfl) (by kernel_rfl) (fun _ _ _ h => h) (Or.inl ⟨by rfl, ?_⟩) (by assumption) ?_
        rotate_left
        · (intro w0 hSw; (try dsimp only at hSw); go_simp; (try with_reducible rfl))
        try simp only [Act.put, List.setIfInBounds_toArray, List.set_cons_zero, List.set_cons_succ]
        refine wpAnyH_take (i := 16) (oi := { dst := some 52, op := Op.load 24 (Operand.tmp 8), type := 24, pos := "law.go:68", after := #[{ on := 15, ground := Ground.guard }], guard := some (15, false) }) (v := ?_) rfl (by kernel_rfl) (by kernel_rfl) (by kernel_rfl) (fun _ _ _ h => h) (Or.inl ⟨by rfl, ?_⟩) (by assumption) ?_
        rotate_left
        · (intro w0 hSw; (try dsimp only at hSw); go_simp; (try with_reducible rfl))
        try simp only [Act.put, List.setIfInBounds_toArray, List.set_cons_zero, List.set_cons_succ]
        refine wpAnyH_take (i := 17) (oi := { dst := some 53, op := Op.load 28 (Operand.tmp 5), type := 28, pos := "law.go:68", after := #[{ on := 15, ground := Ground.guard }], guard := some (15, false) }) (v := ?_) rfl (by kernel_rfl) (by kernel_rfl) (by kernel_rfl) (fun _ _ _ h => h) (Or.inl ⟨by rfl, ?_⟩) (by assumption) ?_
        rotate_left
        · (intro w0 hSw; (try dsimp only at hSw); go_simp; (try with_reducible rfl))
        try simp only [Act.put, List.setIfInBounds_toArray, List.set_cons_zero, List.set_cons_succ]
        refine wpAnyH_take (i := 18) (oi := { dst := some 54, op := Op.load 28 (Operand.tmp 6), type := 28, pos := "law.go:68", after := #[{ on := 15, ground := Ground.guard }], guard := some (15, false) }) (v := ?_) rfl (by kernel_rfl) (by kernel_rfl) (by kernel_rfl) (fun _ _ _ h => h) (Or.inl ⟨by rfl, ?_⟩) (by assumption) ?_
        rotate_left
        · (intro w0 hSw; (try dsimp only at hSw); go_simp; (try with_reducible rfl))
        try simp only [Act.put, List.setIfInBounds_toArray, List.set_cons_zero, List.set_cons_succ]
        refine wpAnyH_ready (rs := [19]) (by kernel_rfl) (by simp) ?_
        refine AllReadyH.cons rfl (fun K hK => ?_) AllReadyH.nil
        go_simp
        go_wp2_with (have hx := H9; go_at_call 30; clear hx; refine (rsub_at H9.out.2.2.2.2.2.2.2.2.1 H9.out.2.2.2.2.2.2.2.2.2.1 (by have := HLn.out; omega) (by have := HLn.out; omega)).mono ?_; rintro e w220 ⟨s220, p220, c220, D220, rfl, n220, z220, B220⟩; have BZ := BZ.trans (B220.mono BZ.size); have H10 := Lib.hid (And.intro (H9.out.1.below B220) (And.intro (H9.out.2.1.trans (B220.mono H9.out.2.1.size)) (And.intro (H9.out.2.2.1.below B220) (And.intro (H9.out.2.2.2.1.below B220) (And.intro (H9.out.2.2.2.2.1.below B220) (And.intro (H9.out.2.2.2.2.2.1.below B220) (And.intro (H9.out.2.2.2.2.2.2.1.below B220) (And.intro (H9.out.2.2.2.2.2.2.2.1.below B220) (And.intro (H9.out.2.2.2.2.2.2.2.2.1.below B220) (And.intro (H9.out.2.2.2.2.2.2.2.2.2.1.below B220) (And.intro (H9.out.2.2.2.2.2.2.2.2.2.2.1.below B220) (And.intro (H9.out.2.2.2.2.2.2.2.2.2.2.2.1.below B220) (And.intro (H9.out.2.2.2.2.2.2.2.2.2.2.2.2.1.below B220) (And.intro (H9.out.2.2.2.2.2.2.2.2.2.2.2.2.2.1.below B220) (And.intro (H9.out.2.2.2.2.2.2.2.2.2.2.2.2.2.2.1.below B220) (And.intro (H9.out.2.2.2.2.2.2.2.2.2.2.2.2.2.2.2.1.below B220) (And.intro (H9.out.2.2.2.2.2.2.2.2.2.2.2.2.2.2.2.2.1.below B220) (And.intro (H9.out.2.2.2.2.2.2.2.2.2.2.2.2.2.2.2.2.2.1.below B220) (And.intro (H9.out.2.2.2.2.2.2.2.2.2.2.2.2.2.2.2.2.2.2.1.below B220) (And.intro (H9.out.2.2.2.2.2.2.2.2.2.2.2.2.2.2.2.2.2.2.2.1.below B220) (And.intro (H9.out.2.2.2.2.2.2.2.2.2.2.2.2.2.2.2.2.2.2.2.2.1.below B220) (And.intro (H9.out.2.2.2.2.2.2.2.2.2.2.2.2.2.2.2.2.2.2.2.2.2.below B220) n220)))))))))))))))))))))); clear n220 B220 H9; clear hSS219; have hSS220 := And.intro ((H10.out.2.2.1).c0) (And.intro ((H10.out.2.2.1).c1) (And.intro ((H10.out.2.2.2.1).c0) (And.intro ((H10.out.2.2.2.1).c1) (And.intro ((H10.out.2.2.2.2.2.2.1).c0) (And.intro ((H10.out.2.2.2.2.2.2.1).c1) (And.intro ((H10.out.2.2.2.2.2.2.2.1).c0) (And.intro ((H10.out.2.2.2.2.2.2.2.1).c1) (And.intro ((H10.out.2.2.2.2.2.2.2.2.2.2.1).c0) (And.intro ((H10.out.2.2.2.2.2.2.2.2.2.2.1).c1) (And.intro ((H10.out.2.2.2.2.2.2.2.2.2.2.2.1).c0) (And.intro ((H10.out.2.2.2.2.2.2.2.2.2.2.2.1).c1) (And.intro ((H10.out.2.2.2.2.2.2.2.2.2.2.2.2.1).c0) ((H10.out.2.2.2.2.2.2.2.2.2.2.2.2.1).c1))))))))))))))
        refine hK.out _ _ ?_ (fun hHeld => ?_)
        · assumption
        clear hK K
        refine wpAnyH_ready (rs := [20]) (by kernel_rfl) (by simp) ?_
        refine AllReadyH.cons rfl (fun K hK => ?_) AllReadyH.nil
        go_simp
        go_wp2_with (have hx := H10; go_at_call 13; clear hx; refine (alike_at H10.out.2.2.2.2.2.2.2.2.2.2.2.2.2.2.2.1.toNm H10.out.2.2.2.2.2.2.2.2.2.2.2.2.2.2.2.2.1 H10.out.2.2.2.2.2.2.2.2.2.2.2.2.2.2.2.2.2.2.2.2.2.2 (by have := HLn.out; omega)).mono ?_; rintro e w221 ⟨rfl, B221⟩; have BZ := BZ.trans (B221.mono BZ.size); have H11 := Lib.hid (And.intro (H10.out.1.below B221) (And.intro (H10.out.2.1.trans (B221.mono H10.out.2.1.size)) (And.intro (H10.out.2.2.1.below B221) (And.intro (H10.out.2.2.2.1.below B221) (And.intro (H10.out.2.2.2.2.1.below B221) (And.intro (H10.out.2.2.2.2.2.1.below B221) (And.intro (H10.out.2.2.2.2.2.2.1.below B221) (And.intro (H10.out.2.2.2.2.2.2.2.1.below B221) (And.intro (H10.out.2.2.2.2.2.2.2.2.1.below B221) (And.intro (H10.out.2.2.2.2.2.2.2.2.2.1.below B221) (And.intro (H10.out.2.2.2.2.2.2.2.2.2.2.1.below B221) (And.intro (H10.out.2.2.2.2.2.2.2.2.2.2.2.1.below B221) (And.intro (H10.out.2.2.2.2.2.2.2.2.2.2.2.2.1.below B221) (And.intro (H10.out.2.2.2.2.2.2.2.2.2.2.2.2.2.1.below B221) (And.intro (H10.out.2.2.2.2.2.2.2.2.2.2.2.2.2.2.1.below B221) (And.intro (H10.out.2.2.2.2.2.2.2.2.2.2.2.2.2.2.2.1.below B221) (And.intro (H10.out.2.2.2.2.2.2.2.2.2.2.2.2.2.2.2.2.1.below B221) (And.intro (H10.out.2.2.2.2.2.2.2.2.2.2.2.2.2.2.2.2.2.1.below B221) (And.intro (H10.out.2.2.2.2.2.2.2.2.2.2.2.2.2.2.2.2.2.2.1.below B221) (And.intro (H10.out.2.2.2.2.2.2.2.2.2.2.2.2.2.2.2.2.2.2.2.1.below B221) (And.intro (H10.out.2.2.2.2.2.2.2.2.2.2.2.2.2.2.2.2.2.2.2.2.1.below B221) (And.intro (H10.out.2.2.2.2.2.2.2.2.2.2.2.2.2.2.2.2.2.2.2.2.2.1.below B221) (H10.out.2.2.2.2.2.2.2.2.2.2.2.2.2.2.2.2.2.2.2.2.2.2.below B221))))))))))))))))))))))); clear B221 H10; clear hSS220; have hSS221 := And.intro ((H11.out.2.2.1).c0) (And.intro ((H11.out.2.2.1).c1) (And.intro ((H11.out.2.2.2.1).c0) (And.intro ((H11.out.2.2.2.1).c1) (And.intro ((H11.out.2.2.2.2.2.2.1).c0) (And.intro ((H11.out.2.2.2.2.2.2.1).c1) (And.intro ((H11.out.2.2.2.2.2.2.2.1).c0) (And.intro ((H11.out.2.2.2.2.2.2.2.1).c1) (And.intro ((H11.out.2.2.2.2.2.2.2.2.2.2.1).c0) (And.intro ((H11.out.2.2.2.2.2.2.2.2.2.2.1).c1) (And.intro ((H11.out.2.2.2.2.2.2.2.2.2.2.2.1).c0) (And.intro ((H11.out.2.2.2.2.2.2.2.2.2.2.2.1).c1) (And.intro ((H11.out.2.2.2.2.2.2.2.2.2.2.2.2.1).c0) ((H11.out.2.2.2.2.2.2.2.2.2.2.2.2.1).c1))))))))))))))
        refine hK.out _ _ ?_ (fun hHeld => ?_)
        · assumption
        clear hK K
        refine wpAnyH_take (i := 21) (oi := { dst := some 57, op := Op.unOp UnOp.not 4 (Operand.tmp 56), type := 4, pos := "law.go:68", after := #[{ on := 20, ground := Ground.data }, { on := 15, ground := Ground.guard }], guard := some (15, false) }) (v := ?_) rfl (by kernel_rfl) (by kernel_rfl) (by kernel_rfl) (fun _ _ _ h => h) (Or.inl ⟨by rfl, ?_⟩) (by assumption) ?_
        rotate_left
        · (intro w0 hSw; (try dsimp only at hSw); go_simp; (try with_reducible rfl))
        try simp only [Act.put, List.setIfInBounds_toArray, List.set_cons_zero, List.set_cons_succ]
        refine wpAnyH_take (i := 22) (oi := { dst := some 58, op := Op.pick (Operand.tmp 51) (Operand.const (Value.bool true)) (Operand.tmp 57), type := 4, pos := "law.go:68", after := #[{ on := 15, ground := Ground.data }, { on := 21, ground := Ground.data }], guard := none }) (v := ?_) rfl (by kernel_rfl) (by kernel_rfl) (by kernel_rfl) (fun _ _ _ h => h) (Or.inl ⟨by rfl, ?_⟩) (by assumption) ?_
        rotate_left
        · (intro w0 hSw; (try dsimp only at hSw); go_simp; (try with_reducible rfl))
        try simp only [Act.put, List.setIfInBounds_toArray, List.set_cons_zero, List.set_cons_succ]
        refine wpAnyH_take (i := 23) (oi := { dst := some 59, op := Op.move (Operand.tmp 58), type := 4, pos := "law.go:68", after := #[{ on := 22, ground := Ground.data }, { on := 20, ground := Ground.chain }], guard := none }) (v := ?_) rfl (by kernel_rfl) (by kernel_rfl) (by kernel_rfl) (fun _ _ _ h => h) (Or.inl ⟨by rfl, ?_⟩) (by assumption) ?_
        rotate_left
        · (intro w0 hSw; (try dsimp only at hSw); go_simp; (try with_reducible rfl))
        try simp only [Act.put, List.setIfInBounds_toArray, List.set_cons_zero, List.set_cons_succ]
        refine wpAnyH_take (i := 24) (oi := { dst := some 60, op := Op.load 24 (Operand.tmp 9), type := 24, pos := "law.go:68", after := #[{ on := 23, ground := Ground.guard }], guard := some (23, false) }) (v := ?_) rfl (by kernel_rfl) (by kernel_rfl) (by kernel_rfl) (fun _ _ _ h => h) (Or.inl ⟨by rfl, ?_⟩) (by assumption) ?_
        rotate_left
        · (intro w0 hSw; (try dsimp only at hSw); go_simp; (try with_reducible rfl))
        try simp only [Act.put, List.setIfInBounds_toArray, List.set_cons_zero, List.set_cons_succ]
        refine wpAnyH_take (i := 25) (oi := { dst := some 61, op := Op.load 28 (Operand.tmp 5), type := 28, pos := "law.go:68", after := #[{ on := 23, ground := Ground.guard }], guard := some (23, false) }) (v := ?_) rfl (by kernel_rfl) (by kernel_rfl) (by kernel_rfl) (fun _ _ _ h => h) (Or.inl ⟨by rfl, ?_⟩) (by assumption) ?_
        rotate_left
        · (intro w0 hSw; (try dsimp only at hSw); go_simp; (try with_reducible rfl))
        try simp only [Act.put, List.setIfInBounds_toArray, List.set_cons_zero, List.set_cons_succ]
        refine wpAnyH_take (i := 26) (oi := { dst := some 62, op := Op.load 28 (Operand.tmp 6), type := 28, pos := "law.go:68", after := #[{ on := 23, ground := Ground.guard }], guard := some (23, false) }) (v := ?_) rfl (by kernel_rfl) (by kernel_rfl) (by kernel_rfl) (fun _ _ _ h => h) (Or.inl ⟨by rfl, ?_⟩) (by assumption) ?_
        rotate_left
        · (intro w0 hSw; (try dsimp only at hSw); go_simp; (try with_reducible rfl))
        try simp only [Act.put, List.setIfInBounds_toArray, List.set_cons_zero, List.set_cons_succ]
        refine wpAnyH_ready (rs := [27]) (by kernel_rfl) (by simp) ?_
        refine AllReadyH.cons rfl (fun K hK => ?_) AllReadyH.nil
        go_simp
        go_wp2_with (have hx := H11; go_at_call 31; clear hx; refine (rmul_at H11.out.2.2.2.2.2.2.2.2.1 H11.out.2.2.2.2.2.2.2.2.2.1 (by have := HLn.out; omega) (by have := HLn.out; omega)).mono ?_; rintro e w222 ⟨s222, p222, c222, D222, rfl, n222, z222, B222⟩; have BZ := BZ.trans (B222.mono BZ.size); have H12 := Lib.hid (And.intro (H11.out.1.below B222) (And.intro (H11.out.2.1.trans (B222.mono H11.out.2.1.size)) (And.intro (H11.out.2.2.1.below B222) (And.intro (H11.out.2.2.2.1.below B222) (And.intro (H11.out.2.2.2.2.1.below B222) (And.intro (H11.out.2.2.2.2.2.1.below B222) (And.intro (H11.out.2.2.2.2.2.2.1.below B222) (And.intro (H11.out.2.2.2.2.2.2.2.1.below B222) (And.intro (H11.out.2.2.2.2.2.2.2.2.1.below B222) (And.intro (H11.out.2.2.2.2.2.2.2.2.2.1.below B222) (And.intro (H11.out.2.2.2.2.2.2.2.2.2.2.1.below B222) (And.intro (H11.out.2.2.2.2.2.2.2.2.2.2.2.1.below B222) (And.intro (H11.out.2.2.2.2.2.2.2.2.2.2.2.2.1.below B222) (And.intro (H11.out.2.2.2.2.2.2.2.2.2.2.2.2.2.1.below B222) (And.intro (H11.out.2.2.2.2.2.2.2.2.2.2.2.2.2.2.1.below B222) (And.intro (H11.out.2.2.2.2.2.2.2.2.2.2.2.2.2.2.2.1.below B222) (And.intro (H11.out.2.2.2.2.2.2.2.2.2.2.2.2.2.2.2.2.1.below B222) (And.intro (H11.out.2.2.2.2.2.2.2.2.2.2.2.2.2.2.2.2.2.1.below B222) (And.intro (H11.out.2.2.2.2.2.2.2.2.2.2.2.2.2.2.2.2.2.2.1.below B222) (And.intro (H11.out.2.2.2.2.2.2.2.2.2.2.2.2.2.2.2.2.2.2.2.1.below B222) (And.intro (H11.out.2.2.2.2.2.2.2.2.2.2.2.2.2.2.2.2.2.2.2.2.1.below B222) (And.intro (H11.out.2.2.2.2.2.2.2.2.2.2.2.2.2.2.2.2.2.2.2.2.2.1.below B222) (And.intro (H11.out.2.2.2.2.2.2.2.2.2.2.2.2.2.2.2.2.2.2.2.2.2.2.below B222) n222))))))))))))))))))))))); clear n222 B222 H11; clear hSS221; have hSS222 := And.intro ((H12.out.2.2.1).c0) (And.intro ((H12.out.2.2.1).c1) (And.intro ((H12.out.2.2.2.1).c0) (And.intro ((H12.out.2.2.2.1).c1) (And.intro ((H12.out.2.2.2.2.2.2.1).c0) (And.intro ((H12.out.2.2.2.2.2.2.1).c1) (And.intro ((H12.out.2.2.2.2.2.2.2.1).c0) (And.intro ((H12.out.2.2.2.2.2.2.2.1).c1) (And.intro ((H12.out.2.2.2.2.2.2.2.2.2.2.1).c0) (And.intro ((H12.out.2.2.2.2.2.2.2.2.2.2.1).c1) (And.intro ((H12.out.2.2.2.2.2.2.2.2.2.2.2.1).c0) (And.intro ((H12.out.2.2.2.2.2.2.2.2.2.2.2.1).c1) (And.intro ((H12.out.2.2.2.2.2.2.2.2.2.2.2.2.1).c0) ((H12.out.2.2.2.2.2.2.2.2.2.2.2.2.1).c1))))))))))))))
        refine hK.out _ _ ?_ (fun hHeld => ?_)
        · assumption
        clear hK K
        refine wpAnyH_ready (rs := [28]) (by kernel_rfl) (by simp) ?_
        refine AllReadyH.cons rfl (fun K hK => ?_) AllReadyH.nil
        go_simp
        go_wp2_with (have hx := H12; go_at_call 13; clear hx; refine (alike_at H12.out.2.2.2.2.2.2.2.2.2.2.2.2.2.2.2.2.2.1.toNm H12.out.2.2.2.2.2.2.2.2.2.2.2.2.2.2.2.2.2.2.1 H12.out.2.2.2.2.2.2.2.2.2.2.2.2.2.2.2.2.2.2.2.2.2.2.2 (by have := HLn.out; omega)).mono ?_; rintro e w223 ⟨rfl, B223⟩; have BZ := BZ.trans (B223.mono BZ.size); have H13 := Lib.hid (And.intro (H12.out.1.below B223) (And.intro (H12.out.2.1.trans (B223.mono H12.out.2.1.size)) (And.intro (H12.out.2.2.1.below B223) (And.intro (H12.out.2.2.2.1.below B223) (And.intro (H12.out.2.2.2.2.1.below B223) (And.intro (H12.out.2.2.2.2.2.1.below B223) (And.intro (H12.out.2.2.2.2.2.2.1.below B223) (And.intro (H12.out.2.2.2.2.2.2.2.1.below B223) (And.intro (H12.out.2.2.2.2.2.2.2.2.1.below B223) (And.intro (H12.out.2.2.2.2.2.2.2.2.2.1.below B223) (And.intro (H12.out.2.2.2.2.2.2.2.2.2.2.1.below B223) (And.intro (H12.out.2.2.2.2.2.2.2.2.2.2.2.1.below B223) (And.intro (H12.out.2.2.2.2.2.2.2.2.2.2.2.2.1.below B223) (And.intro (H12.out.2.2.2.2.2.2.2.2.2.2.2.2.2.1.below B223) (And.intro (H12.out.2.2.2.2.2.2.2.2.2.2.2.2.2.2.1.below B223) (And.intro (H12.out.2.2.2.2.2.2.2.2.2.2.2.2.2.2.2.1.below B223) (And.intro (H12.out.2.2.2.2.2.2.2.2.2.2.2.2.2.2.2.2.1.below B223) (And.intro (H12.out.2.2.2.2.2.2.2.2.2.2.2.2.2.2.2.2.2.1.below B223) (And.intro (H12.out.2.2.2.2.2.2.2.2.2.2.2.2.2.2.2.2.2.2.1.below B223) (And.intro (H12.out.2.2.2.2.2.2.2.2.2.2.2.2.2.2.2.2.2.2.2.1.below B223) (And.intro (H12.out.2.2.2.2.2.2.2.2.2.2.2.2.2.2.2.2.2.2.2.2.1.below B223) (And.intro (H12.out.2.2.2.2.2.2.2.2.2.2.2.2.2.2.2.2.2.2.2.2.2.1.below B223) (And.intro (H12.out.2.2.2.2.2.2.2.2.2.2.2.2.2.2.2.2.2.2.2.2.2.2.1.below B223) (H12.out.2.2.2.2.2.2.2.2.2.2.2.2.2.2.2.2.2.2.2.2.2.2.2.below B223)))))))))))))))))))))))); clear B223 H12; clear hSS222; have hSS223 := And.intro ((H13.out.2.2.1).c0) (And.intro ((H13.out.2.2.1).c1) (And.intro ((H13.out.2.2.2.1).c0) (And.intro ((H13.out.2.2.2.1).c1) (And.intro ((H13.out.2.2.2.2.2.2.1).c0) (And.intro ((H13.out.2.2.2.2.2.2.1).c1) (And.intro ((H13.out.2.2.2.2.2.2.2.1).c0) (And.intro ((H13.out.2.2.2.2.2.2.2.1).c1) (And.intro ((H13.out.2.2.2.2.2.2.2.2.2.2.1).c0) (And.intro ((H13.out.2.2.2.2.2.2.2.2.2.2.1).c1) (And.intro ((H13.out.2.2.2.2.2.2.2.2.2.2.2.1).c0) (And.intro ((H13.out.2.2.2.2.2.2.2.2.2.2.2.1).c1) (And.intro ((H13.out.2.2.2.2.2.2.2.2.2.2.2.2.1).c0) ((H13.out.2.2.2.2.2.2.2.2.2.2.2.2.1).c1))))))))))))))
        refine hK.out _ _ ?_ (fun hHeld => ?_)
        · assumption
        clear hK K
        refine wpAnyH_take (i := 29) (oi := { dst := some 65, op := Op.unOp UnOp.not 4 (Operand.tmp 64), type := 4, pos := "law.go:68", after := #[{ on := 28, ground := Ground.data }, { on := 23, ground := Ground.guard }], guard := some (23, false) }) (v := ?_) rfl (by kernel_rfl) (by kernel_rfl) (by kernel_rfl) (fun _ _ _ h => h) (Or.inl ⟨by rfl, ?_⟩) (by assumption) ?_
        rotate_left
        · (intro w0 hSw; (try dsimp only at hSw); go_simp; (try with_reducible rfl))
        try simp only [Act.put, List.setIfInBounds_toArray, List.set_cons_zero, List.set_cons_succ]
        refine wpAnyH_take (i := 30) (oi := { dst := some 66, op := Op.pick (Operand.tmp 59) (Operand.const (Value.bool true)) (Operand.tmp 65), type := 4, pos := "law.go:68", after := #[{ on := 23, ground := Ground.data }, { on := 29, ground := Ground.data }], guard := none }) (v := ?_) rfl (by kernel_rfl) (by kernel_rfl) (by kernel_rfl) (fun _ _ _ h => h) (Or.inl ⟨by rfl, ?_⟩) (by assumption) ?_
        rotate_left
        · (intro w0 hSw; (try dsimp only at hSw); go_simp; (try with_reducible rfl))
        try simp only [Act.put, List.setIfInBounds_toArray, List.set_cons_zero, List.set_cons_succ]
        refine wpAnyH_done (by kernel_rfl) (NoPanic.normal ?_) _
        clear hSS223
        all_goals (go_wp2_with fail; go_meet; exact ⟨rfl, BZ⟩)
      case rest =>
        obtain ⟨rfl, B214⟩ := hcut
        have H5 := Lib.hid (And.intro (H4.out.1.below B214.out) (And.intro (H4.out.2.1.trans (B214.out.mono H4.out.2.1.size)) (And.intro (H4.out.2.2.1.below B214.out) (And.intro (H4.out.2.2.2.1.below B214.out) (And.intro (H4.out.2.2.2.2.1.below B214.out) (And.intro (H4.out.2.2.2.2.2.1.below B214.out) (And.intro (H4.out.2.2.2.2.2.2.1.below B214.out) (And.intro (H4.out.2.2.2.2.2.2.2.1.below B214.out) (And.intro (H4.out.2.2.2.2.2.2.2.2.1.below B214.out) (And.intro (H4.out.2.2.2.2.2.2.2.2.2.1.below B214.out) (And.intro (H4.out.2.2.2.2.2.2.2.2.2.2.1.below B214.out) (And.intro (H4.out.2.2.2.2.2.2.2.2.2.2.2.1.below B214.out) (And.intro (H4.out.2.2.2.2.2.2.2.2.2.2.2.2.1.below B214.out) (And.intro (H4.out.2.2.2.2.2.2.2.2.2.2.2.2.2.1.below B214.out) (And.intro (H4.out.2.2.2.2.2.2.2.2.2.2.2.2.2.2.1.below B214.out) (And.intro (H4.out.2.2.2.2.2.2.2.2.2.2.2.2.2.2.2.1.below B214.out) (And.intro (H4.out.2.2.2.2.2.2.2.2.2.2.2.2.2.2.2.2.1.below B214.out) (And.intro (H4.out.2.2.2.2.2.2.2.2.2.2.2.2.2.2.2.2.2.1.below B214.out) (And.intro (H4.out.2.2.2.2.2.2.2.2.2.2.2.2.2.2.2.2.2.2.1.below B214.out) (And.intro (H4.out.2.2.2.2.2.2.2.2.2.2.2.2.2.2.2.2.2.2.2.1.below B214.out) (H4.out.2.2.2.2.2.2.2.2.2.2.2.2.2.2.2.2.2.2.2.2.below B214.out)))))))))))))))))))))
        clear B214
        obtain ⟨w214, hw214⟩ : ∃ w214, w214 = wc := ⟨_, rfl⟩
        rw [← hw214] at H5 ⊢
        clear hw214
        have h61 := (H5.out.2.2.2.2.2.2.2.2.2.2.2.2.2.1).len
        have h120 := (H5.out.2.2.2.2.2.2.2.2.2.2.2.2.2.2.2.2.2.1).len
        have yX7 := H5.out.2.2.2.2.2.2.2.2.2.2.1
        have yX70 := yX7.c0
        have yX71 := yX7.c1
        clear yX7
        go_upto_region 7 with fail
        clear yX70 yX71
        go_wp2_with fail
        go_loopw [10] (fun t wx => ∃ (k : Nat) (L : List Int), t = .int .i64 k ∧ k ≤ D7.length ∧ L.length = D7.length ∧ Hid (Own 52 .u16 w212.heap.size wx (.slice p7 D7.length c7) L ∧ Box wx b7 (.bool s7) (.slice p7 D7.length c7) ∧ Own 52 .u16 w212.heap.size wx (.slice p9 D9.length c9) D9 ∧ Box wx b9 (.bool s9) (.slice p9 D9.length c9) ∧ Below w212.heap.size w212 wx)) (fun t _ => D7.length - (intOf t).toNat)
        case atStart => exact ⟨0, D7, rfl, Nat.zero_le _, rfl, H5.out.2.2.2.2.2.2.2.2.2.2.2.2.2.2.2.2.2.2.2.1, H5.out.2.2.2.2.2.2.2.2.2.2.1, H5.out.2.2.2.2.2.2.2.2.2.2.2.2.2.2.2.2.2.2.2.2, H5.out.2.2.2.2.2.2.2.2.2.2.2.2.1, H5.out.2.1⟩
        case round =>
          obtain ⟨k, L, rfl, hk, hLE, hS⟩ := hrel
          by_cases hlt : k < D7.length
          · obtain ⟨gR, cR, hv, hgB, hgl, -, -⟩ := hS.out.1.at (by omega)
            simp only [Value.slice.injEq] at hv
            obtain ⟨rfl, -, rfl⟩ := hv
            have hcc := hS.out.1.cell k (by omega)
            have hfr := hS.out.1.free k
            have e1 := hS.out.1.cell 0 (by omega)
            have hne : b7 ≠ gR := fun e => by
              have e2 := hS.out.2.1.c0
              rw [e] at e2
              rw [e1] at e2
              cases e2
            have hne9 : b9 ≠ gR := fun e => by
              have e2 := hS.out.2.2.2.1.c0
              rw [e] at e2
              rw [e1] at e2
              cases e2
            have hown : (Value.slice p9 D9.length c9).ownBlock ≠ some gR := HAP.out gR rfl
            have z0 := hS.out.2.1.c0
            have z1 := hS.out.2.1.c1
            have q1 : decide ((k : Int) < (D7.length : Int)) = true := by rw [decide_eq_true_eq]; omega
            have f1 : (k : Int) < (D7.length : Int) := by omega
            have HX := Lib.hid (And.intro (hS.out.1.set k 7) (And.intro (box_cell hS.out.2.1 hne k (.int .u16 7)) (And.intro (hS.out.2.2.1.other (a := ⟨gR, k, none⟩) (.int .u16 7) hown) (And.intro (box_cell hS.out.2.2.2.1 hne9 k (.int .u16 7)) (hS.out.2.2.2.2.setCell (p := ⟨gR, k, none⟩) hgB (.int .u16 7))))))
            clear hne hgB hgl e1 hne9 hown
            go_wp2_with fail
            go_roundw
            case rel => exact ⟨k + 1, L.set k 7, by go_num, hlt, by rw [List.length_set]; exact hLE, HX.out.1, HX.out.2.1, HX.out.2.2.1, HX.out.2.2.2.1, HX.out.2.2.2.2⟩
            case measure => simp [intOf]; omega
          · have hz : k = D7.length := by omega
            have z0 := hS.out.2.1.c0
            have z1 := hS.out.2.1.c1
            rw [hz]
            have q1 : decide ((D7.length : Int) < (D7.length : Int)) = false := by simp
            clear hz hlt hk
            have HS1 := Lib.hid (And.intro hS.out.2.2.1 (And.intro hS.out.2.2.2.1 hS.out.2.2.2.2))
            clear hS
            go_upto_region 11 with fail
            clear z0 z1 q1
            have y0 := HS1.out.2.1.c0
            have y1 := HS1.out.2.1.c1
            go_wp2_with fail
            clear y0 y1
            go_loopw [11] (fun t wx => ∃ (k : Nat) (L : List Int), t = .int .i64 k ∧ k ≤ D9.length ∧ L.length = D9.length ∧ Hid (Own 52 .u16 w212.heap.size wx (.slice p9 D9.length c9) L ∧ Box wx b9 (.bool s9) (.slice p9 D9.length c9) ∧ Below w212.heap.size w212 wx)) (fun t _ => D9.length - (intOf t).toNat)
            case atStart => exact ⟨0, D9, rfl, Nat.zero_le _, rfl, HS1.out.1, HS1.out.2.1, HS1.out.2.2⟩
            case round =>
              obtain ⟨k, L, rfl, hk, hLE, hS⟩ := hrel
              by_cases hlt : k < D9.length
              · obtain ⟨gR, cR, hv, hgB, hgl, -, -⟩ := hS.out.1.at (by omega)
                simp only [Value.slice.injEq] at hv
                obtain ⟨rfl, -, rfl⟩ := hv
                have hcc := hS.out.1.cell k (by omega)
                have hfr := hS.out.1.free k
                have e1 := hS.out.1.cell 0 (by omega)
                have hne : b9 ≠ gR := fun e => by
                  have e2 := hS.out.2.1.c0
                  rw [e] at e2
                  rw [e1] at e2
                  cases e2
                have z0 := hS.out.2.1.c0
                have z1 := hS.out.2.1.c1
                have q1 : decide ((k : Int) < (D9.length : Int)) = true := by rw [decide_eq_true_eq]; omega
                have f1 : (k : Int) < (D9.length : Int) := by omega
                have HX := Lib.hid (And.intro (hS.out.1.set k 7) (And.intro (box_cell hS.out.2.1 hne k (.int .u16 7)) (hS.out.2.2.setCell (p := ⟨gR, k, none⟩) hgB (.int .u16 7))))
                clear hne hgB hgl e1
                go_wp2_with fail
                go_roundw
                case rel => exact ⟨k + 1, L.set k 7, by go_num, hlt, by rw [List.length_set]; exact hLE, HX.out.1, HX.out.2.1, HX.out.2.2⟩
                case measure => simp [intOf]; omega
              · have hz : k = D9.length := by omega
                have z0 := hS.out.2.1.c0
                have z1 := hS.out.2.1.c1
                rw [hz]
                have q1 : decide ((D9.length : Int) < (D9.length : Int)) = false := by simp
                clear hz hlt hk
                have Z0 := Lib.hid (And.intro (H3.out.1.below hS.out.2.2) (And.intro hS.out.2.2 (And.intro (H3.out.2.2.1.below hS.out.2.2) (And.intro (H3.out.2.2.2.1.below hS.out.2.2) (And.intro (H3.out.2.2.2.2.1.below hS.out.2.2) (And.intro (H3.out.2.2.2.2.2.1.below hS.out.2.2) (And.intro (H3.out.2.2.2.2.2.2.1.below hS.out.2.2) (And.intro (H3.out.2.2.2.2.2.2.2.1.below hS.out.2.2) (And.intro (H3.out.2.2.2.2.2.2.2.2.1.below hS.out.2.2) (H3.out.2.2.2.2.2.2.2.2.2.below hS.out.2.2))))))))))
                go_upto_region 15 with fail
                clear z0 z1 q1
                have B11 : Below wr.heap.size wr wr.drew := (Below.refl _ _).drew
                have Z1 := Lib.hid (And.intro (Z0.out.1.below B11) (And.intro (Z0.out.2.1.trans (B11.mono Z0.out.2.1.size)) (And.intro (Z0.out.2.2.1.below B11) (And.intro (Z0.out.2.2.2.1.below B11) (And.intro (Z0.out.2.2.2.2.1.below B11) (And.intro (Z0.out.2.2.2.2.2.1.below B11) (And.intro (Z0.out.2.2.2.2.2.2.1.below B11) (And.intro (Z0.out.2.2.2.2.2.2.2.1.below B11) (And.intro (Z0.out.2.2.2.2.2.2.2.2.1.below B11) (Z0.out.2.2.2.2.2.2.2.2.2.below B11))))))))))
                clear B11
                have hSS : wr.drew.cell? ⟨w.heap.size, 0, none⟩ = some (.bool s1) ∧ wr.drew.cell? ⟨w.heap.size, 1, none⟩ = some (.slice p1 l1.length c1) ∧ wr.drew.cell? ⟨w.heap.size + 1, 0, none⟩ = some (.bool s2) ∧ wr.drew.cell? ⟨w.heap.size + 1, 1, none⟩ = some (.slice p2 l2.length c2) ∧ wr.drew.cell? ⟨b5, 0, none⟩ = some (.bool sx) ∧ wr.drew.cell? ⟨b5, 1, none⟩ = some (.slice qx Dx.length dx) ∧ wr.drew.cell? ⟨b6, 0, none⟩ = some (.bool sy) ∧ wr.drew.cell? ⟨b6, 1, none⟩ = some (.slice qy Dy.length dy) := And.intro ((Z1.out.2.2.1).c0) (And.intro ((Z1.out.2.2.1).c1) (And.intro ((Z1.out.2.2.2.1).c0) (And.intro ((Z1.out.2.2.2.1).c1) (And.intro ((Z1.out.2.2.2.2.2.2.1).c0) (And.intro ((Z1.out.2.2.2.2.2.2.1).c1) (And.intro ((Z1.out.2.2.2.2.2.2.2.1).c0) ((Z1.out.2.2.2.2.2.2.2.1).c1)))))))
                refine wp_region_noPanic ?_
                refine wp_region_held_drew (S := fun w' => w'.cell? ⟨w.heap.size, 0, none⟩ = some (.bool s1) ∧ w'.cell? ⟨w.heap.size, 1, none⟩ = some (.slice p1 l1.length c1) ∧ w'.cell? ⟨w.heap.size + 1, 0, none⟩ = some (.bool s2) ∧ w'.cell? ⟨w.heap.size + 1, 1, none⟩ = some (.slice p2 l2.length c2) ∧ w'.cell? ⟨b5, 0, none⟩ = some (.bool sx) ∧ w'.cell? ⟨b5, 1, none⟩ = some (.slice qx Dx.length dx) ∧ w'.cell? ⟨b6, 0, none⟩ = some (.bool sy) ∧ w'.cell? ⟨b6, 1, none⟩ = some (.slice qy Dy.length dy)) (by kernel_rfl) hSS (fun hHeld => ?_)
                refine wpAnyH_take (i := 0) (oi := { dst := some 89, op := Op.load 24 (Operand.tmp 2), type := 24, pos := "law.go:77", after := #[], guard := none }) (v := ?_) rfl (by kernel_rfl) (by kernel_rfl) (by kernel_rfl) (fun _ _ _ h => h) (Or.inl ⟨by rfl, ?_⟩) (by assumption) ?_
                rotate_left
                · (intro w0 hSw; (try dsimp only at hSw); go_simp; (try with_reducible rfl))
                try simp only [Act.put, List.setIfInBounds_toArray, List.set_cons_zero, List.set_cons_succ]
                refine wpAnyH_take (i := 2) (oi := { dst := some 91, op := Op.load 28 (Operand.tmp 5), type := 28, pos := "law.go:77", after := #[], guard := none }) (v := ?_) rfl (by kernel_rfl) (by kernel_rfl) (by kernel_rfl) (fun _ _ _ h => h) (Or.inl ⟨by rfl, ?_⟩) (by assumption) ?_
                rotate_left
                · (intro w0 hSw; (try dsimp only at hSw); go_simp; (try with_reducible rfl))
                try simp only [Act.put, List.setIfInBounds_toArray, List.set_cons_zero, List.set_cons_succ]
                refine wpAnyH_ready (rs := [1]) (by kernel_rfl) (by simp) ?_
                refine AllReadyH.cons rfl (fun K hK => ?_) AllReadyH.nil
                go_simp
                go_wp2_with (have hx := Z1; go_at_call 12; clear hx; refine (of_num Z1.out.2.2.2.2.1.toNm (by omega)).mono ?_; rintro e w12 ⟨s12, p12, c12, D12, rfl, n12, z12, B12⟩; have Z2 := Lib.hid (And.intro (Z1.out.1.below B12) (And.intro (Z1.out.2.1.trans (B12.mono Z1.out.2.1.size)) (And.intro (Z1.out.2.2.1.below B12) (And.intro (Z1.out.2.2.2.1.below B12) (And.intro (Z1.out.2.2.2.2.1.below B12) (And.intro (Z1.out.2.2.2.2.2.1.below B12) (And.intro (Z1.out.2.2.2.2.2.2.1.below B12) (And.intro (Z1.out.2.2.2.2.2.2.2.1.below B12) (And.intro (Z1.out.2.2.2.2.2.2.2.2.1.below B12) (And.intro (Z1.out.2.2.2.2.2.2.2.2.2.below B12) n12)))))))))); clear n12 B12 Z1; clear hSS; have hSS12 := And.intro ((Z2.out.2.2.1).c0) (And.intro ((Z2.out.2.2.1).c1) (And.intro ((Z2.out.2.2.2.1).c0) (And.intro ((Z2.out.2.2.2.1).c1) (And.intro ((Z2.out.2.2.2.2.2.2.1).c0) (And.intro ((Z2.out.2.2.2.2.2.2.1).c1) (And.intro ((Z2.out.2.2.2.2.2.2.2.1).c0) ((Z2.out.2.2.2.2.2.2.2.1).c1))))))))
                refine hK.out _ _ ?_ (fun hHeld => ?_)
                · assumption
                clear hK K
                refine wpAnyH_ready (rs := [3]) (by kernel_rfl) (by simp) ?_
                refine AllReadyH.cons rfl (fun K hK => ?_) AllReadyH.nil
                go_simp
                go_wp2_with (have hx := Z2; go_at_call 28; clear hx; refine (rcmp_zero Z2.out.2.2.2.2.2.2.2.2.2.2 Z2.out.2.2.2.2.2.2.2.2.1).mono ?_; rintro e w13 ⟨rfl, B13⟩; have Z3 := Lib.hid (And.intro (Z2.out.1.below B13) (And.intro (Z2.out.2.1.trans (B13.mono Z2.out.2.1.size)) (And.intro (Z2.out.2.2.1.below B13) (And.intro (Z2.out.2.2.2.1.below B13) (And.intro (Z2.out.2.2.2.2.1.below B13) (And.intro (Z2.out.2.2.2.2.2.1.below B13) (And.intro (Z2.out.2.2.2.2.2.2.1.below B13) (And.intro (Z2.out.2.2.2.2.2.2.2.1.below B13) (And.intro (Z2.out.2.2.2.2.2.2.2.2.1.below B13) (And.intro (Z2.out.2.2.2.2.2.2.2.2.2.1.below B13) (Z2.out.2.2.2.2.2.2.2.2.2.2.below B13))))))))))); clear B13 Z2; clear hSS12; have hSS13 := And.intro ((Z3.out.2.2.1).c0) (And.intro ((Z3.out.2.2.1).c1) (And.intro ((Z3.out.2.2.2.1).c0) (And.intro ((Z3.out.2.2.2.1).c1) (And.intro ((Z3.out.2.2.2.2.2.2.1).c0) (And.intro ((Z3.out.2.2.2.2.2.2.1).c1) (And.intro ((Z3.out.2.2.2.2.2.2.2.1).c0) ((Z3.out.2.2.2.2.2.2.2.1).c1))))))))
                refine hK.out _ _ ?_ (fun hHeld => ?_)
                · assumption
                clear hK K
                refine wpAnyH_take (i := 4) (oi := { dst := some 93, op := Op.binOp BinOp.eql 3 (Operand.tmp 92) (Operand.const (Value.int IntKind.i64 0)) 3, type := 4, pos := "law.go:77", after := #[{ on := 3, ground := Ground.data }], guard := none }) (v := ?_) rfl (by kernel_rfl) (by kernel_rfl) (by kernel_rfl) (fun _ _ _ h => h) (Or.inl ⟨by rfl, ?_⟩) (by assumption) ?_
                rotate_left
                · (intro w0 hSw; (try dsimp only at hSw); go_simp; (try with_reducible rfl))
                try simp only [Act.put, List.setIfInBounds_toArray, List.set_cons_zero, List.set_cons_succ]
                refine wpAnyH_take (i := 5) (oi := { dst := some 94, op := Op.move (Operand.tmp 93), type := 4, pos := "law.go:77", after := #[{ on := 4, ground := Ground.data }, { on := 3, ground := Ground.chain }], guard := none }) (v := ?_) rfl (by kernel_rfl) (by kernel_rfl) (by kernel_rfl) (fun _ _ _ h => h) (Or.inl ⟨by rfl, ?_⟩) (by assumption) ?_
                rotate_left
                · (intro w0 hSw; (try dsimp only at hSw); go_simp; (try with_reducible rfl))
                try simp only [Act.put, List.setIfInBounds_toArray, List.set_cons_zero, List.set_cons_succ]
                refine wpAnyH_take (i := 6) (oi := { dst := some 95, op := Op.load 24 (Operand.tmp 3), type := 24, pos := "law.go:77", after := #[{ on := 5, ground := Ground.guard }], guard := some (5, true) }) (v := ?_) rfl (by kernel_rfl) (by kernel_rfl) (by kernel_rfl) (fun _ _ _ h => h) (Or.inl ⟨by rfl, ?_⟩) (by assumption) ?_
                rotate_left
                · (intro w0 hSw; (try dsimp only at hSw); go_simp; (try with_reducible rfl))
                try simp only [Act.put, List.setIfInBounds_toArray, List.set_cons_zero, List.set_cons_succ]
                refine wpAnyH_take (i := 8) (oi := { dst := some 97, op := Op.load 28 (Operand.tmp 6), type := 28, pos := "law.go:77", after := #[{ on := 5, ground := Ground.guard }], guard := some (5, true) }) (v := ?_) rfl (by kernel_rfl) (by kernel_rfl) (by kernel_rfl) (fun _ _ _ h => h) (Or.inl ⟨by rfl, ?_⟩) (by assumption) ?_
                rotate_left
                · (intro w0 hSw; (try dsimp only at hSw); go_simp; (try with_reducible rfl))
                try simp only [Act.put, List.setIfInBounds_toArray, List.set_cons_zero, List.set_cons_succ]
                refine wpAnyH_ready (rs := [7]) (by kernel_rfl) (by simp) ?_
                refine AllReadyH.cons rfl (fun K hK => ?_) AllReadyH.nil
                go_simp
                go_wp2_with (have hx := Z3; go_at_call 12; clear hx; refine (of_num Z3.out.2.2.2.2.2.1.toNm (by omega)).mono ?_; rintro e w14 ⟨s14, p14, c14, D14, rfl, n14, z14, B14⟩; have Z4 := Lib.hid (And.intro (Z3.out.1.below B14) (And.intro (Z3.out.2.1.trans (B14.mono Z3.out.2.1.size)) (And.intro (Z3.out.2.2.1.below B14) (And.intro (Z3.out.2.2.2.1.below B14) (And.intro (Z3.out.2.2.2.2.1.below B14) (And.intro (Z3.out.2.2.2.2.2.1.below B14) (And.intro (Z3.out.2.2.2.2.2.2.1.below B14) (And.intro (Z3.out.2.2.2.2.2.2.2.1.below B14) (And.intro (Z3.out.2.2.2.2.2.2.2.2.1.below B14) (And.intro (Z3.out.2.2.2.2.2.2.2.2.2.1.below B14) (And.intro (Z3.out.2.2.2.2.2.2.2.2.2.2.below B14) n14))))))))))); clear n14 B14 Z3; clear hSS13; have hSS14 := And.intro ((Z4.out.2.2.1).c0) (And.intro ((Z4.out.2.2.1).c1) (And.intro ((Z4.out.2.2.2.1).c0) (And.intro ((Z4.out.2.2.2.1).c1) (And.intro ((Z4.out.2.2.2.2.2.2.1).c0) (And.intro ((Z4.out.2.2.2.2.2.2.1).c1) (And.intro ((Z4.out.2.2.2.2.2.2.2.1).c0) ((Z4.out.2.2.2.2.2.2.2.1).c1))))))))
                refine hK.out _ _ ?_ (fun hHeld => ?_)
                · assumption
                clear hK K
                refine wpAnyH_ready (rs := [9]) (by kernel_rfl) (by simp) ?_
                refine AllReadyH.cons rfl (fun K hK => ?_) AllReadyH.nil
                go_simp
                go_wp2_with (have hx := Z4; go_at_call 28; clear hx; refine (rcmp_zero Z4.out.2.2.2.2.2.2.2.2.2.2.2 Z4.out.2.2.2.2.2.2.2.2.2.1).mono ?_; rintro e w15 ⟨rfl, B15⟩; have Z5 := Lib.hid (And.intro (Z4.out.1.below B15) (And.intro (Z4.out.2.1.trans (B15.mono Z4.out.2.1.size)) (And.intro (Z4.out.2.2.1.below B15) (And.intro (Z4.out.2.2.2.1.below B15) (And.intro (Z4.out.2.2.2.2.1.below B15) (And.intro (Z4.out.2.2.2.2.2.1.below B15) (And.intro (Z4.out.2.2.2.2.2.2.1.below B15) (And.intro (Z4.out.2.2.2.2.2.2.2.1.below B15) (And.intro (Z4.out.2.2.2.2.2.2.2.2.1.below B15) (And.intro (Z4.out.2.2.2.2.2.2.2.2.2.1.below B15) (And.intro (Z4.out.2.2.2.2.2.2.2.2.2.2.1.below B15) (Z4.out.2.2.2.2.2.2.2.2.2.2.2.below B15)))))))))))); clear B15 Z4; clear hSS14; have hSS15 := And.intro ((Z5.out.2.2.1).c0) (And.intro ((Z5.out.2.2.1).c1) (And.intro ((Z5.out.2.2.2.1).c0) (And.intro ((Z5.out.2.2.2.1).c1) (And.intro ((Z5.out.2.2.2.2.2.2.1).c0) (And.intro ((Z5.out.2.2.2.2.2.2.1).c1) (And.intro ((Z5.out.2.2.2.2.2.2.2.1).c0) ((Z5.out.2.2.2.2.2.2.2.1).c1))))))))
                refine hK.out _ _ ?_ (fun hHeld => ?_)
                · assumption
                clear hK K
                refine wpAnyH_take (i := 10) (oi := { dst := some 99, op := Op.binOp BinOp.eql 3 (Operand.tmp 98) (Operand.const (Value.int IntKind.i64 0)) 3, type := 4, pos := "law.go:77", after := #[{ on := 9, ground := Ground.data }, { on := 5, ground := Ground.guard }], guard := some (5, true) }) (v := ?_) rfl (by kernel_rfl) (by kernel_rfl) (by kernel_rfl) (fun _ _ _ h => h) (Or.inl ⟨by rfl, ?_⟩) (by assumption) ?_
                rotate_left
                · (intro w0 hSw; (try dsimp only at hSw); go_simp; (try with_reducible rfl))
                try simp only [Act.put, List.setIfInBounds_toArray, List.set_cons_zero, List.set_cons_succ]
                refine wpAnyH_take (i := 11) (oi := { dst := some 100, op := Op.pick (Operand.tmp 94) (Operand.tmp 99) (Operand.const (Value.bool false)), type := 4, pos := "law.go:77", after := #[{ on := 5, ground := Ground.data }, { on := 10, ground := Ground.data }], guard := none }) (v := ?_) rfl (by kernel_rfl) (by kernel_rfl) (by kernel_rfl) (fun _ _ _ h => h) (Or.inl ⟨by rfl, ?_⟩) (by assumption) ?_
                rotate_left
                · (intro w0 hSw; (try dsimp only at hSw); go_simp; (try with_reducible rfl))
                try simp only [Act.put, List.setIfInBounds_toArray, List.set_cons_zero, List.set_cons_succ]
                refine wpAnyH_take (i := 12) (oi := { dst := some 101, op := Op.move (Operand.tmp 100), type := 4, pos := "law.go:77", after := #[{ on := 11, ground := Ground.data }, { on := 9, ground := Ground.chain }], guard := none }) (v := ?_) rfl (by kernel_rfl) (by kernel_rfl) (by kernel_rfl) (fun _ _ _ h => h) (Or.inl ⟨by rfl, ?_⟩) (by assumption) ?_
                rotate_left
                · (intro w0 hSw; (try dsimp only at hSw); go_simp; (try with_reducible rfl))
                try simp only [Act.put, List.setIfInBounds_toArray, List.set_cons_zero, List.set_cons_succ]
                refine wpAnyH_ready (rs := [13]) (by kernel_rfl) (by simp) ?_
                refine AllReadyH.cons rfl (fun K hK => ?_) AllReadyH.nil
                go_simp
                go_wp2_with (have hx := Z5; go_at_call 11; clear hx; refine (awake_at Z5.out.1).mono ?_; rintro e w16 ⟨rfl, B16⟩; have Z6 := Lib.hid (And.intro (Z5.out.1.below B16) (And.intro (Z5.out.2.1.trans (B16.mono Z5.out.2.1.size)) (And.intro (Z5.out.2.2.1.below B16) (And.intro (Z5.out.2.2.2.1.below B16) (And.intro (Z5.out.2.2.2.2.1.below B16) (And.intro (Z5.out.2.2.2.2.2.1.below B16) (And.intro (Z5.out.2.2.2.2.2.2.1.below B16) (And.intro (Z5.out.2.2.2.2.2.2.2.1.below B16) (And.intro (Z5.out.2.2.2.2.2.2.2.2.1.below B16) (And.intro (Z5.out.2.2.2.2.2.2.2.2.2.1.below B16) (And.intro (Z5.out.2.2.2.2.2.2.2.2.2.2.1.below B16) (Z5.out.2.2.2.2.2.2.2.2.2.2.2.below B16)))))))))))); clear B16 Z5; clear hSS15; have hSS16 := And.intro ((Z6.out.2.2.1).c0) (And.intro ((Z6.out.2.2.1).c1) (And.intro ((Z6.out.2.2.2.1).c0) (And.intro ((Z6.out.2.2.2.1).c1) (And.intro ((Z6.out.2.2.2.2.2.2.1).c0) (And.intro ((Z6.out.2.2.2.2.2.2.1).c1) (And.intro ((Z6.out.2.2.2.2.2.2.2.1).c0) ((Z6.out.2.2.2.2.2.2.2.1).c1))))))))
                refine hK.out _ _ ?_ (fun hHeld => ?_)
                · assumption
                clear hK K
                refine wpAnyH_take (i := 14) (oi := { dst := some 103, op := Op.pick (Operand.tmp 101) (Operand.tmp 102) (Operand.const (Value.bool false)), type := 4, pos := "law.go:77", after := #[{ on := 12, ground := Ground.data }, { on := 13, ground := Ground.data }], guard := none }) (v := ?_) rfl (by kernel_rfl) (by kernel_rfl) (by kernel_rfl) (fun _ _ _ h => h) (Or.inl ⟨by rfl, ?_⟩) (by assumption) ?_
                rotate_left
                · (intro w0 hSw; (try dsimp only at hSw); go_simp; (try with_reducible rfl))
                try simp only [Act.put, List.setIfInBounds_toArray, List.set_cons_zero, List.set_cons_succ]
                refine wpAnyH_take (i := 15) (oi := { dst := some 4, op := Op.assign (Operand.tmp 103), type := 4, pos := "law.go:77", after := #[{ on := 14, ground := Ground.data }, { on := 13, ground := Ground.chain }, { on := 0, ground := Ground.phase }, { on := 1, ground := Ground.phase }, { on := 2, ground := Ground.phase }, { on := 3, ground := Ground.phase }, { on := 4, ground := Ground.phase }, { on := 5, ground := Ground.phase }, { on := 6, ground := Ground.phase }, { on := 7, ground := Ground.phase }, { on := 8, ground := Ground.phase }, { on := 9, ground := Ground.phase }, { on := 10, ground := Ground.phase }, { on := 11, ground := Ground.phase }, { on := 12, ground := Ground.phase }, { on := 13, ground := Ground.phase }, { on := 14, ground := Ground.phase }], guard := none }) (v := ?_) rfl (by kernel_rfl) (by kernel_rfl) (by kernel_rfl) (fun _ _ _ h => h) (Or.inl ⟨by rfl, ?_⟩) (by assumption) ?_
                rotate_left
                · (intro w0 hSw; (try dsimp only at hSw); go_simp; (try with_reducible rfl))
                try simp only [Act.put, List.setIfInBounds_toArray, List.set_cons_zero, List.set_cons_succ]
                refine wpAnyH_done (by kernel_rfl) (NoPanic.normal ?_) _
                clear hSS16
                go_wp2_with fail
                go_ret
                exact ⟨rfl, HBW.out.trans (Z6.out.2.1.mono HBW.out.size)⟩
end Go.Proofs.YtihgefllmkicaaaDoor
