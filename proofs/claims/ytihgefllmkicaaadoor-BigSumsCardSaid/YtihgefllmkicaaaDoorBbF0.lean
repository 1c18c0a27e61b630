/- Plain: the walk of BigRing. Conditions: the digits lie as told; the table lies. -/
import Derived.Test.YtihgefllmkicaaaDoorBbC
namespace Go.Proofs.YtihgefllmkicaaaDoor
open Go.RowKit Bg
set_option linter.unusedVariables false
set_option linter.unusedSimpArgs false


set_option maxRecDepth 100000 in
set_option maxHeartbeats 20000000 in
theorem awake_at {w : World} (ht : Tab w) : Calls Tryd.prog 11 #[] w fun e w' => e = .returned (.bool true) ∧ Below w.heap.size w w' := by
  have HT := Lib.hid ht
  clear ht
  go_enter Tryd.func11, Tryd.ntmps11
  go_wp2_with fail
  refine (parse_good (s := ⟨#[45, 48, 48, 48, 54, 53, 53, 51, 55]⟩) (x := -65537) (by decide) (by decide +kernel) (by decide +kernel) w).mono ?_
  rintro e w1 ⟨v, rfl, hn, B1⟩
  obtain ⟨sg, p, c, D, rfl, hN, hC, -⟩ := gives_of (n := 300) hn (by unfold Bnd; decide +kernel)
  obtain ⟨e1, e2⟩ := nv_inj (by decide) hC (can_lit (s := true) (l := [1, 1]) (by decide) (by decide)) (hN.val.trans (by decide))
  subst e1 e2
  rw [show ([1, 1] : List Int).length = 2 from rfl]
  obtain ⟨b, off, rfl, hc⟩ := hN.arg.at (by decide)
  have d0 := hc 0 (by decide)
  have d1 := hc 1 (by decide)
  rw [Nat.add_zero] at d0
  obtain ⟨W, hW⟩ : ∃ W, W = w1.alloc (.cells #[.bool true, .slice (some ⟨b, off, none⟩) 2 c] 24) := ⟨_, rfl⟩
  have X := Box.fresh w1 (.bool true) (.slice (some ⟨b, off, none⟩) 2 c) (n := w1.heap.size) rfl
  have BW : Below w1.heap.size w1 W := by rw [hW]; exact (Below.refl _ _).alloc (Nat.le_refl _) _
  rw [← hW] at X
  have k0 := X.c0
  have k1 := X.c1
  have k2 := (BW.cell (p := ⟨b, off, none⟩) (World.block_lt_of_cell? w1 _ d0)).trans d0
  have k3 := (BW.cell (p := ⟨b, off + 1, none⟩) (World.block_lt_of_cell? w1 _ d1)).trans d1
  rw [show ([1, 1] : List Int).getD 0 0 = 1 from rfl] at k2
  rw [show ([1, 1] : List Int).getD 1 0 = 1 from rfl] at k3
  have hNW := hN.below BW
  have HW := Lib.hid (And.intro hNW (And.intro ((HT.out.below B1).below BW) (B1.trans (BW.mono B1.size))))
  rw [hW] at k0 k1 k2 k3
  clear hC hN hc d0 d1 X BW B1 hNW hn
  go_wp2_with fail
  rw [← hW]
  clear hW
  refine (is_true HW.out.1 (by decide) HW.out.2.1 _ txt_1).mono ?_
  rintro e w2 ⟨rfl, B2⟩
  have H2 := Lib.hid (And.intro (HW.out.2.1.below B2) (HW.out.2.2.trans (B2.mono HW.out.2.2.size)))
  clear k0 k1 k2 k3 B2
  go_wp2_with fail
  refine (num_nu (x := 65535) (by decide) (by decide +kernel) (by decide +kernel) 2 (by unfold Bnd; decide +kernel) w2).mono ?_
  rintro e w3 ⟨⟨s3, p3, c3, D3, rfl, n3, -, -⟩, B3⟩
  have H3 := Lib.hid (And.intro n3 (And.intro (H2.out.1.below B3) (H2.out.2.trans (B3.mono H2.out.2.size))))
  clear n3 B3
  go_wp2_with fail
  refine (num_nu (x := 65537) (by decide) (by decide +kernel) (by decide +kernel) 2 (by unfold Bnd; decide +kernel) w3).mono ?_
  rintro e w4 ⟨⟨s4, p4, c4, D4, rfl, n4, -, -⟩, B4⟩
  have H4 := Lib.hid (And.intro (H3.out.1.below B4) (And.intro n4 (And.intro (H3.out.2.1.below B4) (H3.out.2.2.trans (B4.mono H3.out.2.2.size)))))
  clear n4 B4
  go_wp2_with fail
  refine (mul_nu H4.out.1 H4.out.2.1 (by decide) (by decide)).mono ?_
  rintro e w5 ⟨⟨s5, p5, c5, D5, rfl, n5, -, -⟩, B5⟩
  have H5 := Lib.hid (And.intro n5 (And.intro (H4.out.2.2.1.below B5) (H4.out.2.2.2.trans (B5.mono H4.out.2.2.2.size))))
  clear n5 B5
  go_wp2_with fail
  refine (is_true H5.out.1 (by decide) H5.out.2.1 _ (by rw [show (65535 * 65537 : Int) = 4294967295 by decide]; exact txt_2)).mono ?_
  rintro e w6 ⟨rfl, B6⟩
  have H6 := Lib.hid (H5.out.2.2.trans (B6.mono H5.out.2.2.size))
  clear B6
  go_wp2_with fail
  go_ret
  exact ⟨rfl, H6.out⟩
open Go.RowKit Bg
set_option linter.unusedVariables false
set_option linter.unusedSimpArgs false


theorem Bg.Can.below {B : Int} {s : Bool} {l : List Int} (h : Bg.Can B s l) {N : Nat} {w w' : World} (hb : Below N w w') : Bg.Can B s l := h
theorem Nu.wide {n m : Nat} {w : World} {s : Bool} {p : Option Addr} {c : Nat} {D : List Int} {x : Int} (h : Nu n w s p c D x) (k : n ≤ m) : Nu m w s p c D x := ⟨h.toNm, Nat.le_trans h.len k⟩
theorem can_below {s : Bool} {D : List Int} {v : Int} (h : Bg.Can 65536 s D) (hv : nv 65536 s D = v) (k : v < 0) : s = true ∧ 0 < D.length := by
  have h0 := val_nonneg (show (0 : Int) ≤ 65536 by decide) h.dig
  have h1 : s = true := by
    cases s
    · exfalso; unfold nv at hv; simp at hv; omega
    · rfl
  refine ⟨h1, ?_⟩
  rcases Nat.eq_zero_or_pos D.length with e | e
  · exfalso; rw [List.length_eq_zero_iff.1 e, nv_nil] at hv; omega
  · exact e
theorem can_above {s : Bool} {D : List Int} {v : Int} (h : Bg.Can 65536 s D) (hv : nv 65536 s D = v) (k : 0 < v) : s = false ∧ 0 < D.length := by
  have h0 := val_nonneg (show (0 : Int) ≤ 65536 by decide) h.dig
  have h1 : s = false := by
    cases s
    · rfl
    · exfalso; unfold nv at hv; simp at hv; omega
  refine ⟨h1, ?_⟩
  rcases Nat.eq_zero_or_pos D.length with e | e
  · exfalso; rw [List.length_eq_zero_iff.1 e, nv_nil] at hv; omega
  · exact e
theorem cmp_lit {w : World} {p p' : Option Addr} {c c' : Nat} {l l' : List Int} {s s' : Bool} {x y a : Int} {n m : Nat} (h : Nu n w s p c l x) (k : Nu m w s' p' c' l' y) (hn : n ≤ 100000) (hm : m ≤ 100000) (ha : sgn x y = a) :
    Calls Tryd.prog 27 #[.agg #[.bool s, .slice p l.length c], .agg #[.bool s', .slice p' l'.length c']] w fun e w' => e = .returned (.int .i64 a) ∧ Below w.heap.size w w' := by
  rw [← ha]
  exact cmp_nu h k hn hm
theorem rw_three {w : World} {n : Nat} (hn : w.heap.size = n) (b1 b2 b3 : Value) (p1 p2 p3 : Option Addr) (n1 n2 n3 c1 c2 c3 : Nat) : Rw (w.alloc (.cells #[b1, .slice p1 n1 c1, b2, .slice p2 n2 c2, b3, .slice p3 n3 c3] 24)) n 0 [n1, n2, n3] := by
  subst hn
  refine ⟨fun i hi => ?_⟩
  have e := heap_new w (.cells #[b1, .slice p1 n1 c1, b2, .slice p2 n2 c2, b3, .slice p3 n3 c3] 24)
  unfold World.cell?
  rw [e]
  have hi' : i < 3 := hi
  rcases (show i = 0 ∨ i = 1 ∨ i = 2 by omega) with rfl | rfl | rfl
  · exact ⟨p1, c1, rfl⟩
  · exact ⟨p2, c2, rfl⟩
  · exact ⟨p3, c3, rfl⟩
theorem rw_two {w : World} {n : Nat} (hn : w.heap.size = n) (b1 b2 : Value) (p1 p2 : Option Addr) (n1 n2 c1 c2 : Nat) : Rw (w.alloc (.cells #[b1, .slice p1 n1 c1, b2, .slice p2 n2 c2] 24)) n 0 [n1, n2] := by
  subst hn
  refine ⟨fun i hi => ?_⟩
  have e := heap_new w (.cells #[b1, .slice p1 n1 c1, b2, .slice p2 n2 c2] 24)
  unfold World.cell?
  rw [e]
  have hi' : i < 2 := hi
  rcases (show i = 0 ∨ i = 1 by omega) with rfl | rfl
  · exact ⟨p1, c1, rfl⟩
  · exact ⟨p2, c2, rfl⟩
theorem rw_one {w : World} {n : Nat} (hn : w.heap.size = n) (b1 : Value) (p1 : Option Addr) (n1 c1 : Nat) : Rw (w.alloc (.cells #[b1, .slice p1 n1 c1] 24)) n 0 [n1] := by
  subst hn
  refine ⟨fun i hi => ?_⟩
  have e := heap_new w (.cells #[b1, .slice p1 n1 c1] 24)
  unfold World.cell?
  rw [e]
  have hi' : i < 1 := hi
  obtain rfl : i = 0 := by omega
  exact ⟨p1, c1, rfl⟩
theorem same_true {w : World} {p p' : Option Addr} {c c' : Nat} {l m : List Int} {s s' : Bool} {x y : Int} (h1 : Nm w s p c l x) (h2 : Nm w s' p' c' m y) (k1 : Bg.Can 65536 s l) (k2 : Bg.Can 65536 s' m) (e : x = y) :
    Calls Tryd.prog 37 #[.agg #[.bool s, .slice p l.length c], .agg #[.bool s', .slice p' m.length c']] w fun e w' => e = .returned (.bool true) ∧ Below w.heap.size w w' := by
  have := same_nm h1 h2 k1 k2
  rw [decide_eq_true e] at this
  exact this
def long (L : List Nat) : Bool := L.any fun n => decide (60 < n)
theorem long_three {a b c : Nat} (h : long [a, b, c] = false) : a ≤ 60 ∧ b ≤ 60 ∧ c ≤ 60 := by
  unfold long at h
  rw [List.any_eq_false] at h
  have h1 := h a (by simp)
  have h2 := h b (by simp)
  have h3 := h c (by simp)
  rw [decide_eq_true_eq] at h1 h2 h3
  omega
theorem long_two {a b : Nat} (h : long [a, b] = false) : a ≤ 60 ∧ b ≤ 60 := by
  unfold long at h
  rw [List.any_eq_false] at h
  have h1 := h a (by simp)
  have h2 := h b (by simp)
  rw [decide_eq_true_eq] at h1 h2
  omega
theorem long_one {a : Nat} (h : long [a] = false) : a ≤ 60 := by
  unfold long at h
  rw [List.any_eq_false] at h
  have h1 := h a (by simp)
  rw [decide_eq_true_eq] at h1
  omega
end Go.Proofs.YtihgefllmkicaaaDoor
