/- Contracts: the document's comparison; whether a number lies between two. Conditions: the digits lie as told. -/
import Derived.Test.YtihgefllmkicaaaDoorRbG
import Derived.Test.YtihgefllmkicaaaDoorRbF
namespace Go.Proofs.YtihgefllmkicaaaDoor
open Go.RowKit Bg
set_option linter.unusedVariables false
set_option linter.unusedSimpArgs false


theorem boxes28 (w : World) (a b c d : Value) : ∃ W, W = (w.alloc (.cells #[a, b] 28)).alloc (.cells #[c, d] 28) ∧ Below w.heap.size w W ∧ Box W w.heap.size a b ∧ Box W (w.heap.size + 1) c d :=
  ⟨_, rfl, ((Below.refl _ _).alloc (Nat.le_refl _) _).alloc (by simp) _, (box_fresh 28 _ _ _ rfl).alloc _, box_fresh 28 _ _ _ (by simp)⟩
set_option maxRecDepth 100000 in
set_option maxHeartbeats 8000000 in
theorem rcmp_at {w : World} {p p' : Option Addr} {c c' : Nat} {l m : List Int} {s t : Bool} {x y : Int} (a : Dn w s p c l x) (b : Dn w t p' c' m y) :
    Calls Tryd.prog 28 #[.agg #[.bool s, .slice p l.length c], .agg #[.bool t, .slice p' m.length c']] w fun e w' => e = .returned (.int .i64 (sgn x y)) ∧ Below w.heap.size w w' := by
  have hsg := sgn_signs (show (1 : Int) ≤ 10 by decide) a.can b.can
  rw [a.val, b.val] at hsg
  obtain ⟨r, hr⟩ : ∃ r, r = sgn x y := ⟨_, rfl⟩
  rw [← hr] at hsg ⊢
  clear hr
  obtain ⟨W, hW, hB, x0, x1⟩ := boxes28 w (.bool s) (.slice p l.length c) (.bool t) (.slice p' m.length c')
  have T1 := Lib.hid (rorder_at (a.arg.below hB) (b.arg.below hB) a.can.dig b.can.dig a.can.tidy b.can.tidy)
  have T2 := Lib.hid (rorder_at (b.arg.below hB) (a.arg.below hB) b.can.dig a.can.dig b.can.tidy a.can.tidy)
  have c0 := x0.c0
  have c1 := x0.c1
  have c2 := x1.c0
  have c3 := x1.c1
  have HB := Lib.hid hB
  clear a b hB x0 x1
  go_enter Tryd.func28, Tryd.ntmps28
  cases s <;> cases t
  · have hs2 : r = sgn (Bg.val 10 l) (Bg.val 10 m) := by rw [hsg]; rfl
    have HS := Lib.hid hs2
    clear hsg hs2
    go_wp2_with fail
    rw [← hW]
    clear hW
    refine T1.out.mono ?_
    rintro e w1 ⟨rfl, B1⟩
    have hb := Lib.hid (HB.out.trans (B1.mono HB.out.size))
    clear B1
    go_wp2_with fail
    go_ret
    exact ⟨ret_int HS.out.symm, hb.out⟩
  · have hs2 : r = 1 := by rw [hsg]; rfl
    have HS := Lib.hid hs2
    clear hsg hs2
    go_wp2_with fail
    go_ret
    exact ⟨ret_int HS.out.symm, by rw [← hW]; exact HB.out⟩
  · have hs2 : r = -1 := by rw [hsg]; rfl
    have HS := Lib.hid hs2
    clear hsg hs2
    go_wp2_with fail
    go_ret
    exact ⟨ret_int HS.out.symm, by rw [← hW]; exact HB.out⟩
  · have hs2 : r = sgn (Bg.val 10 m) (Bg.val 10 l) := by rw [hsg]; rfl
    have HS := Lib.hid hs2
    clear hsg hs2
    go_wp2_with fail
    rw [← hW]
    clear hW
    refine T2.out.mono ?_
    rintro e w1 ⟨rfl, B1⟩
    have hb := Lib.hid (HB.out.trans (B1.mono HB.out.size))
    clear B1
    go_wp2_with fail
    go_ret
    exact ⟨ret_int HS.out.symm, hb.out⟩
theorem sgn_ge (x y : Int) : decide (sgn x y ≥ 0) = decide (y ≤ x) := by
  rw [decide_eq_decide]; unfold sgn; split <;> (try split) <;> omega
theorem sgn_le (x y : Int) : decide (sgn x y ≤ 0) = decide (x ≤ y) := by
  rw [decide_eq_decide]; unfold sgn; split <;> (try split) <;> omega
/-- Whether a number lies between two that texts name. -/
theorem rwithin_at {w : World} {p : Option Addr} {c : Nat} {l : List Int} {s : Bool} {x lo hi : Int} (a : Dn w s p c l x) (t u : ByteArray) (ht : t.size ≤ 1000000) (hu : u.size ≤ 1000000) (kt : isDec (pBody t) = true) (ku : isDec (pBody u) = true) (vt : pVal t = lo) (vu : pVal u = hi) :
    Calls Tryd.prog 18 #[.agg #[.bool s, .slice p l.length c], .string t, .string u] w fun e w' => e = .returned (.bool (decide (lo ≤ x ∧ x ≤ hi))) ∧ Below w.heap.size w w' := by
  obtain ⟨r, hr⟩ : ∃ r, r = decide (lo ≤ x ∧ x ≤ hi) := ⟨_, rfl⟩
  rw [← hr]
  obtain ⟨W, hW⟩ : ∃ W, W = w.alloc (.cells #[.bool s, .slice p l.length c] 28) := ⟨_, rfl⟩
  have hB : Below w.heap.size w W := by rw [hW]; exact (Below.refl _ _).alloc (Nat.le_refl _) _
  have x0 : Box W w.heap.size (.bool s) (.slice p l.length c) := by rw [hW]; exact box_fresh 28 _ _ _ rfl
  have H0 := Lib.hid (And.intro hB (And.intro x0 (a.below hB)))
  have HR := Lib.hid hr
  clear a hB x0 hr
  go_enter Tryd.func18, Tryd.ntmps18
  go_wp2_with fail
  rw [← hW]
  clear hW
  refine (rparse_at t ht W).mono ?_
  rintro e w1 ⟨hR, B1⟩
  rcases hR with ⟨-, s1, q1, d1, D1, rfl, n1, -⟩ | ⟨hno, -⟩
  case inr => rw [kt] at hno; cases hno
  obtain ⟨w2, hw2⟩ : ∃ w2, w2 = w1.alloc (.cells #[.bool s1, .slice q1 D1.length d1] 28) := ⟨_, rfl⟩
  have B2 : Below w1.heap.size w1 w2 := by rw [hw2]; exact (Below.refl _ _).alloc (Nat.le_refl _) _
  have x2 : Box w2 w1.heap.size (.bool s1) (.slice q1 D1.length d1) := by rw [hw2]; exact box_fresh 28 _ _ _ rfl
  have hb2 := (H0.out.1.trans (B1.mono H0.out.1.size)).trans (B2.mono (H0.out.1.trans (B1.mono H0.out.1.size)).size)
  have H2 := Lib.hid (And.intro hb2 (And.intro ((H0.out.2.1.below B1).below B2) (And.intro ((H0.out.2.2.below B1).below B2) (And.intro x2 (n1.below B2)))))
  clear B1 B2 x2 hb2 n1
  go_upto_region 2 with fail
  rw [← hw2]
  clear hw2
  go_wp2_with fail
  refine (rparse_at u hu w2).mono ?_
  rintro e w3 ⟨hR, B3⟩
  rcases hR with ⟨-, s3, q3, d3, D3, rfl, n3, -⟩ | ⟨hno, -⟩
  case inr => rw [ku] at hno; cases hno
  obtain ⟨w4, hw4⟩ : ∃ w4, w4 = w3.alloc (.cells #[.bool s3, .slice q3 D3.length d3] 28) := ⟨_, rfl⟩
  have B4 : Below w3.heap.size w3 w4 := by rw [hw4]; exact (Below.refl _ _).alloc (Nat.le_refl _) _
  have x4 : Box w4 w3.heap.size (.bool s3) (.slice q3 D3.length d3) := by rw [hw4]; exact box_fresh 28 _ _ _ rfl
  have hb4 := (H2.out.1.trans (B3.mono H2.out.1.size)).trans (B4.mono (H2.out.1.trans (B3.mono H2.out.1.size)).size)
  have H4 := Lib.hid (And.intro hb4 (And.intro ((H2.out.2.1.below B3).below B4) (And.intro ((H2.out.2.2.1.below B3).below B4) (And.intro ((H2.out.2.2.2.1.below B3).below B4) (And.intro ((H2.out.2.2.2.2.below B3).below B4) (And.intro x4 (n3.below B4)))))))
  clear B3 B4 x4 hb4 n3
  go_upto_region 3 with fail
  rw [← hw4]
  clear hw4
  have y0 := H4.out.2.1.c0
  have y1 := H4.out.2.1.c1
  have y2 := H4.out.2.2.2.1.c0
  have y3 := H4.out.2.2.2.1.c1
  go_wp2_with fail
  refine (rcmp_at H4.out.2.2.1 H4.out.2.2.2.2.1).mono ?_
  rintro e w5 ⟨rfl, B5⟩
  have H5 := Lib.hid (And.intro (H4.out.1.trans (B5.mono H4.out.1.size)) (And.intro (H4.out.2.1.below B5) (And.intro (H4.out.2.2.1.below B5) (And.intro (H4.out.2.2.2.2.2.1.below B5) (H4.out.2.2.2.2.2.2.below B5)))))
  clear B5 y0 y1 y2 y3
  obtain ⟨g, hg⟩ : ∃ g, g = sgn x (pVal t) := ⟨_, rfl⟩
  rw [← hg]
  have g1 := sgn_ge x (pVal t)
  rw [← hg, vt] at g1
  clear hg
  have y0 := H5.out.2.1.c0
  have y1 := H5.out.2.1.c1
  have y2 := H5.out.2.2.2.1.c0
  have y3 := H5.out.2.2.2.1.c1
  by_cases hlo : lo ≤ x
  · rw [decide_eq_true hlo] at g1
    go_wp2_with fail
    refine (rcmp_at H5.out.2.2.1 H5.out.2.2.2.2).mono ?_
    rintro e w6 ⟨rfl, B6⟩
    have H6 := Lib.hid (H5.out.1.trans (B6.mono H5.out.1.size))
    obtain ⟨k, hk⟩ : ∃ k, k = sgn x (pVal u) := ⟨_, rfl⟩
    rw [← hk]
    have k1 := sgn_le x (pVal u)
    rw [← hk, vu] at k1
    clear hk B6 y0 y1 y2 y3 g1
    have hrr : r = decide (x ≤ hi) := by rw [HR.out, decide_eq_decide]; exact ⟨fun h => h.2, fun h => ⟨hlo, h⟩⟩
    rw [← hrr] at k1
    clear hrr hlo
    go_wp2_with fail
    go_ret
    exact ⟨rfl, H6.out⟩
  · rw [decide_eq_false hlo] at g1
    have hrr : r = false := by rw [HR.out, decide_eq_false_iff_not]; exact fun h => hlo h.1
    have HRR := Lib.hid hrr
    clear hrr
    go_wp2_with fail
    go_ret
    exact ⟨retB HRR.out.symm, H5.out.1⟩
end Go.Proofs.YtihgefllmkicaaaDoor
