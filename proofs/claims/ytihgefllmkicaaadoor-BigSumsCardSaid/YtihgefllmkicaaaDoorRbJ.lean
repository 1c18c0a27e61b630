/- Contracts: the document's number as one of 64 bits, and made of digits to the base 65536. Conditions: the digits lie as told. -/
import Derived.Test.YtihgefllmkicaaaDoorRbG
import Derived.Test.YtihgefllmkicaaaDoorRbF
namespace Go.Proofs.YtihgefllmkicaaaDoor
open Go.RowKit Bg
set_option linter.unusedVariables false
set_option linter.unusedSimpArgs false


theorem boxes28 (w : World) (a b c d : Value) : ∃ W, W = (w.alloc (.cells #[a, b] 28)).alloc (.cells #[c, d] 28) ∧ Below w.heap.size w W ∧ Box W w.heap.size a b ∧ Box W (w.heap.size + 1) c d :=
  ⟨_, rfl, ((Below.refl _ _).alloc (Nat.le_refl _) _).alloc (by simp) _, (box_fresh 28 _ _ _ rfl).alloc _, box_fresh 28 _ _ _ (by simp)⟩
set_option maxRecDepth 100000 in
set_option maxHeartbeats 8000000 in
theorem rcmp_at {w : World} {p p' : Option Addr} {c c' : Nat} {l m : List Int} {s t : Bool} {x y : Int} (a : Dn w s p c l x) (b : Dn w t p' c' m y) :
    Calls Tryd.prog 28 #[.agg #[.bool s, .slice p l.length c], .agg #[.bool t, .slice p' m.length c']] w fun e w' => e = .returned (.int .i64 (sgn x y)) ∧ Below w.heap.size w w' := by
  have hsg := sgn_signs (show (1 : Int) ≤ 10 by decide) a.can b.can
  rw [a.val, b.val] at hsg
  obtain ⟨r, hr⟩ : ∃ r, r = sgn x y := ⟨_, rfl⟩
  rw [← hr] at hsg ⊢
  clear hr
  obtain ⟨W, hW, hB, x0, x1⟩ := boxes28 w (.bool s) (.slice p l.length c) (.bool t) (.slice p' m.length c')
  have T1 := Lib.hid (rorder_at (a.arg.below hB) (b.arg.below hB) a.can.dig b.can.dig a.can.tidy b.can.tidy)
  have T2 := Lib.hid (rorder_at (b.arg.below hB) (a.arg.below hB) b.can.dig a.can.dig b.can.tidy a.can.tidy)
  have c0 := x0.c0
  have c1 := x0.c1
  have c2 := x1.c0
  have c3 := x1.c1
  have HB := Lib.hid hB
  clear a b hB x0 x1
  go_enter Tryd.func28, Tryd.ntmps28
  cases s <;> cases t
  · have hs2 : r = sgn (Bg.val 10 l) (Bg.val 10 m) := by rw [hsg]; rfl
    have HS := Lib.hid hs2
    clear hsg hs2
    go_wp2_with fail
    rw [← hW]
    clear hW
    refine T1.out.mono ?_
    rintro e w1 ⟨rfl, B1⟩
    have hb := Lib.hid (HB.out.trans (B1.mono HB.out.size))
    clear B1
    go_wp2_with fail
    go_ret
    exact ⟨ret_int HS.out.symm, hb.out⟩
  · have hs2 : r = 1 := by rw [hsg]; rfl
    have HS := Lib.hid hs2
    clear hsg hs2
    go_wp2_with fail
    go_ret
    exact ⟨ret_int HS.out.symm, by rw [← hW]; exact HB.out⟩
  · have hs2 : r = -1 := by rw [hsg]; rfl
    have HS := Lib.hid hs2
    clear hsg hs2
    go_wp2_with fail
    go_ret
    exact ⟨ret_int HS.out.symm, by rw [← hW]; exact HB.out⟩
  · have hs2 : r = sgn (Bg.val 10 m) (Bg.val 10 l) := by rw [hsg]; rfl
    have HS := Lib.hid hs2
    clear hsg hs2
    go_wp2_with fail
    rw [← hW]
    clear hW
    refine T2.out.mono ?_
    rintro e w1 ⟨rfl, B1⟩
    have hb := Lib.hid (HB.out.trans (B1.mono HB.out.size))
    clear B1
    go_wp2_with fail
    go_ret
    exact ⟨ret_int HS.out.symm, hb.out⟩
theorem sgn_ge (x y : Int) : decide (sgn x y ≥ 0) = decide (y ≤ x) := by
  rw [decide_eq_decide]; unfold sgn; split <;> (try split) <;> omega
theorem sgn_le (x y : Int) : decide (sgn x y ≤ 0) = decide (x ≤ y) := by
  rw [decide_eq_decide]; unfold sgn; split <;> (try split) <;> omega
/-- Whether a number lies between two that texts name. -/
theorem rwithin_at {w : World} {p : Option Addr} {c : Nat} {l : List Int} {s : Bool} {x lo hi : Int} (a : Dn w s p c l x) (t u : ByteArray) (ht : t.size ≤ 1000000) (hu : u.size ≤ 1000000) (kt : isDec (pBody t) = true) (ku : isDec (pBody u) = true) (vt : pVal t = lo) (vu : pVal u = hi) :
    Calls Tryd.prog 18 #[.agg #[.bool s, .slice p l.length c], .string t, .string u] w fun e w' => e = .returned (.bool (decide (lo ≤ x ∧ x ≤ hi))) ∧ Below w.heap.size w w' := by
  obtain ⟨r, hr⟩ : ∃ r, r = decide (lo ≤ x ∧ x ≤ hi) := ⟨_, rfl⟩
  rw [← hr]
  obtain ⟨W, hW⟩ : ∃ W, W = w.alloc (.cells #[.bool s, .slice p l.length c] 28) := ⟨_, rfl⟩
  have hB : Below w.heap.size w W := by rw [hW]; exact (Below.refl _ _).alloc (Nat.le_refl _) _
  have x0 : Box W w.heap.size (.bool s) (.slice p l.length c) := by rw [hW]; exact box_fresh 28 _ _ _ rfl
  have H0 := Lib.hid (And.intro hB (And.intro x0 (a.below hB)))
  have HR := Lib.hid hr
  clear a hB x0 hr
  go_enter Tryd.func18, Tryd.ntmps18
  go_wp2_with fail
  rw [← hW]
  clear hW
  refine (rparse_at t ht W).mono ?_
  rintro e w1 ⟨hR, B1⟩
  rcases hR with ⟨-, s1, q1, d1, D1, rfl, n1, -⟩ | ⟨hno, -⟩
  case inr => rw [kt] at hno; cases hno
  obtain ⟨w2, hw2⟩ : ∃ w2, w2 = w1.alloc (.cells #[.bool s1, .slice q1 D1.length d1] 28) := ⟨_, rfl⟩
  have B2 : Below w1.heap.size w1 w2 := by rw [hw2]; exact (Below.refl _ _).alloc (Nat.le_refl _) _
  have x2 : Box w2 w1.heap.size (.bool s1) (.slice q1 D1.length d1) := by rw [hw2]; exact box_fresh 28 _ _ _ rfl
  have hb2 := (H0.out.1.trans (B1.mono H0.out.1.size)).trans (B2.mono (H0.out.1.trans (B1.mono H0.out.1.size)).size)
  have H2 := Lib.hid (And.intro hb2 (And.intro ((H0.out.2.1.below B1).below B2) (And.intro ((H0.out.2.2.below B1).below B2) (And.intro x2 (n1.below B2)))))
  clear B1 B2 x2 hb2 n1
  go_upto_region 2 with fail
  rw [← hw2]
  clear hw2
  go_wp2_with fail
  refine (rparse_at u hu w2).mono ?_
  rintro e w3 ⟨hR, B3⟩
  rcases hR with ⟨-, s3, q3, d3, D3, rfl, n3, -⟩ | ⟨hno, -⟩
  case inr => rw [ku] at hno; cases hno
  obtain ⟨w4, hw4⟩ : ∃ w4, w4 = w3.alloc (.cells #[.bool s3, .slice q3 D3.length d3] 28) := ⟨_, rfl⟩
  have B4 : Below w3.heap.size w3 w4 := by rw [hw4]; exact (Below.refl _ _).alloc (Nat.le_refl _) _
  have x4 : Box w4 w3.heap.size (.bool s3) (.slice q3 D3.length d3) := by rw [hw4]; exact box_fresh 28 _ _ _ rfl
  have hb4 := (H2.out.1.trans (B3.mono H2.out.1.size)).trans (B4.mono (H2.out.1.trans (B3.mono H2.out.1.size)).size)
  have H4 := Lib.hid (And.intro hb4 (And.intro ((H2.out.2.1.below B3).below B4) (And.intro ((H2.out.2.2.1.below B3).below B4) (And.intro ((H2.out.2.2.2.1.below B3).below B4) (And.intro ((H2.out.2.2.2.2.below B3).below B4) (And.intro x4 (n3.below B4)))))))
  clear B3 B4 x4 hb4 n3
  go_upto_region 3 with fail
  rw [← hw4]
  clear hw4
  have y0 := H4.out.2.1.c0
  have y1 := H4.out.2.1.c1
  have y2 := H4.out.2.2.2.1.c0
  have y3 := H4.out.2.2.2.1.c1
  go_wp2_with fail
  refine (rcmp_at H4.out.2.2.1 H4.out.2.2.2.2.1).mono ?_
  rintro e w5 ⟨rfl, B5⟩
  have H5 := Lib.hid (And.intro (H4.out.1.trans (B5.mono H4.out.1.size)) (And.intro (H4.out.2.1.below B5) (And.intro (H4.out.2.2.1.below B5) (And.intro (H4.out.2.2.2.2.2.1.below B5) (H4.out.2.2.2.2.2.2.below B5)))))
  clear B5 y0 y1 y2 y3
  obtain ⟨g, hg⟩ : ∃ g, g = sgn x (pVal t) := ⟨_, rfl⟩
  rw [← hg]
  have g1 := sgn_ge x (pVal t)
  rw [← hg, vt] at g1
  clear hg
  have y0 := H5.out.2.1.c0
  have y1 := H5.out.2.1.c1
  have y2 := H5.out.2.2.2.1.c0
  have y3 := H5.out.2.2.2.1.c1
  by_cases hlo : lo ≤ x
  · rw [decide_eq_true hlo] at g1
    go_wp2_with fail
    refine (rcmp_at H5.out.2.2.1 H5.out.2.2.2.2).mono ?_
    rintro e w6 ⟨rfl, B6⟩
    have H6 := Lib.hid (H5.out.1.trans (B6.mono H5.out.1.size))
    obtain ⟨k, hk⟩ : ∃ k, k = sgn x (pVal u) := ⟨_, rfl⟩
    rw [← hk]
    have k1 := sgn_le x (pVal u)
    rw [← hk, vu] at k1
    clear hk B6 y0 y1 y2 y3 g1
    have hrr : r = decide (x ≤ hi) := by rw [HR.out, decide_eq_decide]; exact ⟨fun h => h.2, fun h => ⟨hlo, h⟩⟩
    rw [← hrr] at k1
    clear hrr hlo
    go_wp2_with fail
    go_ret
    exact ⟨rfl, H6.out⟩
  · rw [decide_eq_false hlo] at g1
    have hrr : r = false := by rw [HR.out, decide_eq_false_iff_not]; exact fun h => hlo h.1
    have HRR := Lib.hid hrr
    clear hrr
    go_wp2_with fail
    go_ret
    exact ⟨retB HRR.out.symm, H5.out.1⟩
open Go.RowKit Bg
set_option linter.unusedVariables false
set_option linter.unusedSimpArgs false


theorem val_any {B : Int} (l : List Int) (k : Nat) (h : k < l.length) : Bg.val B (l.drop k) = l.getD k 0 + B * Bg.val B (l.drop (k + 1)) := val_drop l h
set_option maxRecDepth 100000 in
set_option maxHeartbeats 8000000 in
theorem rsmall_at {w : World} {p : Option Addr} {c : Nat} {l : List Int} {s : Bool} {x : Int} (a : Dn w s p c l x) (hn : l.length ≤ 18) :
    Calls Tryd.prog 20 #[.agg #[.bool s, .slice p l.length c]] w fun e w' => e = .returned (.int .i64 x) ∧ Below w.heap.size w w' := by
  obtain ⟨W, hW⟩ : ∃ W, W = w.alloc (.cells #[.bool s, .slice p l.length c] 28) := ⟨_, rfl⟩
  have hB : Below w.heap.size w W := by rw [hW]; exact (Below.refl _ _).alloc (Nat.le_refl _) _
  have x0 : Box W w.heap.size (.bool s) (.slice p l.length c) := by rw [hW]; exact box_fresh 28 _ _ _ rfl
  have c0 := x0.c0
  have c1 := x0.c1
  have hv := a.val
  unfold nv at hv
  have H := Lib.hid (And.intro (a.arg.below hB) (And.intro a.can.dig (And.intro hB hv)))
  have hmx := a.arg.max
  have hle := a.arg.le
  clear a hB x0 hv
  go_enter Tryd.func20, Tryd.ntmps20
  go_wp2_with fail
  rw [← hW]
  clear hW
  go_loop [3, 4] (fun n t => ∃ k : Nat, t = .int .i64 ((k : Int) - 1) ∧ k ≤ l.length ∧ n = .int .i64 (Bg.val 10 (l.drop k))) (fun _ t => (intOf t + 1).toNat)
  case atStart => exact ⟨l.length, rfl, Nat.le_refl _, by rw [List.drop_eq_nil_of_le (Nat.le_refl _)]; rfl⟩
  case round =>
    obtain ⟨k, rfl, hk, rfl⟩ := hrel
    cases k with
    | zero =>
      have d1 : decide (((0 : Nat) : Int) - 1 ≥ 0) = false := by decide
      have hb := val_lt (show (0 : Int) < 10 by decide) H.out.2.1
      have h0 := val_nonneg (show (0 : Int) ≤ 10 by decide) H.out.2.1
      have hp := pow_le (show (1 : Int) ≤ 10 by decide) hn
      have hp2 : (10 : Int) ^ 18 = 1000000000000000000 := by decide
      rw [List.drop_zero]
      obtain ⟨z, hz⟩ : ∃ z, z = Bg.val 10 l := ⟨_, rfl⟩
      rw [← hz] at hb h0 ⊢
      have HZ := Lib.hid hz
      have g1 : wrap64 (-z) = -z := by unfold wrap64; omega
      have g2 : IntKind.i64.wrap (-z) = -z := by rw [IntKind.wrap_i64]; omega
      clear hz hb h0 hp hp2
      cases s
      · have he := H.out.2.2.2
        rw [if_neg (by decide), ← HZ.out] at he
        have HE := Lib.hid he
        clear he
        go_wp2_with fail
        go_ret
        exact ⟨ret_int HE.out, H.out.2.2.1⟩
      · have he := H.out.2.2.2
        rw [if_pos rfl, ← HZ.out] at he
        have HE := Lib.hid he
        clear he
        go_wp2_with fail
        go_ret
        exact ⟨ret_int HE.out, H.out.2.2.1⟩
    | succ k =>
      have e6 : ((k + 1 : Nat) : Int) - 1 = k := by omega
      have d1 : decide ((k : Int) ≥ 0) = true := by rw [decide_eq_true_eq]; omega
      obtain ⟨b, off, rfl, hc⟩ := H.out.1.at (by omega)
      have ck := hc k (by omega)
      have hd := H.out.2.1.getD (by decide) k
      have hva := val_any (B := 10) l k (by omega)
      have hb := val_lt (show (0 : Int) < 10 by decide) (H.out.2.1.drop (k + 1))
      have h0 := val_nonneg (show (0 : Int) ≤ 10 by decide) (H.out.2.1.drop (k + 1))
      have hp := pow_le (show (1 : Int) ≤ 10 by decide) (show (l.drop (k + 1)).length ≤ 17 by rw [List.length_drop]; omega)
      have hp2 : (10 : Int) ^ 17 = 100000000000000000 := by decide
      obtain ⟨d, hde⟩ : ∃ d, d = l.getD k 0 := ⟨_, rfl⟩
      obtain ⟨z, hz⟩ : ∃ z, z = Bg.val 10 (l.drop (k + 1)) := ⟨_, rfl⟩
      rw [← hde] at ck hd hva
      rw [← hz] at hb h0 hva ⊢
      have HV := Lib.hid hva
      have f1 : (k : Int) < (l.length : Int) := by omega
      have e1 : wrap64 (10 * z) = 10 * z := by unfold wrap64; omega
      have e2 : wrap64 (10 * z + d) = 10 * z + d := by unfold wrap64; omega
      clear hc hde hz hva hb h0 hp hp2 hd
      rw [e6]
      go_wp2_with fail
      go_round
      case rel => exact ⟨k, rfl, by omega, by rw [HV.out, e2, Int.add_comm]⟩
      case measure => simp [intOf]
set_option maxRecDepth 100000 in
set_option maxHeartbeats 8000000 in
theorem rfrom_at {w : World} {p : Option Addr} {c : Nat} {l : List Int} {s : Bool} (a : Arg .u16 w p c l) (dl : Dig 65536 l) (hn : l.length ≤ 10000) :
    Calls Tryd.prog 39 #[.bool s, .slice p l.length c] w fun e w' => ∃ t q d D, e = .returned (.agg #[.bool t, .slice q D.length d]) ∧ Dn w' t q d D (nv 65536 s l) ∧ D.length ≤ 7 * l.length ∧ (q = none ∨ ∃ g, q = some ⟨g, 0, none⟩ ∧ w.heap.size ≤ g) ∧ Below w.heap.size w w' := by
  obtain ⟨W, hW⟩ : ∃ W, W = w.alloc (.cells #[.bool false, .slice none 0 0] 28) := ⟨_, rfl⟩
  have hB : Below w.heap.size w W := by rw [hW]; exact (Below.refl _ _).alloc (Nat.le_refl _) _
  have x0 : Box W w.heap.size (.bool false) (.slice none 0 0) := by rw [hW]; exact box_fresh 28 _ _ _ rfl
  have hS : W.heap.size = w.heap.size + 1 := by rw [hW]; simp
  have HH := Lib.hid (And.intro (a.below hB) (And.intro dl (And.intro hB (And.intro x0 hS))))
  have hmx := a.max
  have hle := a.le
  clear a dl hB x0 hS
  go_enter Tryd.func39, Tryd.ntmps39
  go_wp2_with fail
  rw [← hW]
  clear hW
  go_loopw [5, 6] (fun v t wr => ∃ (k : Nat) (D : List Int), t = .int .i64 ((k : Int) - 1) ∧ k ≤ l.length ∧ Hid (Own 3 .i64 W.heap.size wr v D ∧ Dig 10 D ∧ D.length ≤ 7 * (l.length - k) ∧ Bg.val 10 D = Bg.val 65536 (l.drop k) ∧ Below W.heap.size W wr)) (fun _ t _ => (intOf t + 1).toNat)
  case atStart => exact ⟨l.length, [], rfl, Nat.le_refl _, Own.nil _ _ _ _, Dig.nil, by simp, by rw [List.drop_eq_nil_of_le (Nat.le_refl _)]; rfl, Below.refl _ _⟩
  case round =>
    obtain ⟨k, D, rfl, hk, hS⟩ := hrel
    obtain ⟨p3, c3, hv3, a3, hp3⟩ := hS.out.1.arg
    rw [hv3] at hS ⊢
    clear hv3
    cases k with
    | zero =>
      have d1 : decide (((0 : Nat) : Int) - 1 ≥ 0) = false := by decide
      have T := Lib.hid (made_at s a3)
      have hx := HH.out.2.2.2.1.below hS.out.2.2.2.2
      have HB := Lib.hid (HH.out.2.2.1.trans (hS.out.2.2.2.2.mono HH.out.2.2.1.size))
      have HZ := Lib.hid (And.intro a3 (And.intro hp3 hx))
      clear a3 hp3 hx
      go_wp2_with fail
      refine T.out.mono ?_
      rintro e w5 ⟨rfl, B5⟩
      obtain ⟨tn, htn⟩ : ∃ tn, tn = tneg s D := ⟨_, rfl⟩
      rw [← htn]
      have hx5 := HZ.out.2.2.below B5
      have k7 := Box.first hx5 (.bool tn)
      have k6 := (hx5.store (.bool tn) (.slice p3 (tdig D).length c3)).2
      have hf0 := hx5.f0
      have hf1 := hx5.f1
      have hc0 := hx5.c0
      have hc1 := hx5.c1
      have H5 := Lib.hid (And.intro htn B5)
      clear htn B5 hx5 d1
      go_wp2_with fail
      refine bodyPost_ret (v := .agg #[.bool tn, .slice p3 (tdig D).length c3]) (by simp [results, Tryd.results39, go_sem, k6, k7]) rfl ⟨tn, p3, c3, tdig D, rfl, ⟨?_, ?_, ?_⟩, ?_, ?_, ?_⟩
      · refine ((HZ.out.1.below H5.out.2).take _).put (fun g o he hg => ?_) _ _
        rcases HZ.out.2.1 with h | ⟨g', h, hg', -⟩
        · rw [h] at he; cases he
        · rw [h] at he; cases he
          have := HH.out.2.2.2.2
          omega
      · rw [H5.out.1]; exact (can_made (by decide) hS.out.2.1).1
      · rw [H5.out.1]
        refine (can_made (by decide) hS.out.2.1).2.trans ?_
        unfold nv
        rw [hS.out.2.2.2.1, List.drop_zero]
      · have := tdig_len D
        have := trimN_le D D.length
        have := hS.out.2.2.1
        omega
      · rcases HZ.out.2.1 with h | ⟨g', h, hg', -⟩
        · exact Or.inl h
        · exact Or.inr ⟨g', h, by have := HH.out.2.2.2.2; omega⟩
      · exact box_kept (HB.out.trans (H5.out.2.mono HB.out.size)) (Nat.le_refl _) _ _
    | succ k =>
      have e6 : ((k + 1 : Nat) : Int) - 1 = k := by omega
      have d1 : decide ((k : Int) ≥ 0) = true := by rw [decide_eq_true_eq]; omega
      obtain ⟨b, off, rfl, hc⟩ := HH.out.1.at (by omega)
      have ck := (HH.out.1.below hS.out.2.2.2.2).some_at k (by omega)
      have hd := HH.out.2.1.getD (by decide) k
      have hva := val_any (B := 65536) l k (by omega)
      obtain ⟨d, hde⟩ : ∃ d, d = l.getD k 0 := ⟨_, rfl⟩
      rw [← hde] at ck hd hva
      have T := Lib.hid (rtimes_at (y := 65536) (m0 := d) a3 hS.out.2.1 (by decide) (by omega) (by have := hS.out.2.2.1; omega))
      have HV := Lib.hid hva
      have f1 : (k : Int) < (l.length : Int) := by omega
      have g1 : wrap64 d = d := by unfold wrap64; omega
      have g2 : IntKind.i64.wrap d = d := by rw [IntKind.wrap_i64]; omega
      clear hc hde hva hd a3 hp3
      rw [e6]
      go_wp2_with fail
      refine T.out.mono ?_
      rintro e w5 ⟨v5, D5, rfl, o5, d5, l5, v5e, B5⟩
      have hb5 := hS.out.2.2.2.2.trans (B5.mono hS.out.2.2.2.2.size)
      have H5 := Lib.hid (And.intro (o5.base hS.out.2.2.2.2.size) (And.intro d5 (And.intro l5 (And.intro v5e hb5))))
      clear o5 d5 l5 v5e B5 hb5
      go_wp2_with fail
      go_roundw
      case rel =>
        refine ⟨k, D5, rfl, by omega, H5.out.1, H5.out.2.1, ?_, ?_, H5.out.2.2.2.2⟩
        · have := H5.out.2.2.1
          have := hS.out.2.2.1
          omega
        · rw [H5.out.2.2.2.1, HV.out, hS.out.2.2.2.1, Int.mul_comm, Int.add_comm]
      case measure => simp [intOf]
end Go.Proofs.YtihgefllmkicaaaDoor
