/- Contracts: the document's Neg, Add, Sub. Conditions: the digits lie as told. -/
import Derived.Test.YtihgefllmkicaaaDoorRbK
import Derived.Test.YtihgefllmkicaaaDoorRbL
namespace Go.Proofs.YtihgefllmkicaaaDoor
open Go.RowKit Bg
set_option linter.unusedVariables false
set_option linter.unusedSimpArgs false


theorem Arg.put2 {k : IntKind} {w : World} {p : Option Addr} {c : Nat} {l : List Int} (h : Arg k w p c l) {b : Nat} (hb : w.heap.size ≤ b) (u v : Value) : Arg k ((w.setCell ⟨b, 0, none⟩ u).setCell ⟨b, 1, none⟩ v) p c l :=
  h.below (box_kept (Below.refl _ _) hb u v)
/-- What is made of digits, in another place than b. -/
theorem made_dn {w : World} {p : Option Addr} {c b : Nat} {D : List Int} {s tn : Bool} {x : Int} (a : Arg .i64 w p c D) (d : Dig 10 D) (hp : ∀ g o, p = some ⟨g, o, none⟩ → 0 < D.length → g ≠ b) (ht : tn = tneg s D) (hx : nv 10 s D = x) (u v : Value) : Dn ((w.setCell ⟨b, 0, none⟩ u).setCell ⟨b, 1, none⟩ v) tn p c (tdig D) x := by
  refine ⟨?_, by rw [ht]; exact (can_made (by decide) d).1, by rw [ht]; exact (can_made (by decide) d).2.trans hx⟩
  have h1 : Arg .i64 w p c (tdig D) := a.take _
  refine ⟨h1.nil, h1.le, h1.max, fun i hi => ?_⟩
  obtain ⟨g, off, he, hc⟩ := h1.cell i hi
  have hD : 0 < D.length := by have := tdig_len D; have := trimN_le D D.length; omega
  refine ⟨g, off, he, (World.cell?_of_block (w := w) ?_).trans hc⟩
  exact (Below.heap_setCell _ _ _ _ (fun e => hp g off he hD e)).trans (Below.heap_setCell _ _ _ _ (fun e => hp g off he hD e))
theorem tdig_le (D : List Int) : (tdig D).length ≤ D.length := by
  have := tdig_len D
  have := trimN_le D D.length
  omega
set_option maxRecDepth 100000 in
set_option maxHeartbeats 8000000 in
theorem rneg_at {w : World} {p : Option Addr} {c : Nat} {l : List Int} {s : Bool} {x : Int} (a : Dn w s p c l x) :
    Calls Tryd.prog 57 #[.agg #[.bool s, .slice p l.length c]] w fun e w' => ∃ t q d D, e = .returned (.agg #[.bool t, .slice q D.length d]) ∧ Dn w' t q d D (-x) ∧ D.length ≤ l.length ∧ Below w.heap.size w w' := by
  obtain ⟨W, hW, hB, x0, x1⟩ := boxes28 w (.bool s) (.slice p l.length c) (.bool false) (.slice none 0 0)
  have hS : W.heap.size = w.heap.size + 2 := by rw [hW]; simp
  have T := Lib.hid (made_at (!s) (a.arg.below hB))
  have hx : nv 10 (!s) l = -x := by rw [← a.val]; unfold nv; cases s <;> simp
  have hpw : ∀ g o, p = some ⟨g, o, none⟩ → 0 < l.length → g ≠ w.heap.size + 1 := fun g o he h0 hg => by
    obtain ⟨b, off, he2, hc⟩ := a.arg.at h0
    rw [he] at he2
    cases he2
    have := World.block_lt_of_cell? w _ (hc 0 h0)
    simp only at this
    omega
  have c0 := x0.c0
  have c1 := x0.c1
  have H := Lib.hid (And.intro hB (And.intro x1 (And.intro (a.arg.below hB) (And.intro a.can.dig (And.intro hx hpw)))))
  clear a hB x0 x1 hS hx hpw
  go_enter Tryd.func57, Tryd.ntmps57
  go_wp2_with fail
  rw [← hW]
  clear hW
  refine T.out.mono ?_
  rintro e w1 ⟨rfl, B1⟩
  obtain ⟨tn, htn⟩ : ∃ tn, tn = tneg (!s) l := ⟨_, rfl⟩
  rw [← htn]
  have hx := H.out.2.1.below B1
  have k7 := hx.first (.bool tn)
  have k6 := (hx.store (.bool tn) (.slice p (tdig l).length c)).2
  have hf0 := hx.f0
  have hf1 := hx.f1
  have hc0 := hx.c0
  have hc1 := hx.c1
  have H1 := Lib.hid (And.intro htn B1)
  clear htn B1 hx c0 c1
  go_wp2_with fail
  refine bodyPost_ret (v := .agg #[.bool tn, .slice p (tdig l).length c]) (by simp [results, Tryd.results57, go_sem, k6, k7]) rfl ⟨tn, p, c, tdig l, rfl, ?_, tdig_le _, ?_⟩
  · exact made_dn (H.out.2.2.1.below H1.out.2) H.out.2.2.2.1 H.out.2.2.2.2.2 H1.out.1 H.out.2.2.2.2.1 _ _
  · exact box_kept (H.out.1.trans (H1.out.2.mono H.out.1.size)) (by omega) _ _
theorem boxes28_3 (w : World) (a b c d e f : Value) : ∃ W, W = ((w.alloc (.cells #[a, b] 28)).alloc (.cells #[c, d] 28)).alloc (.cells #[e, f] 28) ∧ Below w.heap.size w W ∧ Box W w.heap.size a b ∧ Box W (w.heap.size + 1) c d ∧ Box W (w.heap.size + 1 + 1) e f ∧ W.heap.size = w.heap.size + 3 :=
  ⟨_, rfl, (((Below.refl _ _).alloc (Nat.le_refl _) _).alloc (by simp) _).alloc (by simp; omega) _, ((box_fresh 28 _ _ _ rfl).alloc _).alloc _, (box_fresh 28 _ _ _ (by simp)).alloc _, box_fresh 28 _ _ _ (by simp), by simp⟩
theorem len_of {a b : Nat} {x y : Int} (h : b < a → x < y) (k : y ≤ x) : a ≤ b := by
  rcases Nat.lt_or_ge b a with h1 | h1
  · have := h h1; omega
  · exact h1
set_option maxRecDepth 100000 in
set_option maxHeartbeats 20000000 in
theorem radd_at {w : World} {p1 p2 : Option Addr} {c1 c2 : Nat} {l1 l2 : List Int} {s1 s2 : Bool} {x y : Int} (a : Dn w s1 p1 c1 l1 x) (b : Dn w s2 p2 c2 l2 y) (n1 : l1.length ≤ 1000000) (n2 : l2.length ≤ 1000000) :
    Calls Tryd.prog 29 #[.agg #[.bool s1, .slice p1 l1.length c1], .agg #[.bool s2, .slice p2 l2.length c2]] w fun e w' => ∃ t q d D, e = .returned (.agg #[.bool t, .slice q D.length d]) ∧ Dn w' t q d D (x + y) ∧ D.length ≤ max l1.length l2.length + 1 ∧ (∀ g o, q = some ⟨g, o, none⟩ → w.heap.size ≤ g) ∧ Below w.heap.size w w' := by
  obtain ⟨W, hW, hB, x0, x1, x2, hS⟩ := boxes28_3 w (.bool s1) (.slice p1 l1.length c1) (.bool s2) (.slice p2 l2.length c2) (.bool false) (.slice none 0 0)
  have c01 := x0.c0
  have c02 := x0.c1
  have c03 := x1.c0
  have c04 := x1.c1
  have H0 := Lib.hid (And.intro x0 (And.intro hB (And.intro x0 (And.intro x1 (And.intro x2 (And.intro (a.below hB) (b.below hB)))))))
  have hne : w.heap.size ≠ w.heap.size + 1 + 1 := by omega
  have ha1 := a.val
  have hb1 := b.val
  unfold nv at ha1 hb1
  have HSZ0 := Lib.hid (And.intro hS (And.intro ha1 hb1))
  clear a b hB x0 x1 x2 hne hS ha1 hb1
  go_enter Tryd.func29, Tryd.ntmps29
  by_cases hs : s1 = s2
  case pos =>
    subst hs
    go_wp2_with fail
    rw [← hW]
    clear hW c01 c02 c03 c04
    have HSZ : Hid (w.heap.size + 3 ≤ W.drew.heap.size) := Lib.hid (by show _ ≤ W.heap.size; have := HSZ0.out.1; omega)
    have B11 : Below W.heap.size W W.drew := (Below.refl _ _).drew
    have H1 := Lib.hid (And.intro (H0.out.1.below B11) (And.intro (H0.out.2.1.trans (B11.mono H0.out.2.1.size)) (And.intro (H0.out.2.2.1.below B11) (And.intro (H0.out.2.2.2.1.below B11) (And.intro (H0.out.2.2.2.2.1.below B11) (And.intro (H0.out.2.2.2.2.2.1.below B11) (H0.out.2.2.2.2.2.2.below B11)))))))
    clear B11
    have hSS : W.drew.cell? ⟨w.heap.size, 0, none⟩ = some (.bool s1) ∧ W.drew.cell? ⟨w.heap.size, 1, none⟩ = some (.slice p1 l1.length c1) ∧ W.drew.cell? ⟨w.heap.size + 1, 0, none⟩ = some (.bool s1) ∧ W.drew.cell? ⟨w.heap.size + 1, 1, none⟩ = some (.slice p2 l2.length c2) := And.intro ((H1.out.2.2.1).c0) (And.intro ((H1.out.2.2.1).c1) (And.intro ((H1.out.2.2.2.1).c0) ((H1.out.2.2.2.1).c1)))
    refine wp_region_noPanic ?_
    refine wp_region_held_drew (S := fun w' => w'.cell? ⟨w.heap.size, 0, none⟩ = some (.bool s1) ∧ w'.cell? ⟨w.heap.size, 1, none⟩ = some (.slice p1 l1.length c1) ∧ w'.cell? ⟨w.heap.size + 1, 0, none⟩ = some (.bool s1) ∧ w'.cell? ⟨w.heap.size + 1, 1, none⟩ = some (.slice p2 l2.length c2)) (by kernel_rfl) hSS (fun hHeld => ?_)
    refine wpAnyH_take (i := 0) (oi := { dst := some 10, op := Op.fieldAddr 28 (Operand.tmp 2) 0, type := 0, pos := "ref.go:188", after := #[], guard := none }) (v := ?_) rfl (by kernel_rfl) (by kernel_rfl) (by kernel_rfl) (fun _ _ _ h => h) (Or.inl ⟨by rfl, ?_⟩) (by assumption) ?_
    rotate_left
    · (intro w0 hSw; (try dsimp only at hSw); go_simp; (try with_reducible rfl))
    try simp only [Act.put, List.setIfInBounds_toArray, List.set_cons_zero, List.set_cons_succ]
    refine wpAnyH_take (i := 1) (oi := { dst := some 11, op := Op.load 4 (Operand.tmp 10), type := 4, pos := "ref.go:188", after := #[{ on := 0, ground := Ground.data }], guard := none }) (v := ?_) rfl (by kernel_rfl) (by kernel_rfl) (by kernel_rfl) (fun _ _ _ h => h) (Or.inl ⟨by rfl, ?_⟩) (by assumption) ?_
    rotate_left
    · (intro w0 hSw; (try dsimp only at hSw); go_simp; (try with_reducible rfl))
    try simp only [Act.put, List.setIfInBounds_toArray, List.set_cons_zero, List.set_cons_succ]
    refine wpAnyH_take (i := 2) (oi := { dst := some 12, op := Op.fieldAddr 28 (Operand.tmp 2) 1, type := 0, pos := "ref.go:188", after := #[], guard := none }) (v := ?_) rfl (by kernel_rfl) (by kernel_rfl) (by kernel_rfl) (fun _ _ _ h => h) (Or.inl ⟨by rfl, ?_⟩) (by assumption) ?_
    rotate_left
    · (intro w0 hSw; (try dsimp only at hSw); go_simp; (try with_reducible rfl))
    try simp only [Act.put, List.setIfInBounds_toArray, List.set_cons_zero, List.set_cons_succ]
    refine wpAnyH_take (i := 3) (oi := { dst := some 13, op := Op.load 26 (Operand.tmp 12), type := 26, pos := "ref.go:188", after := #[{ on := 2, ground := Ground.data }], guard := none }) (v := ?_) rfl (by kernel_rfl) (by kernel_rfl) (by kernel_rfl) (fun _ _ _ h => h) (Or.inl ⟨by rfl, ?_⟩) (by assumption) ?_
    rotate_left
    · (intro w0 hSw; (try dsimp only at hSw); go_simp; (try with_reducible rfl))
    try simp only [Act.put, List.setIfInBounds_toArray, List.set_cons_zero, List.set_cons_succ]
    refine wpAnyH_take (i := 4) (oi := { dst := some 14, op := Op.fieldAddr 28 (Operand.tmp 3) 1, type := 0, pos := "ref.go:188", after := #[], guard := none }) (v := ?_) rfl (by kernel_rfl) (by kernel_rfl) (by kernel_rfl) (fun _ _ _ h => h) (Or.inl ⟨by rfl, ?_⟩) (by assumption) ?_
    rotate_left
    · (intro w0 hSw; (try dsimp only at hSw); go_simp; (try with_reducible rfl))
    try simp only [Act.put, List.setIfInBounds_toArray, List.set_cons_zero, List.set_cons_succ]
    refine wpAnyH_take (i := 5) (oi := { dst := some 15, op := Op.load 26 (Operand.tmp 14), type := 26, pos := "ref.go:188", after := #[{ on := 4, ground := Ground.data }], guard := none }) (v := ?_) rfl (by kernel_rfl) (by kernel_rfl) (by kernel_rfl) (fun _ _ _ h => h) (Or.inl ⟨by rfl, ?_⟩) (by assumption) ?_
    rotate_left
    · (intro w0 hSw; (try dsimp only at hSw); go_simp; (try with_reducible rfl))
    try simp only [Act.put, List.setIfInBounds_toArray, List.set_cons_zero, List.set_cons_succ]
    refine wpAnyH_ready (rs := [6]) (by kernel_rfl) (by simp) ?_
    refine AllReadyH.cons rfl (fun K hK => ?_) AllReadyH.nil
    go_simp
    go_wp2_with (have hx := H1; go_at_call 55; clear hx; refine (rsum_at (H1.out.2.2.2.2.2.1).arg (H1.out.2.2.2.2.2.2).arg (H1.out.2.2.2.2.2.1).can.dig (H1.out.2.2.2.2.2.2).can.dig (by omega) (by omega)).mono ?_; rintro e w12 ⟨v12, D12, rfl, o12, d12, l12, e12, B12⟩; obtain ⟨p12, c12, rfl, a12, h12⟩ := o12.arg; have P12 := Lib.hid (And.intro d12 (And.intro l12 (And.intro e12 h12))); have H2 := Lib.hid (And.intro (H1.out.1.below B12) (And.intro (H1.out.2.1.trans (B12.mono H1.out.2.1.size)) (And.intro (H1.out.2.2.1.below B12) (And.intro (H1.out.2.2.2.1.below B12) (And.intro (H1.out.2.2.2.2.1.below B12) (And.intro (H1.out.2.2.2.2.2.1.below B12) (And.intro (H1.out.2.2.2.2.2.2.below B12) a12))))))); clear o12 d12 l12 e12 h12 a12 B12 H1; clear hSS; have hSSrw12 := And.intro ((H2.out.2.2.1).c0) (And.intro ((H2.out.2.2.1).c1) (And.intro ((H2.out.2.2.2.1).c0) ((H2.out.2.2.2.1).c1))))
    refine hK.out _ _ ?_ (fun hHeld => ?_)
    · assumption
    clear hK K
    refine wpAnyH_ready (rs := [7]) (by kernel_rfl) (by simp) ?_
    refine AllReadyH.cons rfl (fun K hK => ?_) AllReadyH.nil
    go_simp
    go_wp2_with (have hx := H2; go_at_call 49; clear hx; refine (made_at s1 H2.out.2.2.2.2.2.2.2).mono ?_; rintro e w13 ⟨rfl, B13⟩; obtain ⟨tn, htn⟩ : ∃ tn, tn = tneg s1 D12 := ⟨_, rfl⟩; rw [← htn]; have HTN := Lib.hid htn; clear htn; have H3 := Lib.hid (And.intro (H2.out.1.below B13) (And.intro (H2.out.2.1.trans (B13.mono H2.out.2.1.size)) (And.intro (H2.out.2.2.1.below B13) (And.intro (H2.out.2.2.2.1.below B13) (And.intro (H2.out.2.2.2.2.1.below B13) (And.intro (H2.out.2.2.2.2.2.1.below B13) (And.intro (H2.out.2.2.2.2.2.2.1.below B13) (H2.out.2.2.2.2.2.2.2.below B13)))))))); clear B13 H2; clear hSSrw12; have hSSrw13 := And.intro ((H3.out.2.2.1).c0) (And.intro ((H3.out.2.2.1).c1) (And.intro ((H3.out.2.2.2.1).c0) ((H3.out.2.2.2.1).c1))))
    refine hK.out _ _ ?_ (fun hHeld => ?_)
    · assumption
    clear hK K
    have z4 := H3.out.2.2.2.2.1
    have k7 := z4.first (.bool tn)
    have k6 := (z4.store (.bool tn) (.slice p12 (tdig D12).length c12)).2
    have hf0 := z4.f0
    have hf1 := z4.f1
    have hc0 := z4.c0
    have hc1 := z4.c1
    have za := (H3.out.2.2.1).far (b' := w.heap.size + 1 + 1) (by omega) (.bool tn) (.slice p12 (tdig D12).length c12)
    have zb := (H3.out.2.2.2.1).far (b' := w.heap.size + 1 + 1) (by omega) (.bool tn) (.slice p12 (tdig D12).length c12)
    have hSSf := And.intro za.c0 (And.intro za.c1 (And.intro zb.c0 zb.c1))
    clear za zb z4
    refine wpAnyH_ready (rs := [8]) (by kernel_rfl) (by simp) ?_
    refine AllReadyH.cons rfl (fun K hK => ?_) AllReadyH.nil
    go_simp
    refine hK.out _ _ ?_ (fun hHeld => ?_)
    · assumption
    clear hK K
    refine wpAnyH_done (by kernel_rfl) (NoPanic.normal ?_) _
    clear hSSrw13
    go_wp2_with fail
    refine bodyPost_ret (v := .agg #[.bool tn, .slice p12 (tdig D12).length c12]) (by simp [results, Tryd.results29, go_sem, k6, k7]) rfl ⟨tn, p12, c12, tdig D12, rfl, ?_, ?_, ?_, ?_⟩
    · refine made_dn H3.out.2.2.2.2.2.2.2 P12.out.1 (fun g o he h0 hg => ?_) HTN.out ?_ _ _
      · rcases P12.out.2.2.2 with h | ⟨g', h, hg', -⟩
        · rw [h] at he; cases he
        · rw [h] at he; cases he
          have := HSZ.out
          omega
      · have hv := P12.out.2.2.1
        have h1 := HSZ0.out.2
        unfold nv
        rw [hv]
        cases s1 <;> simp at h1 ⊢ <;> omega
    · have := tdig_le D12
      have := P12.out.2.1
      omega
    · intro g o he
      rcases P12.out.2.2.2 with h | ⟨g', h, hg', -⟩
      · rw [h] at he; cases he
      · rw [h] at he; cases he
        have := HSZ.out
        omega
    · exact box_kept H3.out.2.1 (by omega) _ _
  case neg =>
    have q0 : (s1 == s2) = false := by simp [hs]
    have q1 : decide (s1 = s2) = false := by simp [hs]
    go_wp2_with fail
    rw [← hW]
    clear hW
    refine (rorder_at (H0.out.2.2.2.2.2.1).arg (H0.out.2.2.2.2.2.2).arg (H0.out.2.2.2.2.2.1).can.dig (H0.out.2.2.2.2.2.2).can.dig (H0.out.2.2.2.2.2.1).can.tidy (H0.out.2.2.2.2.2.2).can.tidy).mono ?_
    rintro e w50 ⟨rfl, B50⟩
    have ha2 := H0.out.2.2.2.2.2.1
    have hb2 := H0.out.2.2.2.2.2.2
    have hsh1 := fun h => val_shorter (B := 10) (by decide) ha2.can.dig hb2.can.dig hb2.can.tidy (l := l1) (m := l2) h
    have hsh2 := fun h => val_shorter (B := 10) (by decide) hb2.can.dig ha2.can.dig ha2.can.tidy (l := l2) (m := l1) h
    have HSZ : Hid (w.heap.size + 3 ≤ w50.drew.heap.size) := Lib.hid (by show _ ≤ w50.heap.size; have := HSZ0.out.1; have := B50.size; omega)
    have H1 := Lib.hid (And.intro (H0.out.1.below B50) (And.intro (H0.out.2.1.trans (B50.mono H0.out.2.1.size)) (And.intro (H0.out.2.2.1.below B50) (And.intro (H0.out.2.2.2.1.below B50) (And.intro (H0.out.2.2.2.2.1.below B50) (And.intro (H0.out.2.2.2.2.2.1.below B50) (H0.out.2.2.2.2.2.2.below B50)))))))
    clear B50 ha2 hb2 c01 c02 c03 c04
    obtain ⟨gg, hgg⟩ : ∃ gg, gg = sgn (Bg.val 10 l1) (Bg.val 10 l2) := ⟨_, rfl⟩
    rw [← hgg]
    have g1 := sgn_ge (Bg.val 10 l1) (Bg.val 10 l2)
    rw [← hgg] at g1
    clear hgg
    have yX1 := H1.out.2.2.1
    have yX10 := yX1.c0
    have yX11 := yX1.c1
    clear yX1
    have yX2 := H1.out.2.2.2.1
    have yX20 := yX2.c0
    have yX21 := yX2.c1
    clear yX2
    by_cases hle : Bg.val 10 l2 ≤ Bg.val 10 l1
    · rw [decide_eq_true hle] at g1
      have HLV := Lib.hid (And.intro (len_of hsh1 hle) hle)
      clear hsh1 hsh2 hle
      go_upto_region 4 with fail
      clear g1
      clear yX10 yX11
      clear yX20 yX21
      have HS := Lib.hid hs
      clear hs q0 q1
      have B11 : Below w50.heap.size w50 w50.drew := (Below.refl _ _).drew
      have H2 := Lib.hid (And.intro (H1.out.1.below B11) (And.intro (H1.out.2.1.trans (B11.mono H1.out.2.1.size)) (And.intro (H1.out.2.2.1.below B11) (And.intro (H1.out.2.2.2.1.below B11) (And.intro (H1.out.2.2.2.2.1.below B11) (And.intro (H1.out.2.2.2.2.2.1.below B11) (H1.out.2.2.2.2.2.2.below B11)))))))
      clear B11
      have hSS : w50.drew.cell? ⟨w.heap.size, 0, none⟩ = some (.bool s1) ∧ w50.drew.cell? ⟨w.heap.size, 1, none⟩ = some (.slice p1 l1.length c1) ∧ w50.drew.cell? ⟨w.heap.size + 1, 0, none⟩ = some (.bool s2) ∧ w50.drew.cell? ⟨w.heap.size + 1, 1, none⟩ = some (.slice p2 l2.length c2) := And.intro ((H2.out.2.2.1).c0) (And.intro ((H2.out.2.2.1).c1) (And.intro ((H2.out.2.2.2.1).c0) ((H2.out.2.2.2.1).c1)))
      refine wp_region_noPanic ?_
      refine wp_region_held_drew (S := fun w' => w'.cell? ⟨w.heap.size, 0, none⟩ = some (.bool s1) ∧ w'.cell? ⟨w.heap.size, 1, none⟩ = some (.slice p1 l1.length c1) ∧ w'.cell? ⟨w.heap.size + 1, 0, none⟩ = some (.bool s2) ∧ w'.cell? ⟨w.heap.size + 1, 1, none⟩ = some (.slice p2 l2.length c2)) (by kernel_rfl) hSS (fun hHeld => ?_)
      refine wpAnyH_take (i := 0) (oi := { dst := some 24, op := Op.fieldAddr 28 (Operand.tmp 2) 0, type := 0, pos := "ref.go:191", after := #[], guard := none }) (v := ?_) rfl (by kernel_rfl) (by kernel_rfl) (by kernel_rfl) (fun _ _ _ h => h) (Or.inl ⟨by rfl, ?_⟩) (by assumption) ?_
      rotate_left
      · (intro w0 hSw; (try dsimp only at hSw); go_simp; (try with_reducible rfl))
      try simp only [Act.put, List.setIfInBounds_toArray, List.set_cons_zero, List.set_cons_succ]
      refine wpAnyH_take (i := 1) (oi := { dst := some 25, op := Op.load 4 (Operand.tmp 24), type := 4, pos := "ref.go:191", after := #[{ on := 0, ground := Ground.data }], guard := none }) (v := ?_) rfl (by kernel_rfl) (by kernel_rfl) (by kernel_rfl) (fun _ _ _ h => h) (Or.inl ⟨by rfl, ?_⟩) (by assumption) ?_
      rotate_left
      · (intro w0 hSw; (try dsimp only at hSw); go_simp; (try with_reducible rfl))
      try simp only [Act.put, List.setIfInBounds_toArray, List.set_cons_zero, List.set_cons_succ]
      refine wpAnyH_take (i := 2) (oi := { dst := some 26, op := Op.fieldAddr 28 (Operand.tmp 2) 1, type := 0, pos := "ref.go:191", after := #[], guard := none }) (v := ?_) rfl (by kernel_rfl) (by kernel_rfl) (by kernel_rfl) (fun _ _ _ h => h) (Or.inl ⟨by rfl, ?_⟩) (by assumption) ?_
      rotate_left
      · (intro w0 hSw; (try dsimp only at hSw); go_simp; (try with_reducible rfl))
      try simp only [Act.put, List.setIfInBounds_toArray, List.set_cons_zero, List.set_cons_succ]
      refine wpAnyH_take (i := 3) (oi := { dst := some 27, op := Op.load 26 (Operand.tmp 26), type := 26, pos := "ref.go:191", after := #[{ on := 2, ground := Ground.data }], guard := none }) (v := ?_) rfl (by kernel_rfl) (by kernel_rfl) (by kernel_rfl) (fun _ _ _ h => h) (Or.inl ⟨by rfl, ?_⟩) (by assumption) ?_
      rotate_left
      · (intro w0 hSw; (try dsimp only at hSw); go_simp; (try with_reducible rfl))
      try simp only [Act.put, List.setIfInBounds_toArray, List.set_cons_zero, List.set_cons_succ]
      refine wpAnyH_take (i := 4) (oi := { dst := some 28, op := Op.fieldAddr 28 (Operand.tmp 3) 1, type := 0, pos := "ref.go:191", after := #[], guard := none }) (v := ?_) rfl (by kernel_rfl) (by kernel_rfl) (by kernel_rfl) (fun _ _ _ h => h) (Or.inl ⟨by rfl, ?_⟩) (by assumption) ?_
      rotate_left
      · (intro w0 hSw; (try dsimp only at hSw); go_simp; (try with_reducible rfl))
      try simp only [Act.put, List.setIfInBounds_toArray, List.set_cons_zero, List.set_cons_succ]
      refine wpAnyH_take (i := 5) (oi := { dst := some 29, op := Op.load 26 (Operand.tmp 28), type := 26, pos := "ref.go:191", after := #[{ on := 4, ground := Ground.data }], guard := none }) (v := ?_) rfl (by kernel_rfl) (by kernel_rfl) (by kernel_rfl) (fun _ _ _ h => h) (Or.inl ⟨by rfl, ?_⟩) (by assumption) ?_
      rotate_left
      · (intro w0 hSw; (try dsimp only at hSw); go_simp; (try with_reducible rfl))
      try simp only [Act.put, List.setIfInBounds_toArray, List.set_cons_zero, List.set_cons_succ]
      refine wpAnyH_ready (rs := [6]) (by kernel_rfl) (by simp) ?_
      refine AllReadyH.cons rfl (fun K hK => ?_) AllReadyH.nil
      go_simp
      go_wp2_with (have hx := H2; go_at_call 56; clear hx; refine (rless_at (H2.out.2.2.2.2.2.1).arg (H2.out.2.2.2.2.2.2).arg (H2.out.2.2.2.2.2.1).can.dig (H2.out.2.2.2.2.2.2).can.dig (by omega) HLV.out.1 HLV.out.2).mono ?_; rintro e w12 ⟨v12, D12, rfl, o12, d12, t12, l12, e12, B12⟩; obtain ⟨p12, c12, rfl, a12, h12⟩ := o12.arg; have P12 := Lib.hid (And.intro d12 (And.intro l12 (And.intro e12 h12))); have H3 := Lib.hid (And.intro (H2.out.1.below B12) (And.intro (H2.out.2.1.trans (B12.mono H2.out.2.1.size)) (And.intro (H2.out.2.2.1.below B12) (And.intro (H2.out.2.2.2.1.below B12) (And.intro (H2.out.2.2.2.2.1.below B12) (And.intro (H2.out.2.2.2.2.2.1.below B12) (And.intro (H2.out.2.2.2.2.2.2.below B12) a12))))))); clear o12 d12 l12 e12 h12 a12 B12 t12 H2; clear hSS; have hSSrw12 := And.intro ((H3.out.2.2.1).c0) (And.intro ((H3.out.2.2.1).c1) (And.intro ((H3.out.2.2.2.1).c0) ((H3.out.2.2.2.1).c1))))
      refine hK.out _ _ ?_ (fun hHeld => ?_)
      · assumption
      clear hK K
      refine wpAnyH_ready (rs := [7]) (by kernel_rfl) (by simp) ?_
      refine AllReadyH.cons rfl (fun K hK => ?_) AllReadyH.nil
      go_simp
      go_wp2_with (have hx := H3; go_at_call 49; clear hx; refine (made_at s1 H3.out.2.2.2.2.2.2.2).mono ?_; rintro e w13 ⟨rfl, B13⟩; obtain ⟨tn, htn⟩ : ∃ tn, tn = tneg s1 D12 := ⟨_, rfl⟩; rw [← htn]; have HTN := Lib.hid htn; clear htn; have H4 := Lib.hid (And.intro (H3.out.1.below B13) (And.intro (H3.out.2.1.trans (B13.mono H3.out.2.1.size)) (And.intro (H3.out.2.2.1.below B13) (And.intro (H3.out.2.2.2.1.below B13) (And.intro (H3.out.2.2.2.2.1.below B13) (And.intro (H3.out.2.2.2.2.2.1.below B13) (And.intro (H3.out.2.2.2.2.2.2.1.below B13) (H3.out.2.2.2.2.2.2.2.below B13)))))))); clear B13 H3; clear hSSrw12; have hSSrw13 := And.intro ((H4.out.2.2.1).c0) (And.intro ((H4.out.2.2.1).c1) (And.intro ((H4.out.2.2.2.1).c0) ((H4.out.2.2.2.1).c1))))
      refine hK.out _ _ ?_ (fun hHeld => ?_)
      · assumption
      clear hK K
      have z4 := H4.out.2.2.2.2.1
      have k7 := z4.first (.bool tn)
      have k6 := (z4.store (.bool tn) (.slice p12 (tdig D12).length c12)).2
      have hf0 := z4.f0
      have hf1 := z4.f1
      have hc0 := z4.c0
      have hc1 := z4.c1
      have za := (H4.out.2.2.1).far (b' := w.heap.size + 1 + 1) (by omega) (.bool tn) (.slice p12 (tdig D12).length c12)
      have zb := (H4.out.2.2.2.1).far (b' := w.heap.size + 1 + 1) (by omega) (.bool tn) (.slice p12 (tdig D12).length c12)
      have hSSf := And.intro za.c0 (And.intro za.c1 (And.intro zb.c0 zb.c1))
      clear za zb z4
      refine wpAnyH_ready (rs := [8]) (by kernel_rfl) (by simp) ?_
      refine AllReadyH.cons rfl (fun K hK => ?_) AllReadyH.nil
      go_simp
      refine hK.out _ _ ?_ (fun hHeld => ?_)
      · assumption
      clear hK K
      refine wpAnyH_done (by kernel_rfl) (NoPanic.normal ?_) _
      clear hSSrw13
      go_wp2_with fail
      refine bodyPost_ret (v := .agg #[.bool tn, .slice p12 (tdig D12).length c12]) (by simp [results, Tryd.results29, go_sem, k6, k7]) rfl ⟨tn, p12, c12, tdig D12, rfl, ?_, ?_, ?_, ?_⟩
      · refine made_dn H4.out.2.2.2.2.2.2.2 P12.out.1 (fun g o he h0 hg => ?_) HTN.out ?_ _ _
        · rcases P12.out.2.2.2 with h | ⟨g', h, hg', -⟩
          · rw [h] at he; cases he
          · rw [h] at he; cases he
            have := HSZ.out
            omega
        · have hv := P12.out.2.2.1
          have h1 := HSZ0.out.2
          have h2 := HS.out
          unfold nv
          rw [hv]
          cases s1 <;> cases s2 <;> simp at h1 h2 ⊢ <;> omega
      · have := tdig_le D12
        have := P12.out.2.1
        omega
      · intro g o he
        rcases P12.out.2.2.2 with h | ⟨g', h, hg', -⟩
        · rw [h] at he; cases he
        · rw [h] at he; cases he
          have := HSZ.out
          omega
      · exact box_kept H4.out.2.1 (by omega) _ _
    · rw [decide_eq_false hle] at g1
      have HLV := Lib.hid (And.intro (len_of hsh2 (Int.le_of_lt (Int.not_le.1 hle))) (Int.le_of_lt (Int.not_le.1 hle)))
      clear hsh1 hsh2 hle
      go_upto_region 5 with fail
      clear g1
      clear yX10 yX11
      clear yX20 yX21
      have HS := Lib.hid hs
      clear hs q0 q1
      have B11 : Below w50.heap.size w50 w50.drew := (Below.refl _ _).drew
      have H2 := Lib.hid (And.intro (H1.out.1.below B11) (And.intro (H1.out.2.1.trans (B11.mono H1.out.2.1.size)) (And.intro (H1.out.2.2.1.below B11) (And.intro (H1.out.2.2.2.1.below B11) (And.intro (H1.out.2.2.2.2.1.below B11) (And.intro (H1.out.2.2.2.2.2.1.below B11) (H1.out.2.2.2.2.2.2.below B11)))))))
      clear B11
      have hSS : w50.drew.cell? ⟨w.heap.size, 0, none⟩ = some (.bool s1) ∧ w50.drew.cell? ⟨w.heap.size, 1, none⟩ = some (.slice p1 l1.length c1) ∧ w50.drew.cell? ⟨w.heap.size + 1, 0, none⟩ = some (.bool s2) ∧ w50.drew.cell? ⟨w.heap.size + 1, 1, none⟩ = some (.slice p2 l2.length c2) := And.intro ((H2.out.2.2.1).c0) (And.intro ((H2.out.2.2.1).c1) (And.intro ((H2.out.2.2.2.1).c0) ((H2.out.2.2.2.1).c1)))
      refine wp_region_noPanic ?_
      refine wp_region_held_drew (S := fun w' => w'.cell? ⟨w.heap.size, 0, none⟩ = some (.bool s1) ∧ w'.cell? ⟨w.heap.size, 1, none⟩ = some (.slice p1 l1.length c1) ∧ w'.cell? ⟨w.heap.size + 1, 0, none⟩ = some (.bool s2) ∧ w'.cell? ⟨w.heap.size + 1, 1, none⟩ = some (.slice p2 l2.length c2)) (by kernel_rfl) hSS (fun hHeld => ?_)
      refine wpAnyH_take (i := 0) (oi := { dst := some 32, op := Op.fieldAddr 28 (Operand.tmp 3) 0, type := 0, pos := "ref.go:193", after := #[], guard := none }) (v := ?_) rfl (by kernel_rfl) (by kernel_rfl) (by kernel_rfl) (fun _ _ _ h => h) (Or.inl ⟨by rfl, ?_⟩) (by assumption) ?_
      rotate_left
      · (intro w0 hSw; (try dsimp only at hSw); go_simp; (try with_reducible rfl))
      try simp only [Act.put, List.setIfInBounds_toArray, List.set_cons_zero, List.set_cons_succ]
      refine wpAnyH_take (i := 1) (oi := { dst := some 33, op := Op.load 4 (Operand.tmp 32), type := 4, pos := "ref.go:193", after := #[{ on := 0, ground := Ground.data }], guard := none }) (v := ?_) rfl (by kernel_rfl) (by kernel_rfl) (by kernel_rfl) (fun _ _ _ h => h) (Or.inl ⟨by rfl, ?_⟩) (by assumption) ?_
      rotate_left
      · (intro w0 hSw; (try dsimp only at hSw); go_simp; (try with_reducible rfl))
      try simp only [Act.put, List.setIfInBounds_toArray, List.set_cons_zero, List.set_cons_succ]
      refine wpAnyH_take (i := 2) (oi := { dst := some 34, op := Op.fieldAddr 28 (Operand.tmp 3) 1, type := 0, pos := "ref.go:193", after := #[], guard := none }) (v := ?_) rfl (by kernel_rfl) (by kernel_rfl) (by kernel_rfl) (fun _ _ _ h => h) (Or.inl ⟨by rfl, ?_⟩) (by assumption) ?_
      rotate_left
      · (intro w0 hSw; (try dsimp only at hSw); go_simp; (try with_reducible rfl))
      try simp only [Act.put, List.setIfInBounds_toArray, List.set_cons_zero, List.set_cons_succ]
      refine wpAnyH_take (i := 3) (oi := { dst := some 35, op := Op.load 26 (Operand.tmp 34), type := 26, pos := "ref.go:193", after := #[{ on := 2, ground := Ground.data }], guard := none }) (v := ?_) rfl (by kernel_rfl) (by kernel_rfl) (by kernel_rfl) (fun _ _ _ h => h) (Or.inl ⟨by rfl, ?_⟩) (by assumption) ?_
      rotate_left
      · (intro w0 hSw; (try dsimp only at hSw); go_simp; (try with_reducible rfl))
      try simp only [Act.put, List.setIfInBounds_toArray, List.set_cons_zero, List.set_cons_succ]
      refine wpAnyH_take (i := 4) (oi := { dst := some 36, op := Op.fieldAddr 28 (Operand.tmp 2) 1, type := 0, pos := "ref.go:193", after := #[], guard := none }) (v := ?_) rfl (by kernel_rfl) (by kernel_rfl) (by kernel_rfl) (fun _ _ _ h => h) (Or.inl ⟨by rfl, ?_⟩) (by assumption) ?_
      rotate_left
      · (intro w0 hSw; (try dsimp only at hSw); go_simp; (try with_reducible rfl))
      try simp only [Act.put, List.setIfInBounds_toArray, List.set_cons_zero, List.set_cons_succ]
      refine wpAnyH_take (i := 5) (oi := { dst := some 37, op := Op.load 26 (Operand.tmp 36), type := 26, pos := "ref.go:193", after := #[{ on := 4, ground := Ground.data }], guard := none }) (v := ?_) rfl (by kernel_rfl) (by kernel_rfl) (by kernel_rfl) (fun _ _ _ h => h) (Or.inl ⟨by rfl, ?_⟩) (by assumption) ?_
      rotate_left
      · (intro w0 hSw; (try dsimp only at hSw); go_simp; (try with_reducible rfl))
      try simp only [Act.put, List.setIfInBounds_toArray, List.set_cons_zero, List.set_cons_succ]
      refine wpAnyH_ready (rs := [6]) (by kernel_rfl) (by simp) ?_
      refine AllReadyH.cons rfl (fun K hK => ?_) AllReadyH.nil
      go_simp
      go_wp2_with (have hx := H2; go_at_call 56; clear hx; refine (rless_at (H2.out.2.2.2.2.2.2).arg (H2.out.2.2.2.2.2.1).arg (H2.out.2.2.2.2.2.2).can.dig (H2.out.2.2.2.2.2.1).can.dig (by omega) HLV.out.1 HLV.out.2).mono ?_; rintro e w12 ⟨v12, D12, rfl, o12, d12, t12, l12, e12, B12⟩; obtain ⟨p12, c12, rfl, a12, h12⟩ := o12.arg; have P12 := Lib.hid (And.intro d12 (And.intro l12 (And.intro e12 h12))); have H3 := Lib.hid (And.intro (H2.out.1.below B12) (And.intro (H2.out.2.1.trans (B12.mono H2.out.2.1.size)) (And.intro (H2.out.2.2.1.below B12) (And.intro (H2.out.2.2.2.1.below B12) (And.intro (H2.out.2.2.2.2.1.below B12) (And.intro (H2.out.2.2.2.2.2.1.below B12) (And.intro (H2.out.2.2.2.2.2.2.below B12) a12))))))); clear o12 d12 l12 e12 h12 a12 B12 t12 H2; clear hSS; have hSSrw12 := And.intro ((H3.out.2.2.1).c0) (And.intro ((H3.out.2.2.1).c1) (And.intro ((H3.out.2.2.2.1).c0) ((H3.out.2.2.2.1).c1))))
      refine hK.out _ _ ?_ (fun hHeld => ?_)
      · assumption
      clear hK K
      refine wpAnyH_ready (rs := [7]) (by kernel_rfl) (by simp) ?_
      refine AllReadyH.cons rfl (fun K hK => ?_) AllReadyH.nil
      go_simp
      go_wp2_with (have hx := H3; go_at_call 49; clear hx; refine (made_at s2 H3.out.2.2.2.2.2.2.2).mono ?_; rintro e w13 ⟨rfl, B13⟩; obtain ⟨tn, htn⟩ : ∃ tn, tn = tneg s2 D12 := ⟨_, rfl⟩; rw [← htn]; have HTN := Lib.hid htn; clear htn; have H4 := Lib.hid (And.intro (H3.out.1.below B13) (And.intro (H3.out.2.1.trans (B13.mono H3.out.2.1.size)) (And.intro (H3.out.2.2.1.below B13) (And.intro (H3.out.2.2.2.1.below B13) (And.intro (H3.out.2.2.2.2.1.below B13) (And.intro (H3.out.2.2.2.2.2.1.below B13) (And.intro (H3.out.2.2.2.2.2.2.1.below B13) (H3.out.2.2.2.2.2.2.2.below B13)))))))); clear B13 H3; clear hSSrw12; have hSSrw13 := And.intro ((H4.out.2.2.1).c0) (And.intro ((H4.out.2.2.1).c1) (And.intro ((H4.out.2.2.2.1).c0) ((H4.out.2.2.2.1).c1))))
      refine hK.out _ _ ?_ (fun hHeld => ?_)
      · assumption
      clear hK K
      have z4 := H4.out.2.2.2.2.1
      have k7 := z4.first (.bool tn)
      have k6 := (z4.store (.bool tn) (.slice p12 (tdig D12).length c12)).2
      have hf0 := z4.f0
      have hf1 := z4.f1
      have hc0 := z4.c0
      have hc1 := z4.c1
      have za := (H4.out.2.2.1).far (b' := w.heap.size + 1 + 1) (by omega) (.bool tn) (.slice p12 (tdig D12).length c12)
      have zb := (H4.out.2.2.2.1).far (b' := w.heap.size + 1 + 1) (by omega) (.bool tn) (.slice p12 (tdig D12).length c12)
      have hSSf := And.intro za.c0 (And.intro za.c1 (And.intro zb.c0 zb.c1))
      clear za zb z4
      refine wpAnyH_ready (rs := [8]) (by kernel_rfl) (by simp) ?_
      refine AllReadyH.cons rfl (fun K hK => ?_) AllReadyH.nil
      go_simp
      refine hK.out _ _ ?_ (fun hHeld => ?_)
      · assumption
      clear hK K
      refine wpAnyH_done (by kernel_rfl) (NoPanic.normal ?_) _
      clear hSSrw13
      go_wp2_with fail
      refine bodyPost_ret (v := .agg #[.bool tn, .slice p12 (tdig D12).length c12]) (by simp [results, Tryd.results29, go_sem, k6, k7]) rfl ⟨tn, p12, c12, tdig D12, rfl, ?_, ?_, ?_, ?_⟩
      · refine made_dn H4.out.2.2.2.2.2.2.2 P12.out.1 (fun g o he h0 hg => ?_) HTN.out ?_ _ _
        · rcases P12.out.2.2.2 with h | ⟨g', h, hg', -⟩
          · rw [h] at he; cases he
          · rw [h] at he; cases he
            have := HSZ.out
            omega
        · have hv := P12.out.2.2.1
          have h1 := HSZ0.out.2
          have h2 := HS.out
          unfold nv
          rw [hv]
          cases s1 <;> cases s2 <;> simp at h1 h2 ⊢ <;> omega
      · have := tdig_le D12
        have := P12.out.2.1
        omega
      · intro g o he
        rcases P12.out.2.2.2 with h | ⟨g', h, hg', -⟩
        · rw [h] at he; cases he
        · rw [h] at he; cases he
          have := HSZ.out
          omega
      · exact box_kept H4.out.2.1 (by omega) _ _
theorem Dn.put {w : World} {s : Bool} {p : Option Addr} {c : Nat} {D : List Int} {x : Int} (h : Dn w s p c D x) {b : Nat} (hp : ∀ g o, p = some ⟨g, o, none⟩ → g ≠ b) (u v : Value) : Dn ((w.setCell ⟨b, 0, none⟩ u).setCell ⟨b, 1, none⟩ v) s p c D x := ⟨h.arg.put hp u v, h.can, h.val⟩
set_option maxRecDepth 100000 in
set_option maxHeartbeats 20000000 in
theorem rsub_at {w : World} {p1 p2 : Option Addr} {c1 c2 : Nat} {l1 l2 : List Int} {s1 s2 : Bool} {x y : Int} (a : Dn w s1 p1 c1 l1 x) (b : Dn w s2 p2 c2 l2 y) (n1 : l1.length ≤ 1000000) (n2 : l2.length ≤ 1000000) :
    Calls Tryd.prog 30 #[.agg #[.bool s1, .slice p1 l1.length c1], .agg #[.bool s2, .slice p2 l2.length c2]] w fun e w' => ∃ t q d D, e = .returned (.agg #[.bool t, .slice q D.length d]) ∧ Dn w' t q d D (x - y) ∧ D.length ≤ max l1.length l2.length + 1 ∧ Below w.heap.size w w' := by
  obtain ⟨W, hW, hB, x0, x1, x2, hS⟩ := boxes28_3 w (.bool s1) (.slice p1 l1.length c1) (.bool s2) (.slice p2 l2.length c2) (.bool false) (.slice none 0 0)
  have H0 := Lib.hid (And.intro x0 (And.intro hB (And.intro x0 (And.intro x1 (And.intro x2 (And.intro (a.below hB) (b.below hB)))))))
  have HSZ : Hid (w.heap.size + 3 ≤ W.drew.heap.size) := Lib.hid (by show _ ≤ W.heap.size; omega)
  clear a b hB x0 x1 x2 hS
  go_enter Tryd.func30, Tryd.ntmps30
  go_wp2_with fail
  rw [← hW]
  clear hW
  have B11 : Below W.heap.size W W.drew := (Below.refl _ _).drew
  have H1 := Lib.hid (And.intro (H0.out.1.below B11) (And.intro (H0.out.2.1.trans (B11.mono H0.out.2.1.size)) (And.intro (H0.out.2.2.1.below B11) (And.intro (H0.out.2.2.2.1.below B11) (And.intro (H0.out.2.2.2.2.1.below B11) (And.intro (H0.out.2.2.2.2.2.1.below B11) (H0.out.2.2.2.2.2.2.below B11)))))))
  clear B11
  have hSS : W.drew.cell? ⟨w.heap.size, 0, none⟩ = some (.bool s1) ∧ W.drew.cell? ⟨w.heap.size, 1, none⟩ = some (.slice p1 l1.length c1) ∧ W.drew.cell? ⟨w.heap.size + 1, 0, none⟩ = some (.bool s2) ∧ W.drew.cell? ⟨w.heap.size + 1, 1, none⟩ = some (.slice p2 l2.length c2) := And.intro ((H1.out.2.2.1).c0) (And.intro ((H1.out.2.2.1).c1) (And.intro ((H1.out.2.2.2.1).c0) ((H1.out.2.2.2.1).c1)))
  refine wp_region_noPanic ?_
  refine wp_region_held_drew (S := fun w' => w'.cell? ⟨w.heap.size, 0, none⟩ = some (.bool s1) ∧ w'.cell? ⟨w.heap.size, 1, none⟩ = some (.slice p1 l1.length c1) ∧ w'.cell? ⟨w.heap.size + 1, 0, none⟩ = some (.bool s2) ∧ w'.cell? ⟨w.heap.size + 1, 1, none⟩ = some (.slice p2 l2.length c2)) (by kernel_rfl) hSS (fun hHeld => ?_)
  refine wpAnyH_take (i := 0) (oi := { dst := some 5, op := Op.load 28 (Operand.tmp 2), type := 28, pos := "ref.go:196", after := #[], guard := none }) (v := ?_) rfl (by kernel_rfl) (by kernel_rfl) (by kernel_rfl) (fun _ _ _ h => h) (Or.inl ⟨by rfl, ?_⟩) (by assumption) ?_
  rotate_left
  · (intro w0 hSw; (try dsimp only at hSw); go_simp; (try with_reducible rfl))
  try simp only [Act.put, List.setIfInBounds_toArray, List.set_cons_zero, List.set_cons_succ]
  refine wpAnyH_take (i := 1) (oi := { dst := some 6, op := Op.load 28 (Operand.tmp 3), type := 28, pos := "ref.go:196", after := #[], guard := none }) (v := ?_) rfl (by kernel_rfl) (by kernel_rfl) (by kernel_rfl) (fun _ _ _ h => h) (Or.inl ⟨by rfl, ?_⟩) (by assumption) ?_
  rotate_left
  · (intro w0 hSw; (try dsimp only at hSw); go_simp; (try with_reducible rfl))
  try simp only [Act.put, List.setIfInBounds_toArray, List.set_cons_zero, List.set_cons_succ]
  refine wpAnyH_ready (rs := [2]) (by kernel_rfl) (by simp) ?_
  refine AllReadyH.cons rfl (fun K hK => ?_) AllReadyH.nil
  go_simp
  go_wp2_with (have hx := H1; go_at_call 57; clear hx; refine (rneg_at H1.out.2.2.2.2.2.2).mono ?_; rintro e w12 ⟨s12, p12, c12, D12, rfl, n12, z12, B12⟩; have HB1 := Lib.hid B12.size; have H2 := Lib.hid (And.intro (H1.out.1.below B12) (And.intro (H1.out.2.1.trans (B12.mono H1.out.2.1.size)) (And.intro (H1.out.2.2.1.below B12) (And.intro (H1.out.2.2.2.1.below B12) (And.intro (H1.out.2.2.2.2.1.below B12) (And.intro (H1.out.2.2.2.2.2.1.below B12) (And.intro (H1.out.2.2.2.2.2.2.below B12) n12))))))); clear n12 B12 H1; clear hSS; have hSSrw12 := And.intro ((H2.out.2.2.1).c0) (And.intro ((H2.out.2.2.1).c1) (And.intro ((H2.out.2.2.2.1).c0) ((H2.out.2.2.2.1).c1))))
  refine hK.out _ _ ?_ (fun hHeld => ?_)
  · assumption
  clear hK K
  refine wpAnyH_ready (rs := [3]) (by kernel_rfl) (by simp) ?_
  refine AllReadyH.cons rfl (fun K hK => ?_) AllReadyH.nil
  go_simp
  go_wp2_with (have hx := H2; go_at_call 29; clear hx; refine (radd_at H2.out.2.2.2.2.2.1 H2.out.2.2.2.2.2.2.2 (by omega) (by omega)).mono ?_; rintro e w13 ⟨s13, p13, c13, D13, rfl, n13, z13, f13, B13⟩; have HF := Lib.hid (And.intro f13 z13); have H3 := Lib.hid (And.intro (H2.out.1.below B13) (And.intro (H2.out.2.1.trans (B13.mono H2.out.2.1.size)) (And.intro (H2.out.2.2.1.below B13) (And.intro (H2.out.2.2.2.1.below B13) (And.intro (H2.out.2.2.2.2.1.below B13) (And.intro (H2.out.2.2.2.2.2.1.below B13) (And.intro (H2.out.2.2.2.2.2.2.1.below B13) (And.intro (H2.out.2.2.2.2.2.2.2.below B13) n13)))))))); clear n13 B13 f13 z13 H2; clear hSSrw12; have hSSrw13 := And.intro ((H3.out.2.2.1).c0) (And.intro ((H3.out.2.2.1).c1) (And.intro ((H3.out.2.2.2.1).c0) ((H3.out.2.2.2.1).c1))))
  refine hK.out _ _ ?_ (fun hHeld => ?_)
  · assumption
  clear hK K
  have z4 := H3.out.2.2.2.2.1
  have k7 := z4.first (.bool s13)
  have k6 := (z4.store (.bool s13) (.slice p13 D13.length c13)).2
  have hf0 := z4.f0
  have hf1 := z4.f1
  have hc0 := z4.c0
  have hc1 := z4.c1
  have za := (H3.out.2.2.1).far (b' := w.heap.size + 1 + 1) (by omega) (.bool s13) (.slice p13 D13.length c13)
  have zb := (H3.out.2.2.2.1).far (b' := w.heap.size + 1 + 1) (by omega) (.bool s13) (.slice p13 D13.length c13)
  have hSSf := And.intro za.c0 (And.intro za.c1 (And.intro zb.c0 zb.c1))
  clear za zb z4
  refine wpAnyH_ready (rs := [4]) (by kernel_rfl) (by simp) ?_
  refine AllReadyH.cons rfl (fun K hK => ?_) AllReadyH.nil
  go_simp
  refine hK.out _ _ ?_ (fun hHeld => ?_)
  · assumption
  clear hK K
  refine wpAnyH_done (by kernel_rfl) (NoPanic.normal ?_) _
  clear hSSrw13
  go_wp2_with fail
  refine bodyPost_ret (v := .agg #[.bool s13, .slice p13 D13.length c13]) (by simp [results, Tryd.results30, go_sem, k6, k7]) rfl ⟨s13, p13, c13, D13, rfl, ?_, ?_, ?_⟩
  · have h := (H3.out.2.2.2.2.2.2.2.2).put (b := w.heap.size + 1 + 1) (fun g o he hg => by have h1 := HF.out.1 g o he; have h2 := HSZ.out; have h3 := HB1.out; omega) (.bool s13) (.slice p13 D13.length c13)
    rw [Int.sub_eq_add_neg]
    exact h
  · have := HF.out.2
    omega
  · exact box_kept H3.out.2.1 (by omega) _ _
end Go.Proofs.YtihgefllmkicaaaDoor
