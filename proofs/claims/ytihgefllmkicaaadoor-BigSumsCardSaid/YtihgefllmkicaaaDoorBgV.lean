/- Contracts: a number tidy; as a small one; as a fixnum. Conditions: the digits lie as told. -/
import Derived.Test.YtihgefllmkicaaaDoorBgP
import Derived.Deep.RegionHeld3
import Derived.Deep.DeepCutAuto
import Derived.Deep.CutBlock
import Derived.Lib.AppendZeros
import Derived.Deep.RegionHeldLaw
namespace Go.Proofs.YtihgefllmkicaaaDoor
open Go.RowKit Bg
set_option linter.unusedVariables false
set_option linter.unusedSimpArgs false


/-- As one of 64 bits. -/
def small64 (x : Int) : Bool := decide (-9223372036854775808 ≤ x ∧ x ≤ 9223372036854775807)
theorem ret2 {a b : Int} {x y : Bool} (hx : x = y) (h : a = b) : Ending.returned (.tuple #[.int .i64 a, .bool x]) = Ending.returned (.tuple #[.int .i64 b, .bool y]) := by rw [hx, h]
def clip64 (x : Int) : Int := if small64 x = true then x else 0
set_option maxRecDepth 100000 in
set_option maxHeartbeats 4000000 in
theorem small_at {w : World} {p : Option Addr} {c : Nat} {l : List Int} (s : Bool) (a1 : Arg .u16 w p c l) (d1 : Dig 65536 l) (n1 : l.length ≤ 100000) :
    Calls Tryd.prog 17 #[.agg #[.bool s, .slice p l.length c]] w fun e w' => e = .returned (.tuple #[.int .i64 (clip64 (nv 65536 s l)), .bool (small64 (nv 65536 s l))]) ∧ Below w.heap.size w w' := by
  obtain ⟨W, hW⟩ : ∃ W, W = w.alloc (.cells #[.bool s, .slice p l.length c] 24) := ⟨_, rfl⟩
  have hB : Below w.heap.size w W := by rw [hW]; exact (Below.refl _ _).alloc (Nat.le_refl _) _
  have T1 := Lib.hid (tidied_at s (a1.below hB))
  have HA := Lib.hid (a1.below hB)
  have hc := tidy_can s d1
  have hl := tdig_len l
  have hl2 := trimN_le l l.length
  have HC := Lib.hid (And.intro hc hB)
  rw [← hc.2]
  clear a1 hc hB
  obtain ⟨ts, hts⟩ : ∃ ts, ts = tneg s l := ⟨_, rfl⟩
  have HL : (tdig l).length ≤ 100000 := by omega
  rw [← hts]
  have HC2 : Hid (Bg.Can 65536 ts (tdig l) ∧ Below w.heap.size w W) := by rw [hts]; exact ⟨HC.out.1.1, HC.out.2⟩
  rw [← hts] at T1
  clear HC hl hl2 hts
  go_enter Tryd.func17, Tryd.ntmps17
  go_wp2_with fail
  rw [← hW]
  refine T1.out.mono ?_
  rintro e w1 ⟨rfl, B1⟩
  have aD : Arg .u16 w1 p c (tdig l) := (HA.out.below B1).take _
  have HX := Lib.hid (And.intro aD B1)
  clear aD B1 hW
  by_cases h4 : 4 < (tdig l).length
  · have dd : decide (((tdig l).length : Int) > 4) = true := by rw [decide_eq_true_eq]; omega
    have hbig : small64 (nv 65536 ts (tdig l)) = false := by
      have hne : tdig l ≠ [] := fun e => by rw [e] at h4; simp at h4
      have h1 := val_ge (by decide) HC2.out.1.dig HC2.out.1.tidy hne
      have h2 := pow_le (show (1 : Int) ≤ 65536 by decide) (show 4 ≤ (tdig l).length - 1 by omega)
      have h3 : (65536 : Int) ^ 4 = 18446744073709551616 := by decide
      unfold small64 nv
      rw [decide_eq_false_iff_not]
      split <;> omega
    have HBG := Lib.hid hbig
    clear hbig
    go_wp2_with fail
    go_ret2
    have h2 : clip64 (nv 65536 ts (tdig l)) = 0 := by unfold clip64; rw [HBG.out]; rfl
    rw [HBG.out, h2]
    exact ⟨rfl, HC2.out.2.trans ((HX.out.2.alloc HX.out.2.size _).mono HC2.out.2.size)⟩
  · have dd : decide (((tdig l).length : Int) > 4) = false := by rw [decide_eq_false_iff_not]; omega
    have hlv : ld (tdig l) ((tdig l).length - 1) (tdig l).length = val 65536 (tdig l) := by
      by_cases h0 : (tdig l).length = 0
      · rw [List.length_eq_zero_iff.1 h0]; rfl
      · rw [show ((tdig l).length : Int) - 1 = (((tdig l).length - 1 : Nat) : Int) by omega, ld_val (by omega) _ (by omega), show (tdig l).length - 1 + 1 = (tdig l).length by omega, Nat.sub_self, List.drop_zero, List.take_length]
    have hv0 := val_nonneg (show (0 : Int) ≤ 65536 by decide) HC2.out.1.dig
    have hv1 := val_lt (show (0 : Int) < 65536 by decide) HC2.out.1.dig
    have hv2 := pow_le (show (1 : Int) ≤ 65536 by decide) (show (tdig l).length ≤ 4 by omega)
    have hv3 : (65536 : Int) ^ 4 = 18446744073709551616 := by decide
    have hv4 : val 65536 (tdig l) < 18446744073709551616 := by omega
    clear hv1 hv2 hv3
    have L1 : ∀ w', Below w1.heap.size w1 w' → Calls Tryd.prog 45 #[.slice p (tdig l).length c, .int .i64 ((tdig l).length - 1), .int .i64 (tdig l).length] w' _ := fun w' hb => leading_at (HX.out.1.below hb) HC2.out.1.dig (by omega) (by omega)
    rw [hlv] at L1
    have HL1 := Lib.hid L1
    obtain ⟨v, hv⟩ : ∃ v, v = val 65536 (tdig l) := ⟨_, rfl⟩
    rw [← hv] at hv0 hv4 HL1
    have hn : nv 65536 ts (tdig l) = if ts = true then -v else v := by rw [hv]; rfl
    have HN := Lib.hid hn
    have hB2 := HC2.out.2.trans ((HX.out.2.alloc HX.out.2.size (.cells #[.bool ts, .slice p (tdig l).length c] 24)).mono HC2.out.2.size)
    have HB2 := Lib.hid hB2
    clear L1 hlv hv hn hB2
    cases ts
    · have e0 : decide (v ≤ 9223372036854775807) = decide (v ≤ 9223372036854775807) := rfl
      by_cases hs : v ≤ 9223372036854775807
      · have d5 : decide (v ≤ 9223372036854775807) = true := decide_eq_true hs
        go_wp2_with (go_at_call 45; refine (HL1.out _ ((Below.refl _ _).alloc (Nat.le_refl _) _)).mono ?_; rintro e w' ⟨rfl, rfl⟩)
        go_ret2
        refine ⟨?_, HB2.out⟩
        have hN : nv 65536 false (tdig l) = v := by rw [HN.out]; rfl
        rw [hN]
        have h1 : small64 v = true := by unfold small64; rw [decide_eq_true_eq]; omega
        have h2 : clip64 v = v := by unfold clip64; rw [h1]; rfl
        rw [h1, h2]
        exact ret2 rfl (by first | rfl | (unfold wrap64; omega))
      · have d5 : decide (v ≤ 9223372036854775807) = false := decide_eq_false hs
        go_wp2_with (go_at_call 45; refine (HL1.out _ ((Below.refl _ _).alloc (Nat.le_refl _) _)).mono ?_; rintro e w' ⟨rfl, rfl⟩)
        go_ret2
        refine ⟨?_, HB2.out⟩
        have hN : nv 65536 false (tdig l) = v := by rw [HN.out]; rfl
        rw [hN]
        have h1 : small64 v = false := by unfold small64; rw [decide_eq_false_iff_not]; omega
        have h2 : clip64 v = 0 := by unfold clip64; rw [h1]; rfl
        rw [h1, h2]
        rfl
    · by_cases hs : v ≤ 9223372036854775808
      · have d5 : decide (v ≤ 9223372036854775808) = true := decide_eq_true hs
        go_wp2_with (go_at_call 45; refine (HL1.out _ ((Below.refl _ _).alloc (Nat.le_refl _) _)).mono ?_; rintro e w' ⟨rfl, rfl⟩)
        go_ret2
        refine ⟨?_, HB2.out⟩
        have hN : nv 65536 true (tdig l) = -v := by rw [HN.out]; rfl
        rw [hN]
        have h1 : small64 (-v) = true := by unfold small64; rw [decide_eq_true_eq]; omega
        have h2 : clip64 (-v) = -v := by unfold clip64; rw [h1]; rfl
        rw [h1, h2]
        exact ret2 rfl (by first | rfl | (rw [wrapU]; unfold wrap64 M64; omega))
      · have d5 : decide (v ≤ 9223372036854775808) = false := decide_eq_false hs
        go_wp2_with (go_at_call 45; refine (HL1.out _ ((Below.refl _ _).alloc (Nat.le_refl _) _)).mono ?_; rintro e w' ⟨rfl, rfl⟩)
        go_ret2
        refine ⟨?_, HB2.out⟩
        have hN : nv 65536 true (tdig l) = -v := by rw [HN.out]; rfl
        rw [hN]
        have h1 : small64 (-v) = false := by unfold small64; rw [decide_eq_false_iff_not]; omega
        have h2 : clip64 (-v) = 0 := by unfold clip64; rw [h1]; rfl
        rw [h1, h2]
        rfl
def isFix (x : Int) : Bool := decide (-536870912 ≤ x ∧ x ≤ 536870911)
def clipFix (x : Int) : Int := if isFix x = true then x else 0
set_option maxRecDepth 100000 in
set_option maxHeartbeats 4000000 in
theorem fix_at {w : World} {p : Option Addr} {c : Nat} {l : List Int} (s : Bool) (a1 : Arg .u16 w p c l) (d1 : Dig 65536 l) (n1 : l.length ≤ 100000) :
    Calls Tryd.prog 19 #[.agg #[.bool s, .slice p l.length c]] w fun e w' => e = .returned (.tuple #[.int .i64 (clipFix (nv 65536 s l)), .bool (isFix (nv 65536 s l))]) ∧ Below w.heap.size w w' := by
  obtain ⟨W, hW⟩ : ∃ W, W = w.alloc (.cells #[.bool s, .slice p l.length c] 24) := ⟨_, rfl⟩
  have hB : Below w.heap.size w W := by rw [hW]; exact (Below.refl _ _).alloc (Nat.le_refl _) _
  have T1 := Lib.hid (small_at s (a1.below hB) d1 n1)
  obtain ⟨x, hx⟩ : ∃ x, x = nv 65536 s l := ⟨_, rfl⟩
  rw [← hx] at T1 ⊢
  have HB := Lib.hid hB
  clear hx hB a1 d1
  go_enter Tryd.func19, Tryd.ntmps19
  go_wp2_with fail
  rw [← hW]
  clear hW
  refine T1.out.mono ?_
  rintro e w1 ⟨rfl, B1⟩
  have HB1 := Lib.hid (HB.out.trans (B1.mono HB.out.size))
  clear B1
  by_cases hf : -536870912 ≤ x ∧ x ≤ 536870911
  · have h1 : small64 x = true := by unfold small64; rw [decide_eq_true_eq]; omega
    have h2 : clip64 x = x := by unfold clip64; rw [h1]; rfl
    have h3 : isFix x = true := by unfold isFix; rw [decide_eq_true_eq]; exact hf
    have h4 : clipFix x = x := by unfold clipFix; rw [h3]; rfl
    rw [h1, h2]
    have g1 : decide (x < -536870912) = false := by rw [decide_eq_false_iff_not]; omega
    have g2 : decide (x > 536870911) = false := by rw [decide_eq_false_iff_not]; omega
    have HH := Lib.hid (And.intro h3 h4)
    clear h1 h2 h3 h4
    go_wp2_with fail
    go_ret2
    rw [HH.out.1, HH.out.2]
    exact ⟨ret2 rfl (by first | rfl | (unfold wrap64; omega)), HB1.out⟩
  · have h3 : isFix x = false := by unfold isFix; rw [decide_eq_false_iff_not]; exact hf
    have h4 : clipFix x = 0 := by unfold clipFix; rw [h3]; rfl
    have HH := Lib.hid (And.intro h3 h4)
    by_cases hs : small64 x = true
    · have h2 : clip64 x = x := by unfold clip64; rw [hs]; rfl
      rw [hs, h2]
      by_cases hlo : x < -536870912
      · have g1 : decide (x < -536870912) = true := decide_eq_true hlo
        clear h3 h4 hs h2
        go_wp2_with fail
        go_ret2
        rw [HH.out.1, HH.out.2]
        exact ⟨rfl, HB1.out⟩
      · have g1 : decide (x < -536870912) = false := decide_eq_false hlo
        have g2 : decide (x > 536870911) = true := by rw [decide_eq_true_eq]; omega
        clear h3 h4 hs h2
        go_wp2_with fail
        go_ret2
        rw [HH.out.1, HH.out.2]
        exact ⟨rfl, HB1.out⟩
    · have hs2 : small64 x = false := by cases hq : small64 x; rfl; exact absurd hq hs
      have h2 : clip64 x = 0 := by unfold clip64; rw [hs2]; rfl
      rw [hs2, h2]
      clear h3 h4 hs hs2 h2
      go_wp2_with fail
      go_ret2
      rw [HH.out.1, HH.out.2]
      exact ⟨rfl, HB1.out⟩
theorem Own.put3 {E : TypeId} {k : IntKind} {B : Nat} {w : World} {v : Value} {l : List Int} (h : Own E k B w v l) {b : Nat} (hb : b < B) (u1 u2 : Value) : Own E k B ((w.setCell ⟨b, 0, none⟩ u1).setCell ⟨b, 1, none⟩ u2) v l := by
  have hn : v.ownBlock ≠ some b := by
    intro e
    have := (World.ownsRow.lt h b e).1
    omega
  exact (h.other (a := ⟨b, 0, none⟩) u1 hn).other (a := ⟨b, 1, none⟩) u2 hn
set_option maxRecDepth 100000 in
/-- An append as a step of a region that draws. -/
theorem step_run16 {ops : Array Oper} {o : Oper} {a : Act} {w w' : World} {K : Act → World → Prop} {Q : Exit → Act → World → Prop} {E : Prop} (hgd : o.guard = none) (s x : Operand)
    (ho : o.op = .call { callee := .builtin .append, args := #[s, x], argTypes := #[22, 22] }) {v u v' : Value} (hs : a.eval s = v) (hx : a.eval x = u)
    (hr : (Builtin.append_ #[22, 22] o.type #[v, u]).run Tryd.prog w = .ok v' w') (h : K (a.put o.dst v') w') :
    if Region.wanted o (yielded ops a.tmps) = true then Oper.wp Tryd.prog o a w K Q else E := by
  have hw : Region.wanted o (yielded ops a.tmps) = true := by simp [Region.wanted, hgd]
  rw [if_pos hw]
  unfold Oper.wp execOp
  simp only [ho, resolve, invoke, builtin, Sem.run_bind, Sem.run_pure, Result.andThen_ok, List.map_toArray, List.map_cons, List.map_nil, hs, hx, hr]
  exact h
set_option maxRecDepth 100000 in
set_option maxHeartbeats 4000000 in
theorem tidy_at {w : World} {p : Option Addr} {c : Nat} {l : List Int} (s : Bool) (a1 : Arg .u16 w p c l) (d1 : Dig 65536 l) (n1 : l.length ≤ 100000) :
    Calls Tryd.prog 14 #[.agg #[.bool s, .slice p l.length c]] w fun e w' => ∃ v, e = .returned v ∧ IsNum w.heap.size w' v (nv 65536 s l) ∧ Below w.heap.size w w' := by
  obtain ⟨W, hW, hB, hS, h0, h1⟩ := two_boxes w (.bool s) (.slice p l.length c) (.bool false) (.slice none 0 0)
  have T1 := Lib.hid (tidied_at s (a1.below hB))
  have hl := tdig_len l
  have hl2 := trimN_le l l.length
  have HA := Lib.hid (And.intro (a1.below hB) (And.intro (tidy_can s d1) (show (tdig l).length ≤ 100000 by omega)))
  have HX := Lib.hid (And.intro (Box.of h1) hB)
  clear a1 d1 hB h0 h1 hl hl2 n1
  obtain ⟨b, hb⟩ : ∃ b, b = w.heap.size := ⟨_, rfl⟩
  go_enter Tryd.func14, Tryd.ntmps14
  go_wp2_with fail
  rw [← hW]
  refine T1.out.mono ?_
  rintro e w1 ⟨rfl, B1⟩
  obtain ⟨ts, hts⟩ : ∃ ts, ts = tneg s l := ⟨_, rfl⟩
  rw [← hts]
  have aD : Arg .u16 w1 p c (tdig l) := (HA.out.1.below B1).take _
  have hx := HX.out.1.below B1
  have hb1 := HX.out.2.trans (B1.mono HX.out.2.size)
  have hlt : w.heap.size + 1 < w1.heap.size := by have := B1.size; omega
  have H1 := Lib.hid (And.intro aD (And.intro hx (And.intro hb1 (And.intro hlt hts))))
  clear aD hx hb1 hlt hts B1 hW hS
  go_wp2_with fail
  obtain ⟨W5, hW5⟩ : ∃ W5, W5 = w1.alloc (.cells #[.bool ts, .slice p (tdig l).length c] 24) := ⟨_, rfl⟩
  rw [← hW5]
  have B5 : Below w1.heap.size w1 W5 := by rw [hW5]; exact (Below.refl _ _).alloc (Nat.le_refl _) _
  have X5 : Box W5 w1.heap.size (.bool ts) (.slice p (tdig l).length c) := by rw [hW5]; exact Box.fresh _ _ _ rfl
  have hz : W5.heap.size = w1.heap.size + 1 := by rw [hW5]; simp
  obtain ⟨β, hβ⟩ : ∃ β, β = w1.heap.size := ⟨_, rfl⟩
  rw [← hβ] at X5 ⊢
  have hx5 := H1.out.2.1.below B5
  obtain ⟨v5, w6, hr, ho, -, hb6⟩ := app_row kt16 (Own.nil 52 .u16 W5.heap.size W5.drew) (H1.out.1.below B5).drew (by have := HA.out.2.2; simp; omega) (Nat.le_refl _)
  rw [List.nil_append] at ho
  obtain ⟨p6, c6, rfl, -, -⟩ := ho.arg
  have B6 : Below W5.heap.size W5 w6 := (Below.refl _ _).drew.trans hb6
  have HR := Lib.hid hr
  have hne : β ≠ w.heap.size + 1 := by have := H1.out.2.2.2.1; omega
  have H5 := Lib.hid (And.intro hx5 (And.intro X5 (And.intro ho (And.intro B6 (And.intro B5 (And.intro hz (And.intro hβ hne)))))))
  have d0 : W5.drew.cell? ⟨β, 0, none⟩ = some (.bool ts) := X5.c0
  have d1 : W5.drew.cell? ⟨β, 1, none⟩ = some (.slice p (tdig l).length c) := X5.c1
  clear hW5 B5 X5 hz hβ hx5 hr ho hb6 B6 hb hne
  go_region_held_law (fun w' => w'.cell? ⟨β, 0, none⟩ = some (.bool ts) ∧ w'.cell? ⟨β, 1, none⟩ = some (.slice p (tdig l).length c)) (go_keep)
    (first
      | (go_at_call 42; obtain ⟨sg, hsg⟩ : ∃ sg, sg = (ts && decide (0 < (tdig l).length)) := ⟨_, rfl⟩; refine (signed_at _ _ _ _ _).mono ?_; rintro e w7 ⟨rfl, B7⟩; rw [← hsg]; have HSG := Lib.hid hsg; clear hsg; have B57 : Below W5.heap.size W5 w7 := H5.out.2.2.2.1.trans (B7.mono H5.out.2.2.2.1.size); obtain ⟨m0, m1, m2, m3⟩ := H5.out.2.1.below B57; obtain ⟨r0, r1, r2, r3⟩ := H5.out.1.below B57; have k7 := Box.first (H5.out.1.below B57) (.bool sg); have k6 := ((H5.out.1.below B57).store (.bool sg) (.slice p6 (tdig l).length c6)).2; have ne1 : ¬ β = w.heap.size + 1 := H5.out.2.2.2.2.2.2.2; have ne2 : ¬ w.heap.size + 1 = β := (fun e => H5.out.2.2.2.2.2.2.2 e.symm))
      | (refine step_run16 rfl _ _ rfl rfl rfl HR.out ?_; obtain ⟨z0, z1, z2, z3⟩ := H5.out.2.1.below H5.out.2.2.2.1))
  all_goals
    go_wp2_with fail
    refine bodyPost_ret (v := .agg #[.bool sg, .slice p6 (tdig l).length c6]) (by simp [results, Tryd.results14, go_sem, k6, k7]) rfl ⟨_, rfl, ?_, ?_⟩
    · rw [HSG.out]
      have hlt := H1.out.2.2.2.1
      have hsz := H5.out.2.2.2.2.2.1
      have hzz : w.heap.size + 1 < W5.heap.size := by omega
      have ca := HA.out.2.1
      rw [← H1.out.2.2.2.2] at ca
      exact isNum_of (((H5.out.2.2.1.below B7).put3 hzz _ _).base (Nat.le_of_lt (Nat.lt_of_succ_lt hzz))) ca.1.dig ca.1.tidy ca.2
    · have h2 := H1.out.2.2.1.trans ((H5.out.2.2.2.2.1.trans (B57.mono H5.out.2.2.2.2.1.size)).mono H1.out.2.2.1.size)
      exact (h2.setCell (p := ⟨w.heap.size + 1, 0, none⟩) (Nat.le_succ _) _).setCell (p := ⟨w.heap.size + 1, 1, none⟩) (Nat.le_succ _) _
end Go.Proofs.YtihgefllmkicaaaDoor
