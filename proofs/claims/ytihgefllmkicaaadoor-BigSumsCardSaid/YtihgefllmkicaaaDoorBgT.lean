/- Contracts: quotients of numbers. Conditions: the digits lie as told. -/
import Derived.Test.YtihgefllmkicaaaDoorBgP
import Derived.Deep.RegionHeld3
import Derived.Deep.DeepCutAuto
import Derived.Deep.CutBlock
namespace Go.Proofs.YtihgefllmkicaaaDoor
open Go.RowKit Bg
set_option linter.unusedVariables false
set_option linter.unusedSimpArgs false


/-- What Quo tells. -/
def QuoIs (B : Nat) (w' : World) (e : Ending) (x y : Int) : Prop :=
  (y = 0 ∧ e = .returned (.tuple #[.agg #[.bool false, .slice none 0 0], .agg #[.bool false, .slice none 0 0], .int .i64 15])) ∨
  (y ≠ 0 ∧ ∃ vq vr, e = .returned (.tuple #[vq, vr, .int .i64 0]) ∧ IsNum B w' vq (x.tdiv y) ∧ IsNum B w' vr (x.tmod y))
theorem nv_val (B : Int) (s : Bool) (l : List Int) : nv B s l = if s = true then -val B l else val B l := rfl
theorem Own.put2 {E : TypeId} {k : IntKind} {B : Nat} {w : World} {v : Value} {l : List Int} (h : Own E k B w v l) {b : Nat} (hb : b < B) (u1 u2 : Value) : Own E k B ((w.setCell ⟨b, 0, none⟩ u1).setCell ⟨b, 1, none⟩ u2) v l := by
  have hn : v.ownBlock ≠ some b := by
    intro e
    have := (World.ownsRow.lt h b e).1
    omega
  exact (h.other (a := ⟨b, 0, none⟩) u1 hn).other (a := ⟨b, 1, none⟩) u2 hn
set_option maxRecDepth 100000 in
set_option maxHeartbeats 60000000 in
theorem quo_at {w : World} {p p' : Option Addr} {c c' : Nat} {l l' : List Int} {s s' : Bool} (a1 : Arg .u16 w p c l) (a2 : Arg .u16 w p' c' l') (d1 : Dig 65536 l) (d2 : Dig 65536 l') (n1 : l.length ≤ 100000) (n2 : l'.length ≤ 100000) :
    Calls Tryd.prog 32 #[.agg #[.bool s, .slice p l.length c], .agg #[.bool s', .slice p' l'.length c']] w fun e w' => QuoIs w.heap.size w' e (nv 65536 s l) (nv 65536 s' l') ∧ Below w.heap.size w w' := by
  obtain ⟨W, hW, hB, hS, h0, h1, h2, h3⟩ := four_boxes w (.bool s) (.slice p l.length c) (.bool s') (.slice p' l'.length c') (.bool false) (.slice none 0 0) (.bool false) (.slice none 0 0)
  have k1 : ∀ w', Below W.heap.size W w' → Calls Tryd.prog 41 #[.agg #[.bool s, .slice p l.length c]] w' _ := fun w' hb => tidied_at s ((a1.below hB).below hb)
  have k2 : ∀ w', Below W.heap.size W w' → Calls Tryd.prog 41 #[.agg #[.bool s', .slice p' l'.length c']] w' _ := fun w' hb => tidied_at s' ((a2.below hB).below hb)
  have H := Lib.hid (And.intro (a1.below hB) (And.intro (a2.below hB) (And.intro d1 (And.intro d2 (And.intro n1 n2)))))
  clear a1 a2 d1 d2
  obtain ⟨b, hb⟩ : ∃ b, b = w.heap.size := ⟨_, rfl⟩
  rw [← hb] at h0 h1 h2 h3 hS
  have K1 := Lib.hid k1
  have K2 := Lib.hid k2
  have E0 := Lib.hid (And.intro h0 (And.intro h1 (And.intro h2 h3)))
  have E1 := Lib.hid (And.intro (Box.of h0) (Box.of h1))
  have e1 : W.heap.size = b + 1 + 1 + 1 + 1 := hS
  have HB := Lib.hid (And.intro hB hb)
  go_enter Tryd.func32, Tryd.ntmps32
  go_upto_region 1 with fail
  rw [← hb]
  rw [hb, ← hW, ← hb]
  clear k1 k2 hW hB h0 h1 h2 h3 hS hb n1 n2
  go_cut [7, 8] (fun x y wx => ∃ b5 b6, x = .pointer (some ⟨b5, 0, none⟩) ∧ y = .pointer (some ⟨b6, 0, none⟩) ∧ Hid (Both W wx b5 b6 (.bool (tneg s l)) (.slice p (tdig l).length c) (.bool (tneg s' l')) (.slice p' (tdig l').length c')))
  case first =>
    go_region_held3 (fun w' => w'.cell? ⟨b, 0, none⟩ = some (.bool s) ∧ w'.cell? ⟨b, 1, none⟩ = some (.slice p l.length c) ∧ w'.cell? ⟨b + 1, 0, none⟩ = some (.bool s') ∧ w'.cell? ⟨b + 1, 1, none⟩ = some (.slice p' l'.length c')) (first | exact four_kept E1.out (by (repeat (first | exact Below.refl _ _ | exact hbb2 | exact hbb | refine Below.drew ?_ | refine Below.al ?_ _ | refine below_set ?_ _ (by omega)))))
      (first
        | (go_at_call 41; first | (have hbbx := hbb; refine (K2.out _ ?_).mono ?_; (repeat (first | exact Below.refl _ _ | exact hbb2 | exact hbb | refine Below.drew ?_ | refine Below.al ?_ _ | refine below_set ?_ _ (by omega))); rintro e w2 ⟨rfl, hb2⟩; have hbb2 := below_tr (W := W) hb2 (by (repeat (first | exact Below.refl _ _ | exact hbb2 | exact hbb | refine Below.drew ?_ | refine Below.al ?_ _ | refine below_set ?_ _ (by omega)))); have hb12 := below_tr (W := w1) hb2 (by repeat (first | exact Below.refl _ _ | refine Below.al ?_ _)); have hz12 := hb2.size; (try simp only [size_alloc] at hz12); have hz2 := hbb2.size; rw [e1] at hz2; (try (have p0 : ¬ w1.heap.size = w2.heap.size := (by omega); have p1 : ¬ w2.heap.size = w1.heap.size := (by omega))); (try (have p4 : ¬ b + 1 + 1 + 1 + 1 = w2.heap.size := (by omega); have p5 : ¬ w2.heap.size = b + 1 + 1 + 1 + 1 := (by omega))); (try (have p6 : ¬ b + 1 + 1 + 1 + 1 = w1.heap.size := (by omega); have p7 : ¬ w1.heap.size = b + 1 + 1 + 1 + 1 := (by omega))); (try (have hm := na.out.below hb12; have maO0 := fun O => (hm.alloc O).c0; have maO1 := fun O => (hm.alloc O).c1; have maO2 := fun O => (hm.alloc O).f0; have maO3 := fun O => (hm.alloc O).f1; obtain ⟨ma0, ma1, ma2, ma3⟩ := hm)); (try (have hm := nb.out.below hb12; have mbO0 := fun O => (hm.alloc O).c0; have mbO1 := fun O => (hm.alloc O).c1; have mbO2 := fun O => (hm.alloc O).f0; have mbO3 := fun O => (hm.alloc O).f1; obtain ⟨mb0, mb1, mb2, mb3⟩ := hm)); (try (have hm := nc.out.below hb12; have mcO0 := fun O => (hm.alloc O).c0; have mcO1 := fun O => (hm.alloc O).c1; have mcO2 := fun O => (hm.alloc O).f0; have mcO3 := fun O => (hm.alloc O).f1; obtain ⟨mc0, mc1, mc2, mc3⟩ := hm)); (try (have hm := box_new2 hb2 (n := w1.heap.size) rfl; have mdO0 := fun O => (hm.alloc O).c0; have mdO1 := fun O => (hm.alloc O).c1; have mdO2 := fun O => (hm.alloc O).f0; have mdO3 := fun O => (hm.alloc O).f1; obtain ⟨md0, md1, md2, md3⟩ := hm)); (try (have hm := box_new hb2 (n := w1.heap.size) rfl; have meO0 := fun O => (hm.alloc O).c0; have meO1 := fun O => (hm.alloc O).c1; have meO2 := fun O => (hm.alloc O).f0; have meO3 := fun O => (hm.alloc O).f1; obtain ⟨me0, me1, me2, me3⟩ := hm)); (try (have hm := box_new hb2 (n := w1.heap.size + 1) (size_alloc _ _); have mfO0 := fun O => (hm.alloc O).c0; have mfO1 := fun O => (hm.alloc O).c1; have mfO2 := fun O => (hm.alloc O).f0; have mfO3 := fun O => (hm.alloc O).f1; obtain ⟨mf0, mf1, mf2, mf3⟩ := hm))) | (refine (K1.out _ ?_).mono ?_; (repeat (first | exact Below.refl _ _ | exact hbb2 | exact hbb | refine Below.drew ?_ | refine Below.al ?_ _ | refine below_set ?_ _ (by omega))); rintro e w1 ⟨rfl, hb⟩; have hbb := below_tr (W := W) hb (by (repeat (first | exact Below.refl _ _ | exact hbb2 | exact hbb | refine Below.drew ?_ | refine Below.al ?_ _ | refine below_set ?_ _ (by omega)))); have hz1 := hbb.size; rw [e1] at hz1; (try (have na := Lib.hid (box_new2 (Below.undrew hb) (n := b + 1 + 1 + 1 + 1) e1); obtain ⟨na0, na1, na2, na3⟩ := na.out)); (try (have nb := Lib.hid (box_new (Below.undrew hb) (n := b + 1 + 1 + 1 + 1) e1); obtain ⟨nb0, nb1, nb2, nb3⟩ := nb.out)); (try (have nc := Lib.hid (box_new (Below.undrew hb) (n := b + 1 + 1 + 1 + 1 + 1) (by rw [size_alloc, e1])); obtain ⟨nc0, nc1, nc2, nc3⟩ := nc.out)); (try (have p6 : ¬ b + 1 + 1 + 1 + 1 = w1.heap.size := (by have := hb.size; simp only [size_drew, size_alloc, e1] at this; omega); have p7 : ¬ w1.heap.size = b + 1 + 1 + 1 + 1 := (by omega))))))
    all_goals
      go_wp2_with fail
      go_meet
      refine ⟨_, _, rfl, rfl, ?_⟩
      refine Both.mk ?_ ?_ ?_ ?_ ?_ ?_ ?_
      · (repeat (first | exact Below.refl _ _ | exact hbb2 | exact hbb | refine Below.drew ?_ | refine Below.al ?_ _ | refine below_set ?_ _ (by omega)))
      · (repeat (first | exact Box.fresh _ _ _ rfl | exact Box.fresh _ _ _ (by simp) | exact na.out.below hb12 | exact nb.out.below hb12 | exact nc.out.below hb12 | exact box_new2 hb2 rfl | exact box_new hb2 rfl | exact box_new hb2 (size_alloc _ _) | exact hq.below hbb2 | refine Box.put (x := .bool false) (y := .slice none 0 0) ?_ _ _ | refine Box.far ?_ (by omega) _ _ | refine Box.alloc ?_ _))
      · (repeat (first | exact Box.fresh _ _ _ rfl | exact Box.fresh _ _ _ (by simp) | exact na.out.below hb12 | exact nb.out.below hb12 | exact nc.out.below hb12 | exact box_new2 hb2 rfl | exact box_new hb2 rfl | exact box_new hb2 (size_alloc _ _) | exact hq.below hbb2 | refine Box.put (x := .bool false) (y := .slice none 0 0) ?_ _ _ | refine Box.far ?_ (by omega) _ _ | refine Box.alloc ?_ _))
      · intro q x y hq
        have hql := World.block_lt_of_cell? W _ hq.c0
        simp only at hql
        (repeat (first | exact Box.fresh _ _ _ rfl | exact Box.fresh _ _ _ (by simp) | exact na.out.below hb12 | exact nb.out.below hb12 | exact nc.out.below hb12 | exact box_new2 hb2 rfl | exact box_new hb2 rfl | exact box_new hb2 (size_alloc _ _) | exact hq.below hbb2 | refine Box.put (x := .bool false) (y := .slice none 0 0) ?_ _ _ | refine Box.far ?_ (by omega) _ _ | refine Box.alloc ?_ _))
      all_goals omega
  case rest =>
    obtain ⟨b5, b6, rfl, rfl, hS⟩ := hcut
    have h4 := hS.out.keep _ _ _ (Box.of E0.out.2.2.1)
    have h9 := hS.out.keep _ _ _ (Box.of E0.out.2.2.2)
    have hWb := HB.out.1
    have hbe := HB.out.2
    have f5 := hS.out.f5
    have f6 := hS.out.f6
    have hsw : w.heap.size ≤ wc.heap.size := Nat.le_trans hWb.size hS.out.below.size
    have hwc := hWb.trans (hS.out.below.mono hWb.size)
    have ca := tidy_can s H.out.2.2.1
    have cb := tidy_can s' H.out.2.2.2.1
    have q1 := tdig_len l
    have q3 := trimN_le l l.length
    have r1 := H.out.2.2.2.2.1
    have L1 : (tdig l).length ≤ 1000000 := by omega
    have n4 : (b + 2 ≠ b5 ∧ b + 2 ≠ b6) ∧ b + 3 ≠ b5 ∧ b + 3 ≠ b6 := by omega
    have n9 : b + 2 < wc.heap.size ∧ b + 3 < wc.heap.size := by have := hS.out.below.size; omega
    clear q1 q3 r1
    have aA : Arg .u16 wc p c (tdig l) := (H.out.1.below hS.out.below).take _
    have aB : Arg .u16 wc p' c' (tdig l') := (H.out.2.1.below hS.out.below).take _
    have h5 := hS.out.h5
    have h6 := hS.out.h6
    obtain ⟨ts, hts⟩ : ∃ ts, ts = tneg s l := ⟨_, rfl⟩
    obtain ⟨ts', hts'⟩ : ∃ ts', ts' = tneg s' l' := ⟨_, rfl⟩
    rw [← hts] at ca h5
    rw [← hts'] at cb h6
    obtain ⟨x0, x1, -, -⟩ := h5
    obtain ⟨y0, y1, -, -⟩ := h6
    obtain ⟨r0, r1, r2, r3⟩ := h4
    obtain ⟨t0, t1, t2, t3⟩ := h9
    have HH := Lib.hid (And.intro n4 (And.intro n9 (And.intro hwc hbe)))
    have HC := Lib.hid (And.intro ca (And.intro cb (And.intro aA aB)))
    have HX := Lib.hid (And.intro (Box.mk x0 x1 hS.out.h5.f0 hS.out.h5.f1) (And.intro (Box.mk y0 y1 hS.out.h6.f0 hS.out.h6.f1) (And.intro (Box.mk r0 r1 r2 r3) (Box.mk t0 t1 t2 t3))))
    by_cases h0 : (tdig l').length = 0
    · have d0 : (((tdig l').length : Int) == 0) = true := by rw [h0]; rfl
      have hz : nv 65536 s' l' = 0 := by
        rw [← HC.out.2.1.2, List.length_eq_zero_iff.1 h0, nv_nil]
      have k7 := Box.first HX.out.2.2.1 (.bool false)
      have k6 := (HX.out.2.2.1.store (.bool false) (.slice none 0 0)).2
      have Y9 := HX.out.2.2.2.far (b' := b + 2) (by omega) (.bool false) (.slice none 0 0)
      have k8 := Box.first Y9 (.bool false)
      have k9 := (Y9.store (.bool false) (.slice none 0 0)).2
      clear ca cb aA aB hts hts' n4 n9 hWb hbe f5 f6
      go_wp2_with fail
      refine bodyPost_ret (v := .tuple #[.agg #[.bool false, .slice none 0 0], .agg #[.bool false, .slice none 0 0], .int .i64 15]) (by simp [results, Tryd.results32, go_sem, k6, k7, k8, k9]) rfl ⟨Or.inl ⟨hz, rfl⟩, ?_⟩
      have hb2 : w.heap.size ≤ b + 2 := by have := HH.out.2.2.2; omega
      have hb3 : w.heap.size ≤ b + 3 := by omega
      exact (((hwc.setCell (p := ⟨b + 2, 0, none⟩) hb2 _).setCell (p := ⟨b + 2, 1, none⟩) hb2 _).setCell (p := ⟨b + 3, 0, none⟩) hb3 _).setCell (p := ⟨b + 3, 1, none⟩) hb3 _
    · have d0 : (((tdig l').length : Int) == 0) = false := by rw [beq_eq_false_iff_ne]; omega
      have hne : tdig l' ≠ [] := fun e => h0 (by rw [e]; rfl)
      have hvp : 0 < val 65536 (tdig l') := by
        have n0 := val_nonneg (show (0 : Int) ≤ 65536 by decide) HC.out.2.1.1.dig
        rcases Int.lt_or_eq_of_le n0 with h | h
        · exact h
        · exact absurd (val_zero (by decide) HC.out.2.1.1.dig HC.out.2.1.1.tidy h.symm) hne
      have hnz : nv 65536 s' l' ≠ 0 := by
        rw [← HC.out.2.1.2, nv_val]
        split <;> omega
      have hqs := quo_signs ts ts' (val_nonneg (show (0 : Int) ≤ 65536 by decide) HC.out.1.1.dig) hvp
      rw [← nv_val 65536 ts (tdig l), ← nv_val 65536 ts' (tdig l'), HC.out.1.2, HC.out.2.1.2] at hqs
      have D1 := Lib.hid (divide_at HC.out.2.2.1 HC.out.2.2.2 HC.out.1.1.dig HC.out.2.1.1.dig HC.out.1.1.tidy HC.out.2.1.1.tidy hne L1)
      have HZ := Lib.hid (And.intro hnz hqs)
      clear ca cb aA aB hts hts' n4 n9 hWb hbe f5 f6 hne hvp hnz hqs h0 L1
      go_wp2_with fail
      refine D1.out.mono ?_
      rintro e w2 ⟨qv, rv, Q, R, rfl, oQ, oR, dQ, dR, tQ, tR, vQ, vR, B2⟩
      obtain ⟨pq, cq, rfl, aQ, -⟩ := oQ.arg
      obtain ⟨pr, cr, rfl, aR, -⟩ := oR.arg
      have X2 := HX.out.1.below B2
      have Y2 := HX.out.2.1.below B2
      have R2 := HX.out.2.2.1.below B2
      have T2 := HX.out.2.2.2.below B2
      have HD := Lib.hid (And.intro oQ (And.intro oR (And.intro dQ (And.intro dR (And.intro tQ (And.intro tR (And.intro vQ (And.intro vR B2))))))))
      have HY := Lib.hid (And.intro X2 (And.intro Y2 (And.intro R2 T2)))
      clear oQ oR dQ dR tQ tR vQ vR aQ aR x0 x1 y0 y1 r0 r1 r2 r3 t0 t1 t2 t3 d0
      obtain ⟨x0, x1, x2, x3⟩ := X2
      obtain ⟨y0, y1, y2, y3⟩ := Y2
      have dx0 : w2.drew.cell? ⟨b5, 0, none⟩ = some (.bool ts) := x0
      have dy0 : w2.drew.cell? ⟨b6, 0, none⟩ = some (.bool ts') := y0
      clear R2 T2
      go_wp2_with fail
      go_region_held3 (fun w' => w'.cell? ⟨b5, 0, none⟩ = some (.bool ts) ∧ w'.cell? ⟨b6, 0, none⟩ = some (.bool ts')) (first | go_keep)
        (first
          | (go_at_call 42; refine (signed_at _ _ _ _ _).mono ?_; first | (have B3x := B3'; obtain ⟨sr, hsr⟩ : ∃ sr, sr = (ts && decide (0 < R.length)) := ⟨_, rfl⟩; rintro e w4 ⟨rfl, B4⟩; rw [← hsr]; have HSR := Lib.hid hsr; clear hsr; have B4' : Below w2.heap.size w2 w4 := B3'.trans (B4.mono B3'.size); obtain ⟨m0, m1, m2, m3⟩ := HY.out.1.below B4'; obtain ⟨n0, n1, n2, n3⟩ := HY.out.2.1.below B4'; obtain ⟨r0, r1, r2, r3⟩ := HY.out.2.2.1.below B4'; obtain ⟨t0, t1, t2, t3⟩ := HY.out.2.2.2.below B4'; have k7 := Box.first (HY.out.2.2.1.below B4') (.bool sg); have k6 := ((HY.out.2.2.1.below B4').store (.bool sg) (.slice pq Q.length cq)).2; have Y9 := (HY.out.2.2.2.below B4').far (b' := b + 2) (by omega) (.bool sg) (.slice pq Q.length cq); have k8 := Box.first Y9 (.bool sr); have k9 := (Y9.store (.bool sr) (.slice pr R.length cr)).2; have ne5 : ¬ b + 2 = b5 := HH.out.1.1.1; have ne6 : ¬ b + 2 = b6 := HH.out.1.1.2; have ne7 : ¬ b5 = b + 2 := (fun e => HH.out.1.1.1 e.symm); have ne8 : ¬ b6 = b + 2 := (fun e => HH.out.1.1.2 e.symm); have ne15 : ¬ b + 3 = b5 := HH.out.1.2.1; have ne16 : ¬ b + 3 = b6 := HH.out.1.2.2; have ne17 : ¬ b5 = b + 3 := (fun e => HH.out.1.2.1 e.symm); have ne18 : ¬ b6 = b + 3 := (fun e => HH.out.1.2.2 e.symm)) | (obtain ⟨sg, hsg⟩ : ∃ sg, sg = ((!(ts == ts')) && decide (0 < Q.length)) := ⟨_, rfl⟩; rintro e w3 ⟨rfl, B3⟩; rw [← hsg]; have HSG := Lib.hid hsg; clear hsg; have B3' : Below w2.heap.size w2 w3 := (Below.refl _ _).drew.trans B3; obtain ⟨z0, z1, z2, z3⟩ := HY.out.1.below B3'; obtain ⟨u0, u1, u2, u3⟩ := HY.out.2.1.below B3')))
      all_goals
        go_wp2_with fail
        refine bodyPost_ret (v := .tuple #[.agg #[.bool sg, .slice pq Q.length cq], .agg #[.bool sr, .slice pr R.length cr], .int .i64 0]) (by simp [results, Tryd.results32, go_sem, k6, k7, k8, k9]) rfl ?_
        obtain ⟨hnz, hq1, hq2⟩ := HZ.out
        obtain ⟨oQ, oR, dQ, dR, tQ, tR, vQ, vR, B2⟩ := HD.out
        have B34 : Below w2.heap.size w2 w4 := B4'
        have h2 := hwc.trans ((B2.trans (B34.mono B2.size)).mono hsw)
        have hb2 : w.heap.size ≤ b + 2 := by have := HH.out.2.2.2; omega
        have hb3 : w.heap.size ≤ b + 3 := by omega
        have l2 : b + 2 < wc.heap.size := HH.out.2.1.1
        have l3 : b + 3 < wc.heap.size := HH.out.2.1.2
        refine ⟨Or.inr ⟨hnz, _, _, rfl, ?_, ?_⟩, (((h2.setCell (p := ⟨b + 2, 0, none⟩) hb2 _).setCell (p := ⟨b + 2, 1, none⟩) hb2 _).setCell (p := ⟨b + 3, 0, none⟩) hb3 _).setCell (p := ⟨b + 3, 1, none⟩) hb3 _⟩
        · rw [HSG.out]
          show IsNum _ _ (.agg #[.bool ((ts != ts') && decide (0 < Q.length)), .slice pq Q.length cq]) _
          refine isNum_of ((((oQ.below B34).put2 l2 _ _).put2 l3 _ _).base hsw) dQ tQ ?_
          rw [nv_val, vQ]
          exact hq1
        · rw [HSR.out]
          refine isNum_of ((((oR.below B34).put2 l2 _ _).put2 l3 _ _).base hsw) dR tR ?_
          rw [nv_val, vR]
          exact hq2
end Go.Proofs.YtihgefllmkicaaaDoor
