/- Contracts: products of numbers. Conditions: the digits lie as told. -/
import Derived.Test.YtihgefllmkicaaaDoorBgP
import Derived.Deep.RegionHeld3
import Derived.Deep.DeepCutAuto
import Derived.Deep.CutBlock
namespace Go.Proofs.YtihgefllmkicaaaDoor
open Go.RowKit Bg
set_option linter.unusedVariables false
set_option linter.unusedSimpArgs false

set_option maxRecDepth 100000 in
set_option maxHeartbeats 60000000 in
theorem mul_at {w : World} {p p' : Option Addr} {c c' : Nat} {l l' : List Int} {s s' : Bool} (a1 : Arg .u16 w p c l) (a2 : Arg .u16 w p' c' l') (d1 : Dig 65536 l) (d2 : Dig 65536 l') (n1 : l.length ≤ 100000) (n2 : l'.length ≤ 100000) :
    Calls Tryd.prog 26 #[.agg #[.bool s, .slice p l.length c], .agg #[.bool s', .slice p' l'.length c']] w fun e w' => ∃ v, e = .returned v ∧ IsNum w.heap.size w' v (nv 65536 s l * nv 65536 s' l') ∧ Below w.heap.size w w' := by
  obtain ⟨W, hW, hB, hS, h0, h1, h2⟩ := three_boxes w (.bool s) (.slice p l.length c) (.bool s') (.slice p' l'.length c') (.bool false) (.slice none 0 0)
  have k1 : ∀ w', Below W.heap.size W w' → Calls Tryd.prog 41 #[.agg #[.bool s, .slice p l.length c]] w' _ := fun w' hb => tidied_at s ((a1.below hB).below hb)
  have k2 : ∀ w', Below W.heap.size W w' → Calls Tryd.prog 41 #[.agg #[.bool s', .slice p' l'.length c']] w' _ := fun w' hb => tidied_at s' ((a2.below hB).below hb)
  have H := Lib.hid (And.intro (a1.below hB) (And.intro (a2.below hB) (And.intro d1 (And.intro d2 (And.intro n1 n2)))))
  clear a1 a2 d1 d2
  obtain ⟨b, hb⟩ : ∃ b, b = w.heap.size := ⟨_, rfl⟩
  rw [← hb] at h0 h1 h2 hS
  have K1 := Lib.hid k1
  have K2 := Lib.hid k2
  have E0 := Lib.hid (And.intro h0 (And.intro h1 h2))
  have E1 := Lib.hid (And.intro (Box.of h0) (Box.of h1))
  have e1 : W.heap.size = b + 1 + 1 + 1 := hS
  have HB := Lib.hid (And.intro hB hb)
  go_enter Tryd.func26, Tryd.ntmps26
  go_upto_region 1 with fail
  rw [← hb]
  rw [hb, ← hW, ← hb]
  clear k1 k2 hW hB h0 h1 h2 hS hb n1 n2
  go_cut [5, 6] (fun x y wx => ∃ b5 b6, x = .pointer (some ⟨b5, 0, none⟩) ∧ y = .pointer (some ⟨b6, 0, none⟩) ∧ Hid (Both W wx b5 b6 (.bool (tneg s l)) (.slice p (tdig l).length c) (.bool (tneg s' l')) (.slice p' (tdig l').length c')))
  case first =>
    go_region_held3 (fun w' => w'.cell? ⟨b, 0, none⟩ = some (.bool s) ∧ w'.cell? ⟨b, 1, none⟩ = some (.slice p l.length c) ∧ w'.cell? ⟨b + 1, 0, none⟩ = some (.bool s') ∧ w'.cell? ⟨b + 1, 1, none⟩ = some (.slice p' l'.length c')) (first | exact four_kept E1.out (by (repeat (first | exact Below.refl _ _ | exact hbb2 | exact hbb | refine Below.drew ?_ | refine Below.al ?_ _ | refine below_set ?_ _ (by omega)))))
      (first
        | (go_at_call 41; first | (have hbbx := hbb; refine (K2.out _ ?_).mono ?_; (repeat (first | exact Below.refl _ _ | exact hbb2 | exact hbb | refine Below.drew ?_ | refine Below.al ?_ _ | refine below_set ?_ _ (by omega))); rintro e w2 ⟨rfl, hb2⟩; have hbb2 := below_tr (W := W) hb2 (by (repeat (first | exact Below.refl _ _ | exact hbb2 | exact hbb | refine Below.drew ?_ | refine Below.al ?_ _ | refine below_set ?_ _ (by omega)))); have hb12 := below_tr (W := w1) hb2 (by repeat (first | exact Below.refl _ _ | refine Below.al ?_ _)); have hz12 := hb2.size; (try simp only [size_alloc] at hz12); have hz2 := hbb2.size; rw [e1] at hz2; (try (have p0 : ¬ w1.heap.size = w2.heap.size := (by omega); have p1 : ¬ w2.heap.size = w1.heap.size := (by omega))); (try (have p4 : ¬ b + 1 + 1 + 1 = w2.heap.size := (by omega); have p5 : ¬ w2.heap.size = b + 1 + 1 + 1 := (by omega))); (try (have p6 : ¬ b + 1 + 1 + 1 = w1.heap.size := (by omega); have p7 : ¬ w1.heap.size = b + 1 + 1 + 1 := (by omega))); (try (have hm := na.out.below hb12; have maO0 := fun O => (hm.alloc O).c0; have maO1 := fun O => (hm.alloc O).c1; have maO2 := fun O => (hm.alloc O).f0; have maO3 := fun O => (hm.alloc O).f1; obtain ⟨ma0, ma1, ma2, ma3⟩ := hm)); (try (have hm := nb.out.below hb12; have mbO0 := fun O => (hm.alloc O).c0; have mbO1 := fun O => (hm.alloc O).c1; have mbO2 := fun O => (hm.alloc O).f0; have mbO3 := fun O => (hm.alloc O).f1; obtain ⟨mb0, mb1, mb2, mb3⟩ := hm)); (try (have hm := nc.out.below hb12; have mcO0 := fun O => (hm.alloc O).c0; have mcO1 := fun O => (hm.alloc O).c1; have mcO2 := fun O => (hm.alloc O).f0; have mcO3 := fun O => (hm.alloc O).f1; obtain ⟨mc0, mc1, mc2, mc3⟩ := hm)); (try (have hm := box_new2 hb2 (n := w1.heap.size) rfl; have mdO0 := fun O => (hm.alloc O).c0; have mdO1 := fun O => (hm.alloc O).c1; have mdO2 := fun O => (hm.alloc O).f0; have mdO3 := fun O => (hm.alloc O).f1; obtain ⟨md0, md1, md2, md3⟩ := hm)); (try (have hm := box_new hb2 (n := w1.heap.size) rfl; have meO0 := fun O => (hm.alloc O).c0; have meO1 := fun O => (hm.alloc O).c1; have meO2 := fun O => (hm.alloc O).f0; have meO3 := fun O => (hm.alloc O).f1; obtain ⟨me0, me1, me2, me3⟩ := hm)); (try (have hm := box_new hb2 (n := w1.heap.size + 1) (size_alloc _ _); have mfO0 := fun O => (hm.alloc O).c0; have mfO1 := fun O => (hm.alloc O).c1; have mfO2 := fun O => (hm.alloc O).f0; have mfO3 := fun O => (hm.alloc O).f1; obtain ⟨mf0, mf1, mf2, mf3⟩ := hm))) | (refine (K1.out _ ?_).mono ?_; (repeat (first | exact Below.refl _ _ | exact hbb2 | exact hbb | refine Below.drew ?_ | refine Below.al ?_ _ | refine below_set ?_ _ (by omega))); rintro e w1 ⟨rfl, hb⟩; have hbb := below_tr (W := W) hb (by (repeat (first | exact Below.refl _ _ | exact hbb2 | exact hbb | refine Below.drew ?_ | refine Below.al ?_ _ | refine below_set ?_ _ (by omega)))); have hz1 := hbb.size; rw [e1] at hz1; (try (have na := Lib.hid (box_new2 (Below.undrew hb) (n := b + 1 + 1 + 1) e1); obtain ⟨na0, na1, na2, na3⟩ := na.out)); (try (have nb := Lib.hid (box_new (Below.undrew hb) (n := b + 1 + 1 + 1) e1); obtain ⟨nb0, nb1, nb2, nb3⟩ := nb.out)); (try (have nc := Lib.hid (box_new (Below.undrew hb) (n := b + 1 + 1 + 1 + 1) (by rw [size_alloc, e1])); obtain ⟨nc0, nc1, nc2, nc3⟩ := nc.out)); (try (have p6 : ¬ b + 1 + 1 + 1 = w1.heap.size := (by have := hb.size; simp only [size_drew, size_alloc, e1] at this; omega); have p7 : ¬ w1.heap.size = b + 1 + 1 + 1 := (by omega))))))
    all_goals
      go_wp2_with fail
      go_meet
      refine ⟨_, _, rfl, rfl, ?_⟩
      refine Both.mk ?_ ?_ ?_ ?_ ?_ ?_ ?_
      · (repeat (first | exact Below.refl _ _ | exact hbb2 | exact hbb | refine Below.drew ?_ | refine Below.al ?_ _ | refine below_set ?_ _ (by omega)))
      · (repeat (first | exact Box.fresh _ _ _ rfl | exact Box.fresh _ _ _ (by simp) | exact na.out.below hb12 | exact nb.out.below hb12 | exact nc.out.below hb12 | exact box_new2 hb2 rfl | exact box_new hb2 rfl | exact box_new hb2 (size_alloc _ _) | exact hq.below hbb2 | refine Box.put (x := .bool false) (y := .slice none 0 0) ?_ _ _ | refine Box.far ?_ (by omega) _ _ | refine Box.alloc ?_ _))
      · (repeat (first | exact Box.fresh _ _ _ rfl | exact Box.fresh _ _ _ (by simp) | exact na.out.below hb12 | exact nb.out.below hb12 | exact nc.out.below hb12 | exact box_new2 hb2 rfl | exact box_new hb2 rfl | exact box_new hb2 (size_alloc _ _) | exact hq.below hbb2 | refine Box.put (x := .bool false) (y := .slice none 0 0) ?_ _ _ | refine Box.far ?_ (by omega) _ _ | refine Box.alloc ?_ _))
      · intro q x y hq
        have hql := World.block_lt_of_cell? W _ hq.c0
        simp only at hql
        (repeat (first | exact Box.fresh _ _ _ rfl | exact Box.fresh _ _ _ (by simp) | exact na.out.below hb12 | exact nb.out.below hb12 | exact nc.out.below hb12 | exact box_new2 hb2 rfl | exact box_new hb2 rfl | exact box_new hb2 (size_alloc _ _) | exact hq.below hbb2 | refine Box.put (x := .bool false) (y := .slice none 0 0) ?_ _ _ | refine Box.far ?_ (by omega) _ _ | refine Box.alloc ?_ _))
      all_goals omega
  case rest =>
    obtain ⟨b5, b6, rfl, rfl, hS⟩ := hcut
    have h4 := hS.out.keep _ _ _ (Box.of E0.out.2.2)
    have hWb := HB.out.1
    have hbe := HB.out.2
    have f5 := hS.out.f5
    have f6 := hS.out.f6
    have hsw : w.heap.size ≤ wc.heap.size := Nat.le_trans hWb.size hS.out.below.size
    have n4 : b + 2 ≠ b5 ∧ b + 2 ≠ b6 := by omega
    have hwc := hWb.trans (hS.out.below.mono hWb.size)
    have HH := Lib.hid (And.intro h4 (And.intro n4 (And.intro hwc hbe)))
    clear h4 n4 hwc hbe hWb f5 f6
    obtain ⟨x0, x1, -, -⟩ := hS.out.h5
    obtain ⟨y0, y1, -, -⟩ := hS.out.h6
    obtain ⟨ts, hts⟩ : ∃ ts, ts = tneg s l := ⟨_, rfl⟩
    obtain ⟨ts', hts'⟩ : ∃ ts', ts' = tneg s' l' := ⟨_, rfl⟩
    have q1 := tdig_len l
    have q2 := tdig_len l'
    have q3 := trimN_le l l.length
    have q4 := trimN_le l' l'.length
    have ca := tidy_can s H.out.2.2.1
    have cb := tidy_can s' H.out.2.2.2.1
    rw [← hts] at x0 ca
    rw [← hts'] at y0 cb
    have aA : Arg .u16 wc p c (tdig l) := (H.out.1.below hS.out.below).take _
    have aB : Arg .u16 wc p' c' (tdig l') := (H.out.2.1.below hS.out.below).take _
    have T1 := Lib.hid (times_at (R := 65536) aA.drew aB.drew ca.1.dig cb.1.dig (by have := H.out.2.2.2.2.1; omega) (by have := H.out.2.2.2.2.2; omega) (by decide))
    have HC := Lib.hid (And.intro ca cb)
    have HQ := Lib.hid (And.intro hts hts')
    have dx0 : wc.drew.cell? ⟨b5, 0, none⟩ = some (.bool ts) := x0
    have dx1 : wc.drew.cell? ⟨b5, 1, none⟩ = some (.slice p (tdig l).length c) := x1
    have dy0 : wc.drew.cell? ⟨b6, 0, none⟩ = some (.bool ts') := y0
    have dy1 : wc.drew.cell? ⟨b6, 1, none⟩ = some (.slice p' (tdig l').length c') := y1
    clear ca cb aA aB hts hts' q1 q2 q3 q4
    go_wp2_with fail
    go_region_held (fun w' => w'.cell? ⟨b5, 0, none⟩ = some (.bool ts) ∧ w'.cell? ⟨b5, 1, none⟩ = some (.slice p (tdig l).length c) ∧ w'.cell? ⟨b6, 0, none⟩ = some (.bool ts') ∧ w'.cell? ⟨b6, 1, none⟩ = some (.slice p' (tdig l').length c')) (go_keep)
      (first
        | (go_at_call 53; refine T1.out.mono ?_; rintro e w3 ⟨v3, D, rfl, oD, dD, tD, vD, B3⟩; have B3' : Below wc.heap.size wc w3 := (Below.refl _ _).drew.trans B3; obtain ⟨z0, z1, z2, z3⟩ := hS.out.h5.below B3'; obtain ⟨u0, u1, u2, u3⟩ := hS.out.h6.below B3'; obtain ⟨p3, c3, rfl, -, -⟩ := oD.arg; rw [← HQ.out.1] at z0; rw [← HQ.out.2] at u0)
        | (go_at_call 42; obtain ⟨sg, hsg⟩ : ∃ sg, sg = ((!(ts == ts')) && decide (0 < D.length)) := ⟨_, rfl⟩; refine (signed_at _ _ _ _ _).mono ?_; rintro e w4 ⟨rfl, B4⟩; rw [← hsg]; have HSG := Lib.hid hsg; clear hsg; have B4' : Below wc.heap.size wc w4 := B3'.trans (B4.mono B3'.size); obtain ⟨m0, m1, m2, m3⟩ := hS.out.h5.below B4'; obtain ⟨n0, n1, n2, n3⟩ := hS.out.h6.below B4'; obtain ⟨r0, r1, r2, r3⟩ := HH.out.1.below B4'; rw [← HQ.out.1] at m0; rw [← HQ.out.2] at n0; have hst := Box.store (HH.out.1.below B4') (.bool sg) (.slice p3 D.length c3); obtain ⟨k5, k6⟩ := hst; have k7 := Box.first (HH.out.1.below B4') (.bool sg); have ne5 : ¬ b + 2 = b5 := HH.out.2.1.1; have ne6 : ¬ b + 2 = b6 := HH.out.2.1.2; have ne7 : ¬ b5 = b + 2 := (fun e => HH.out.2.1.1 e.symm); have ne8 : ¬ b6 = b + 2 := (fun e => HH.out.2.1.2 e.symm)))
    all_goals
      go_wp2_with fail
      refine bodyPost_ret (v := .agg #[.bool sg, .slice p3 D.length c3]) (by simp [results, Tryd.results26, go_sem, k5, k6, k7]) rfl ⟨_, rfl, ?_, ?_⟩
      · have h1 := nv_mul (s := ts) (t := ts') vD
        rw [HC.out.1.2, HC.out.2.2] at h1
        have hsz : w.heap.size ≤ wc.drew.heap.size := hsw
        rw [HSG.out]
        show IsNum _ _ (.agg #[.bool ((ts != ts') && decide (0 < D.length)), .slice p3 D.length c3]) _
        exact (isNum_of ((((oD.below B4).other (a := ⟨b + 2, 0, none⟩) _ (by intro e; have q1 := (World.ownsRow.lt oD _ e).1; have q2 : wc.drew.heap.size = wc.heap.size := rfl; have q3 := World.block_lt_of_cell? wc _ HH.out.1.c0; simp only at q1 q3; omega)).other (a := ⟨b + 2, 1, none⟩) _ (by intro e; have q1 := (World.ownsRow.lt oD _ e).1; have q2 : wc.drew.heap.size = wc.heap.size := rfl; have q3 := World.block_lt_of_cell? wc _ HH.out.1.c0; simp only at q1 q3; omega)).base hsz) dD tD h1)
      · have h2 := HH.out.2.2.1.trans (B4'.mono hsw)
        have hbe : w.heap.size ≤ b + 2 := by have := HH.out.2.2.2; omega
        exact (h2.setCell (p := ⟨b + 2, 0, none⟩) hbe _).setCell (p := ⟨b + 2, 1, none⟩) hbe _
end Go.Proofs.YtihgefllmkicaaaDoor
