/- Contracts: sums of numbers. Conditions: the digits lie as told. -/
import Derived.Test.YtihgefllmkicaaaDoorBgP
import Derived.Deep.RegionHeld3
import Derived.Deep.DeepCutAuto
import Derived.Deep.CutBlock
namespace Go.Proofs.YtihgefllmkicaaaDoor
open Go.RowKit Bg
set_option linter.unusedVariables false
set_option linter.unusedSimpArgs false


theorem nv_plus {B : Int} {s : Bool} {x y D : List Int} (h : val B D = val B x + val B y) : nv B s D = nv B s x + nv B s y := by
  unfold nv
  split <;> omega
theorem nv_minus {B : Int} {s t : Bool} {x y D : List Int} (hst : s ≠ t) (h : val B D = val B x - val B y) : nv B s D = nv B s x + nv B t y := by
  unfold nv
  cases s <;> cases t
  · exact absurd rfl hst
  · simp; omega
  · simp; omega
  · exact absurd rfl hst
set_option maxRecDepth 100000 in
set_option maxHeartbeats 60000000 in
theorem bigAdd_at {w : World} {p p' : Option Addr} {c c' : Nat} {l l' : List Int} {s s' : Bool} (a1 : Arg .u16 w p c l) (a2 : Arg .u16 w p' c' l') (d1 : Dig 65536 l) (d2 : Dig 65536 l') (n1 : l.length ≤ 100000) (n2 : l'.length ≤ 100000) :
    Calls Tryd.prog 24 #[.agg #[.bool s, .slice p l.length c], .agg #[.bool s', .slice p' l'.length c']] w fun e w' => ∃ v, e = .returned v ∧ IsNum w.heap.size w' v (nv 65536 s l + nv 65536 s' l') ∧ Below w.heap.size w w' := by
  obtain ⟨W, hW, hB, hS, h0, h1, h2⟩ := three_boxes w (.bool s) (.slice p l.length c) (.bool s') (.slice p' l'.length c') (.bool false) (.slice none 0 0)
  have k1 : ∀ w', Below W.heap.size W w' → Calls Tryd.prog 41 #[.agg #[.bool s, .slice p l.length c]] w' _ := fun w' hb => tidied_at s ((a1.below hB).below hb)
  have k2 : ∀ w', Below W.heap.size W w' → Calls Tryd.prog 41 #[.agg #[.bool s', .slice p' l'.length c']] w' _ := fun w' hb => tidied_at s' ((a2.below hB).below hb)
  have H := Lib.hid (And.intro (a1.below hB) (And.intro (a2.below hB) (And.intro d1 (And.intro d2 (And.intro n1 n2)))))
  clear a1 a2 d1 d2
  obtain ⟨b, hb⟩ : ∃ b, b = w.heap.size := ⟨_, rfl⟩
  rw [← hb] at h0 h1 h2 hS
  have K1 := Lib.hid k1
  have K2 := Lib.hid k2
  have E0 := Lib.hid (And.intro h0 (And.intro h1 h2))
  have E1 := Lib.hid (And.intro (Box.of h0) (Box.of h1))
  have e1 : W.heap.size = b + 1 + 1 + 1 := hS
  have HB := Lib.hid (And.intro hB hb)
  go_enter Tryd.func24, Tryd.ntmps24
  go_upto_region 1 with fail
  rw [← hb]
  rw [hb, ← hW, ← hb]
  clear k1 k2 hW hB h0 h1 h2 hS hb n1 n2
  go_cut [5, 6] (fun x y wx => ∃ b5 b6, x = .pointer (some ⟨b5, 0, none⟩) ∧ y = .pointer (some ⟨b6, 0, none⟩) ∧ Hid (Both W wx b5 b6 (.bool (tneg s l)) (.slice p (tdig l).length c) (.bool (tneg s' l')) (.slice p' (tdig l').length c')))
  case first =>
    go_region_held3 (fun w' => w'.cell? ⟨b, 0, none⟩ = some (.bool s) ∧ w'.cell? ⟨b, 1, none⟩ = some (.slice p l.length c) ∧ w'.cell? ⟨b + 1, 0, none⟩ = some (.bool s') ∧ w'.cell? ⟨b + 1, 1, none⟩ = some (.slice p' l'.length c')) (first | exact four_kept E1.out (by (repeat (first | exact Below.refl _ _ | exact hbb2 | exact hbb | refine Below.drew ?_ | refine Below.al ?_ _ | refine below_set ?_ _ (by omega)))))
      (first
        | (go_at_call 41; first | (have hbbx := hbb; refine (K2.out _ ?_).mono ?_; (repeat (first | exact Below.refl _ _ | exact hbb2 | exact hbb | refine Below.drew ?_ | refine Below.al ?_ _ | refine below_set ?_ _ (by omega))); rintro e w2 ⟨rfl, hb2⟩; have hbb2 := below_tr (W := W) hb2 (by (repeat (first | exact Below.refl _ _ | exact hbb2 | exact hbb | refine Below.drew ?_ | refine Below.al ?_ _ | refine below_set ?_ _ (by omega)))); have hb12 := below_tr (W := w1) hb2 (by repeat (first | exact Below.refl _ _ | refine Below.al ?_ _)); have hz12 := hb2.size; (try simp only [size_alloc] at hz12); have hz2 := hbb2.size; rw [e1] at hz2; (try (have p0 : ¬ w1.heap.size = w2.heap.size := (by omega); have p1 : ¬ w2.heap.size = w1.heap.size := (by omega))); (try (have p4 : ¬ b + 1 + 1 + 1 = w2.heap.size := (by omega); have p5 : ¬ w2.heap.size = b + 1 + 1 + 1 := (by omega))); (try (have p6 : ¬ b + 1 + 1 + 1 = w1.heap.size := (by omega); have p7 : ¬ w1.heap.size = b + 1 + 1 + 1 := (by omega))); (try (have hm := na.out.below hb12; have maO0 := fun O => (hm.alloc O).c0; have maO1 := fun O => (hm.alloc O).c1; have maO2 := fun O => (hm.alloc O).f0; have maO3 := fun O => (hm.alloc O).f1; obtain ⟨ma0, ma1, ma2, ma3⟩ := hm)); (try (have hm := nb.out.below hb12; have mbO0 := fun O => (hm.alloc O).c0; have mbO1 := fun O => (hm.alloc O).c1; have mbO2 := fun O => (hm.alloc O).f0; have mbO3 := fun O => (hm.alloc O).f1; obtain ⟨mb0, mb1, mb2, mb3⟩ := hm)); (try (have hm := nc.out.below hb12; have mcO0 := fun O => (hm.alloc O).c0; have mcO1 := fun O => (hm.alloc O).c1; have mcO2 := fun O => (hm.alloc O).f0; have mcO3 := fun O => (hm.alloc O).f1; obtain ⟨mc0, mc1, mc2, mc3⟩ := hm)); (try (have hm := box_new2 hb2 (n := w1.heap.size) rfl; have mdO0 := fun O => (hm.alloc O).c0; have mdO1 := fun O => (hm.alloc O).c1; have mdO2 := fun O => (hm.alloc O).f0; have mdO3 := fun O => (hm.alloc O).f1; obtain ⟨md0, md1, md2, md3⟩ := hm)); (try (have hm := box_new hb2 (n := w1.heap.size) rfl; have meO0 := fun O => (hm.alloc O).c0; have meO1 := fun O => (hm.alloc O).c1; have meO2 := fun O => (hm.alloc O).f0; have meO3 := fun O => (hm.alloc O).f1; obtain ⟨me0, me1, me2, me3⟩ := hm)); (try (have hm := box_new hb2 (n := w1.heap.size + 1) (size_alloc _ _); have mfO0 := fun O => (hm.alloc O).c0; have mfO1 := fun O => (hm.alloc O).c1; have mfO2 := fun O => (hm.alloc O).f0; have mfO3 := fun O => (hm.alloc O).f1; obtain ⟨mf0, mf1, mf2, mf3⟩ := hm))) | (refine (K1.out _ ?_).mono ?_; (repeat (first | exact Below.refl _ _ | exact hbb2 | exact hbb | refine Below.drew ?_ | refine Below.al ?_ _ | refine below_set ?_ _ (by omega))); rintro e w1 ⟨rfl, hb⟩; have hbb := below_tr (W := W) hb (by (repeat (first | exact Below.refl _ _ | exact hbb2 | exact hbb | refine Below.drew ?_ | refine Below.al ?_ _ | refine below_set ?_ _ (by omega)))); have hz1 := hbb.size; rw [e1] at hz1; (try (have na := Lib.hid (box_new2 (Below.undrew hb) (n := b + 1 + 1 + 1) e1); obtain ⟨na0, na1, na2, na3⟩ := na.out)); (try (have nb := Lib.hid (box_new (Below.undrew hb) (n := b + 1 + 1 + 1) e1); obtain ⟨nb0, nb1, nb2, nb3⟩ := nb.out)); (try (have nc := Lib.hid (box_new (Below.undrew hb) (n := b + 1 + 1 + 1 + 1) (by rw [size_alloc, e1])); obtain ⟨nc0, nc1, nc2, nc3⟩ := nc.out)); (try (have p6 : ¬ b + 1 + 1 + 1 = w1.heap.size := (by have := hb.size; simp only [size_drew, size_alloc, e1] at this; omega); have p7 : ¬ w1.heap.size = b + 1 + 1 + 1 := (by omega))))))
    all_goals
      go_wp2_with fail
      go_meet
      refine ⟨_, _, rfl, rfl, ?_⟩
      refine Both.mk ?_ ?_ ?_ ?_ ?_ ?_ ?_
      · (repeat (first | exact Below.refl _ _ | exact hbb2 | exact hbb | refine Below.drew ?_ | refine Below.al ?_ _ | refine below_set ?_ _ (by omega)))
      · (repeat (first | exact Box.fresh _ _ _ rfl | exact Box.fresh _ _ _ (by simp) | exact na.out.below hb12 | exact nb.out.below hb12 | exact nc.out.below hb12 | exact box_new2 hb2 rfl | exact box_new hb2 rfl | exact box_new hb2 (size_alloc _ _) | exact hq.below hbb2 | refine Box.put (x := .bool false) (y := .slice none 0 0) ?_ _ _ | refine Box.far ?_ (by omega) _ _ | refine Box.alloc ?_ _))
      · (repeat (first | exact Box.fresh _ _ _ rfl | exact Box.fresh _ _ _ (by simp) | exact na.out.below hb12 | exact nb.out.below hb12 | exact nc.out.below hb12 | exact box_new2 hb2 rfl | exact box_new hb2 rfl | exact box_new hb2 (size_alloc _ _) | exact hq.below hbb2 | refine Box.put (x := .bool false) (y := .slice none 0 0) ?_ _ _ | refine Box.far ?_ (by omega) _ _ | refine Box.alloc ?_ _))
      · intro q x y hq
        have hql := World.block_lt_of_cell? W _ hq.c0
        simp only at hql
        (repeat (first | exact Box.fresh _ _ _ rfl | exact Box.fresh _ _ _ (by simp) | exact na.out.below hb12 | exact nb.out.below hb12 | exact nc.out.below hb12 | exact box_new2 hb2 rfl | exact box_new hb2 rfl | exact box_new hb2 (size_alloc _ _) | exact hq.below hbb2 | refine Box.put (x := .bool false) (y := .slice none 0 0) ?_ _ _ | refine Box.far ?_ (by omega) _ _ | refine Box.alloc ?_ _))
      all_goals omega
  case rest =>
    obtain ⟨b5, b6, rfl, rfl, hS⟩ := hcut
    have h4 := hS.out.keep _ _ _ (Box.of E0.out.2.2)
    have hWb := HB.out.1
    have hbe := HB.out.2
    have f5 := hS.out.f5
    have f6 := hS.out.f6
    have hsw : w.heap.size ≤ wc.heap.size := Nat.le_trans hWb.size hS.out.below.size
    have n4 : b + 2 ≠ b5 ∧ b + 2 ≠ b6 := by omega
    have hwc := hWb.trans (hS.out.below.mono hWb.size)
    have ca := tidy_can s H.out.2.2.1
    have cb := tidy_can s' H.out.2.2.2.1
    have q1 := tdig_len l
    have q2 := tdig_len l'
    have q3 := trimN_le l l.length
    have q4 := trimN_le l' l'.length
    have r1 := H.out.2.2.2.2.1
    have r2 := H.out.2.2.2.2.2
    have L1 : (tdig l).length ≤ 100000 := by omega
    have L2 : (tdig l').length ≤ 100000 := by omega
    clear q1 q2 q3 q4 r1 r2
    have aA : Arg .u16 wc p c (tdig l) := (H.out.1.below hS.out.below).take _
    have aB : Arg .u16 wc p' c' (tdig l') := (H.out.2.1.below hS.out.below).take _
    have h5 := hS.out.h5
    have h6 := hS.out.h6
    obtain ⟨ts, hts⟩ : ∃ ts, ts = tneg s l := ⟨_, rfl⟩
    obtain ⟨ts', hts'⟩ : ∃ ts', ts' = tneg s' l' := ⟨_, rfl⟩
    rw [← hts] at ca h5
    rw [← hts'] at cb h6
    have HH := Lib.hid (And.intro hS.out.ne (And.intro n4 (And.intro hwc hbe)))
    have HC := Lib.hid (And.intro ca (And.intro cb (And.intro aA aB)))
    have HX := Lib.hid (And.intro h5 (And.intro h6 h4))
    clear h4 n4 hwc hbe hWb f5 f6 ca cb aA aB hts hts' h5 h6
    by_cases hss : ts = ts'
    · subst hss
      have T1 := Lib.hid (plus_at (R := 65536) HC.out.2.2.1.drew HC.out.2.2.2.drew HC.out.1.1.dig HC.out.2.1.1.dig (by omega) (by omega) (by decide))
      have HT := Lib.hid (And.intro HX.out.1 (And.intro HX.out.2.1 (And.intro HX.out.2.2 HH.out.2.2.1)))
      have s0 := HX.out.2.1.c0
      have zx := HT.out.1
      have zy := HT.out.2.1
      obtain ⟨x0, x1, -, -⟩ := zx
      obtain ⟨y0, y1, -, -⟩ := zy
      have dx0 : wc.drew.cell? ⟨b5, 0, none⟩ = some (.bool ts) := x0
      have dx1 : wc.drew.cell? ⟨b5, 1, none⟩ = some (.slice p (tdig l).length c) := x1
      have dy1 : wc.drew.cell? ⟨b6, 1, none⟩ = some (.slice p' (tdig l').length c') := y1
      go_wp2_with fail
      go_region_held (fun w' => w'.cell? ⟨b5, 0, none⟩ = some (.bool ts) ∧ w'.cell? ⟨b5, 1, none⟩ = some (.slice p (tdig l).length c) ∧ w'.cell? ⟨b6, 1, none⟩ = some (.slice p' (tdig l').length c')) (go_keep)
        (first
          | (go_at_call 50; refine T1.out.mono ?_; rintro e w3 ⟨v3, D, rfl, oD, dD, tD, vD, B3⟩; have B3' : Below wc.heap.size wc w3 := (Below.refl _ _).drew.trans B3; obtain ⟨z0, z1, z2, z3⟩ := HT.out.1.below B3'; obtain ⟨u0, u1, u2, u3⟩ := HT.out.2.1.below B3'; obtain ⟨p3, c3, rfl, -, -⟩ := oD.arg)
          | (go_at_call 42; obtain ⟨sg, hsg⟩ : ∃ sg, sg = (ts && decide (0 < D.length)) := ⟨_, rfl⟩; refine (signed_at _ _ _ _ _).mono ?_; rintro e w4 ⟨rfl, B4⟩; rw [← hsg]; have HSG := Lib.hid hsg; clear hsg; have B4' : Below wc.heap.size wc w4 := B3'.trans (B4.mono B3'.size); obtain ⟨m0, m1, m2, m3⟩ := HT.out.1.below B4'; obtain ⟨n0, n1, n2, n3⟩ := HT.out.2.1.below B4'; obtain ⟨r0, r1, r2, r3⟩ := HT.out.2.2.1.below B4'; have hst := Box.store (HT.out.2.2.1.below B4') (.bool sg) (.slice p3 D.length c3); obtain ⟨k5, k6⟩ := hst; have k7 := Box.first (HT.out.2.2.1.below B4') (.bool sg); have ne5 : ¬ b + 2 = b5 := HH.out.2.1.1; have ne6 : ¬ b + 2 = b6 := HH.out.2.1.2; have ne7 : ¬ b5 = b + 2 := (fun e => HH.out.2.1.1 e.symm); have ne8 : ¬ b6 = b + 2 := (fun e => HH.out.2.1.2 e.symm)))
      all_goals
        go_wp2_with fail
        refine bodyPost_ret (v := .agg #[.bool sg, .slice p3 D.length c3]) (by simp [results, Tryd.results24, go_sem, k5, k6, k7]) rfl ⟨_, rfl, ?_, ?_⟩
        · have h1 : nv 65536 ts D = nv 65536 s l + nv 65536 s' l' := (nv_plus vD).trans (by rw [HC.out.1.2, HC.out.2.1.2])
          have hsz : w.heap.size ≤ wc.drew.heap.size := HT.out.2.2.2.size
          rw [HSG.out]
          exact (isNum_of ((((oD.below B4).other (a := ⟨b + 2, 0, none⟩) _ (by intro e; have q1 := (World.ownsRow.lt oD _ e).1; have q2 : wc.drew.heap.size = wc.heap.size := rfl; have q3 := World.block_lt_of_cell? wc _ HT.out.2.2.1.c0; simp only at q1 q3; omega)).other (a := ⟨b + 2, 1, none⟩) _ (by intro e; have q1 := (World.ownsRow.lt oD _ e).1; have q2 : wc.drew.heap.size = wc.heap.size := rfl; have q3 := World.block_lt_of_cell? wc _ HT.out.2.2.1.c0; simp only at q1 q3; omega)).base hsz) dD tD h1)
        · have h2 := HT.out.2.2.2.trans (B4'.mono HT.out.2.2.2.size)
          have hbe : w.heap.size ≤ b + 2 := by have := HH.out.2.2.2; omega
          exact (h2.setCell (p := ⟨b + 2, 0, none⟩) hbe _).setCell (p := ⟨b + 2, 1, none⟩) hbe _
    · have x0 := HX.out.1.c0
      have x1 := HX.out.1.c1
      have x2 := HX.out.1.f0
      have x3 := HX.out.1.f1
      have y0 := HX.out.2.1.c0
      have y1 := HX.out.2.1.c1
      have y2 := HX.out.2.1.f0
      have y3 := HX.out.2.1.f1
      have dss : (ts == ts') = false := by simp [hss]
      have C1 := Lib.hid (compare_at HC.out.2.2.1 HC.out.2.2.2 HC.out.1.1.dig HC.out.2.1.1.dig HC.out.1.1.tidy HC.out.2.1.1.tidy)
      have HSS := Lib.hid hss
      clear hss
      go_wp2_with fail
      refine C1.out.mono ?_
      rintro e w2 ⟨rfl, B2⟩
      have X2 := HX.out.1.below B2
      have Y2 := HX.out.2.1.below B2
      have R2 := HX.out.2.2.below B2
      have hb2 := HH.out.2.2.1.trans (B2.mono hsw)
      have a2 := HC.out.2.2.1.below B2
      have b2 := HC.out.2.2.2.below B2
      have HY := Lib.hid (And.intro X2 (And.intro Y2 (And.intro R2 (And.intro hb2 (And.intro a2 b2)))))
      have HW2 := Lib.hid (hS.out.below.trans (B2.mono hS.out.below.size))
      clear X2 Y2 R2 hb2 a2 b2 B2 x0 x1 x2 x3 y0 y1 y2 y3 dss
      obtain ⟨x0, x1, x2, x3⟩ := HY.out.1
      obtain ⟨y0, y1, y2, y3⟩ := HY.out.2.1
      by_cases hlt : val 65536 (tdig l) < val 65536 (tdig l')
      · have dl : decide (sgn (val 65536 (tdig l)) (val 65536 (tdig l')) < 0) = true := by rw [sgn_lt hlt]; decide
        have ne1 : ¬ b5 = b6 := HH.out.1
        have ne2 : ¬ b6 = b5 := fun e => HH.out.1 e.symm
        clear x0 x1 y0 y1
        obtain ⟨x0, x1, x2, x3⟩ := HY.out.1
        obtain ⟨y0, y1, y2, y3⟩ := HY.out.2.1
        go_upto_region 6 with fail
        obtain ⟨w6, hw6⟩ : ∃ w6, w6 = (((w2.setCell ⟨b5, 0, none⟩ (.bool ts')).setCell ⟨b5, 1, none⟩ (.slice p' (tdig l').length c')).setCell ⟨b6, 0, none⟩ (.bool ts)).setCell ⟨b6, 1, none⟩ (.slice p (tdig l).length c) := ⟨_, rfl⟩
        rw [← hw6]
        have X6 : Box w6 b5 (.bool ts') (.slice p' (tdig l').length c') := by rw [hw6]; exact (HY.out.1.put _ _).far ne1 _ _
        have Y6 : Box w6 b6 (.bool ts) (.slice p (tdig l).length c) := by rw [hw6]; exact (HY.out.2.1.far ne2 _ _).put _ _
        have R6 : Box w6 (b + 2) (.bool false) (.slice none 0 0) := by rw [hw6]; exact (HY.out.2.2.1.far HH.out.2.1.1 _ _).far HH.out.2.1.2 _ _
        have hf5 : w.heap.size ≤ b5 := Nat.le_trans HB.out.1.size hS.out.f5
        have hf6 : w.heap.size ≤ b6 := Nat.le_trans HB.out.1.size hS.out.f6
        have hb6 : Below w.heap.size w w6 := by
          rw [hw6]
          exact (((HY.out.2.2.2.1.setCell (p := ⟨b5, 0, none⟩) hf5 _).setCell (p := ⟨b5, 1, none⟩) hf5 _).setCell (p := ⟨b6, 0, none⟩) hf6 _).setCell (p := ⟨b6, 1, none⟩) hf6 _
        have hW6 : Below W.heap.size W w6 := by
          rw [hw6]
          exact (((HW2.out.setCell (p := ⟨b5, 0, none⟩) hS.out.f5 _).setCell (p := ⟨b5, 1, none⟩) hS.out.f5 _).setCell (p := ⟨b6, 0, none⟩) hS.out.f6 _).setCell (p := ⟨b6, 1, none⟩) hS.out.f6 _
        have T1 := Lib.hid (minus_at ((H.out.2.1.below hW6).take (trimN l' l'.length)).drew ((H.out.1.below hW6).take (trimN l l.length)).drew HC.out.2.1.1.dig HC.out.1.1.dig HC.out.1.1.tidy (by show (tdig l').length ≤ _; omega) (by show val 65536 (tdig l) ≤ val 65536 (tdig l'); omega))
        have HT := Lib.hid (And.intro X6 (And.intro Y6 (And.intro R6 hb6)))
        clear hw6 X6 Y6 R6 hb6 hW6 x0 x1 x2 x3 y0 y1 y2 y3 hf5 hf6
        have zx := HT.out.1
        have zy := HT.out.2.1
        obtain ⟨x0, x1, -, -⟩ := zx
        obtain ⟨y0, y1, -, -⟩ := zy
        have dx0 : w6.drew.cell? ⟨b5, 0, none⟩ = some (.bool ts') := x0
        have dx1 : w6.drew.cell? ⟨b5, 1, none⟩ = some (.slice p' (tdig l').length c') := x1
        have dy1 : w6.drew.cell? ⟨b6, 1, none⟩ = some (.slice p (tdig l).length c) := y1
        go_wp2_with fail
        go_region_held (fun w' => w'.cell? ⟨b5, 0, none⟩ = some (.bool ts') ∧ w'.cell? ⟨b5, 1, none⟩ = some (.slice p' (tdig l').length c') ∧ w'.cell? ⟨b6, 1, none⟩ = some (.slice p (tdig l).length c)) (go_keep)
          (first
            | (go_at_call 52; refine T1.out.mono ?_; rintro e w3 ⟨v3, D, rfl, oD, dD, tD, vD, B3⟩; have B3' : Below w6.heap.size w6 w3 := (Below.refl _ _).drew.trans B3; obtain ⟨z0, z1, z2, z3⟩ := HT.out.1.below B3'; obtain ⟨u0, u1, u2, u3⟩ := HT.out.2.1.below B3'; obtain ⟨p3, c3, rfl, -, -⟩ := oD.arg)
            | (go_at_call 42; obtain ⟨sg, hsg⟩ : ∃ sg, sg = (ts' && decide (0 < D.length)) := ⟨_, rfl⟩; refine (signed_at _ _ _ _ _).mono ?_; rintro e w4 ⟨rfl, B4⟩; rw [← hsg]; have HSG := Lib.hid hsg; clear hsg; have B4' : Below w6.heap.size w6 w4 := B3'.trans (B4.mono B3'.size); obtain ⟨m0, m1, m2, m3⟩ := HT.out.1.below B4'; obtain ⟨n0, n1, n2, n3⟩ := HT.out.2.1.below B4'; obtain ⟨r0, r1, r2, r3⟩ := HT.out.2.2.1.below B4'; have hst := Box.store (HT.out.2.2.1.below B4') (.bool sg) (.slice p3 D.length c3); obtain ⟨k5, k6⟩ := hst; have k7 := Box.first (HT.out.2.2.1.below B4') (.bool sg); have ne5 : ¬ b + 2 = b5 := HH.out.2.1.1; have ne6 : ¬ b + 2 = b6 := HH.out.2.1.2; have ne7 : ¬ b5 = b + 2 := (fun e => HH.out.2.1.1 e.symm); have ne8 : ¬ b6 = b + 2 := (fun e => HH.out.2.1.2 e.symm)))
        all_goals
          go_wp2_with fail
          refine bodyPost_ret (v := .agg #[.bool sg, .slice p3 D.length c3]) (by simp [results, Tryd.results24, go_sem, k5, k6, k7]) rfl ⟨_, rfl, ?_, ?_⟩
          · have h1 : nv 65536 ts' D = nv 65536 s l + nv 65536 s' l' := (nv_minus (fun e => HSS.out e.symm) vD).trans (by show nv 65536 ts' (tdig l') + nv 65536 ts (tdig l) = _; rw [HC.out.1.2, HC.out.2.1.2, Int.add_comm])
            have hsz : w.heap.size ≤ w6.drew.heap.size := HT.out.2.2.2.size
            rw [HSG.out]
            exact (isNum_of ((((oD.below B4).other (a := ⟨b + 2, 0, none⟩) _ (by intro e; have q1 := (World.ownsRow.lt oD _ e).1; have q2 : w6.drew.heap.size = w6.heap.size := rfl; have q3 := World.block_lt_of_cell? w6 _ HT.out.2.2.1.c0; simp only at q1 q3; omega)).other (a := ⟨b + 2, 1, none⟩) _ (by intro e; have q1 := (World.ownsRow.lt oD _ e).1; have q2 : w6.drew.heap.size = w6.heap.size := rfl; have q3 := World.block_lt_of_cell? w6 _ HT.out.2.2.1.c0; simp only at q1 q3; omega)).base hsz) dD tD h1)
          · have h2 := HT.out.2.2.2.trans (B4'.mono HT.out.2.2.2.size)
            have hbe : w.heap.size ≤ b + 2 := by have := HH.out.2.2.2; omega
            exact (h2.setCell (p := ⟨b + 2, 0, none⟩) hbe _).setCell (p := ⟨b + 2, 1, none⟩) hbe _
      · have dl : decide (sgn (val 65536 (tdig l)) (val 65536 (tdig l')) < 0) = false := by
          rw [decide_eq_false_iff_not]
          unfold sgn
          rw [if_neg hlt]
          split <;> omega
        have T1 := Lib.hid (minus_at HY.out.2.2.2.2.1.drew HY.out.2.2.2.2.2.drew HC.out.1.1.dig HC.out.2.1.1.dig HC.out.2.1.1.tidy (by omega) (by omega))
        have HT := Lib.hid (And.intro HY.out.1 (And.intro HY.out.2.1 (And.intro HY.out.2.2.1 HY.out.2.2.2.1)))
        clear x0 x1 y0 y1
        have zx := HT.out.1
        have zy := HT.out.2.1
        obtain ⟨x0, x1, -, -⟩ := zx
        obtain ⟨y0, y1, -, -⟩ := zy
        have dx0 : w2.drew.cell? ⟨b5, 0, none⟩ = some (.bool ts) := x0
        have dx1 : w2.drew.cell? ⟨b5, 1, none⟩ = some (.slice p (tdig l).length c) := x1
        have dy1 : w2.drew.cell? ⟨b6, 1, none⟩ = some (.slice p' (tdig l').length c') := y1
        go_wp2_with fail
        go_region_held (fun w' => w'.cell? ⟨b5, 0, none⟩ = some (.bool ts) ∧ w'.cell? ⟨b5, 1, none⟩ = some (.slice p (tdig l).length c) ∧ w'.cell? ⟨b6, 1, none⟩ = some (.slice p' (tdig l').length c')) (go_keep)
          (first
            | (go_at_call 52; refine T1.out.mono ?_; rintro e w3 ⟨v3, D, rfl, oD, dD, tD, vD, B3⟩; have B3' : Below w2.heap.size w2 w3 := (Below.refl _ _).drew.trans B3; obtain ⟨z0, z1, z2, z3⟩ := HT.out.1.below B3'; obtain ⟨u0, u1, u2, u3⟩ := HT.out.2.1.below B3'; obtain ⟨p3, c3, rfl, -, -⟩ := oD.arg)
            | (go_at_call 42; obtain ⟨sg, hsg⟩ : ∃ sg, sg = (ts && decide (0 < D.length)) := ⟨_, rfl⟩; refine (signed_at _ _ _ _ _).mono ?_; rintro e w4 ⟨rfl, B4⟩; rw [← hsg]; have HSG := Lib.hid hsg; clear hsg; have B4' : Below w2.heap.size w2 w4 := B3'.trans (B4.mono B3'.size); obtain ⟨m0, m1, m2, m3⟩ := HT.out.1.below B4'; obtain ⟨n0, n1, n2, n3⟩ := HT.out.2.1.below B4'; obtain ⟨r0, r1, r2, r3⟩ := HT.out.2.2.1.below B4'; have hst := Box.store (HT.out.2.2.1.below B4') (.bool sg) (.slice p3 D.length c3); obtain ⟨k5, k6⟩ := hst; have k7 := Box.first (HT.out.2.2.1.below B4') (.bool sg); have ne5 : ¬ b + 2 = b5 := HH.out.2.1.1; have ne6 : ¬ b + 2 = b6 := HH.out.2.1.2; have ne7 : ¬ b5 = b + 2 := (fun e => HH.out.2.1.1 e.symm); have ne8 : ¬ b6 = b + 2 := (fun e => HH.out.2.1.2 e.symm)))
        all_goals
          go_wp2_with fail
          refine bodyPost_ret (v := .agg #[.bool sg, .slice p3 D.length c3]) (by simp [results, Tryd.results24, go_sem, k5, k6, k7]) rfl ⟨_, rfl, ?_, ?_⟩
          · have h1 : nv 65536 ts D = nv 65536 s l + nv 65536 s' l' := (nv_minus HSS.out vD).trans (by rw [HC.out.1.2, HC.out.2.1.2])
            have hsz : w.heap.size ≤ w2.drew.heap.size := HT.out.2.2.2.size
            rw [HSG.out]
            exact (isNum_of ((((oD.below B4).other (a := ⟨b + 2, 0, none⟩) _ (by intro e; have q1 := (World.ownsRow.lt oD _ e).1; have q2 : w2.drew.heap.size = w2.heap.size := rfl; have q3 := World.block_lt_of_cell? w2 _ HT.out.2.2.1.c0; simp only at q1 q3; omega)).other (a := ⟨b + 2, 1, none⟩) _ (by intro e; have q1 := (World.ownsRow.lt oD _ e).1; have q2 : w2.drew.heap.size = w2.heap.size := rfl; have q3 := World.block_lt_of_cell? w2 _ HT.out.2.2.1.c0; simp only at q1 q3; omega)).base hsz) dD tD h1)
          · have h2 := HT.out.2.2.2.trans (B4'.mono HT.out.2.2.2.size)
            have hbe : w.heap.size ≤ b + 2 := by have := HH.out.2.2.2; omega
            exact (h2.setCell (p := ⟨b + 2, 0, none⟩) hbe _).setCell (p := ⟨b + 2, 1, none⟩) hbe _
end Go.Proofs.YtihgefllmkicaaaDoor
