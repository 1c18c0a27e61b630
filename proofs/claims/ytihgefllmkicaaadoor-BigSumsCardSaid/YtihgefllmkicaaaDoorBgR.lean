/- Contracts: order of numbers. Conditions: the digits lie as told. -/
import Derived.Test.YtihgefllmkicaaaDoorBgP
import Derived.Deep.RegionHeld3
import Derived.Deep.DeepCutAuto
import Derived.Deep.CutBlock
namespace Go.Proofs.YtihgefllmkicaaaDoor
open Go.RowKit Bg
set_option linter.unusedVariables false
set_option linter.unusedSimpArgs false

set_option maxRecDepth 100000 in
set_option maxHeartbeats 60000000 in
theorem cmp_at {w : World} {p p' : Option Addr} {c c' : Nat} {l l' : List Int} {s s' : Bool} (a1 : Arg .u16 w p c l) (a2 : Arg .u16 w p' c' l') (d1 : Dig 65536 l) (d2 : Dig 65536 l') (n1 : l.length ≤ 100000) (n2 : l'.length ≤ 100000) :
    Calls Tryd.prog 27 #[.agg #[.bool s, .slice p l.length c], .agg #[.bool s', .slice p' l'.length c']] w fun e w' => e = .returned (.int .i64 (sgn (nv 65536 s l) (nv 65536 s' l'))) ∧ Below w.heap.size w w' := by
  obtain ⟨W, hW, hB, hS, h0, h1⟩ := two_boxes w (.bool s) (.slice p l.length c) (.bool s') (.slice p' l'.length c')
  have k1 : ∀ w', Below W.heap.size W w' → Calls Tryd.prog 41 #[.agg #[.bool s, .slice p l.length c]] w' _ := fun w' hb => tidied_at s ((a1.below hB).below hb)
  have k2 : ∀ w', Below W.heap.size W w' → Calls Tryd.prog 41 #[.agg #[.bool s', .slice p' l'.length c']] w' _ := fun w' hb => tidied_at s' ((a2.below hB).below hb)
  have H := Lib.hid (And.intro (a1.below hB) (And.intro (a2.below hB) (And.intro d1 (And.intro d2 (And.intro n1 n2)))))
  clear a1 a2 d1 d2
  obtain ⟨b, hb⟩ : ∃ b, b = w.heap.size := ⟨_, rfl⟩
  rw [← hb] at h0 h1 hS
  have K1 := Lib.hid k1
  have K2 := Lib.hid k2
  have E0 := Lib.hid (And.intro h0 h1)
  have E1 := Lib.hid (And.intro (Box.of h0) (Box.of h1))
  have e1 : W.heap.size = b + 1 + 1 := hS
  have HB := Lib.hid (And.intro hB hb)
  go_enter Tryd.func27, Tryd.ntmps27
  go_upto_region 1 with fail
  rw [← hb]
  rw [hb, ← hW, ← hb]
  clear k1 k2 hW hB h0 h1 hS hb n1 n2
  go_cut [5, 6] (fun x y wx => ∃ b5 b6, x = .pointer (some ⟨b5, 0, none⟩) ∧ y = .pointer (some ⟨b6, 0, none⟩) ∧ Hid (Both W wx b5 b6 (.bool (tneg s l)) (.slice p (tdig l).length c) (.bool (tneg s' l')) (.slice p' (tdig l').length c')))
  case first =>
    go_region_held3 (fun w' => w'.cell? ⟨b, 0, none⟩ = some (.bool s) ∧ w'.cell? ⟨b, 1, none⟩ = some (.slice p l.length c) ∧ w'.cell? ⟨b + 1, 0, none⟩ = some (.bool s') ∧ w'.cell? ⟨b + 1, 1, none⟩ = some (.slice p' l'.length c')) (first | exact four_kept E1.out (by (repeat (first | exact Below.refl _ _ | exact hbb2 | exact hbb | refine Below.drew ?_ | refine Below.al ?_ _ | refine below_set ?_ _ (by omega)))))
      (first
        | (go_at_call 41; first | (have hbbx := hbb; refine (K2.out _ ?_).mono ?_; (repeat (first | exact Below.refl _ _ | exact hbb2 | exact hbb | refine Below.drew ?_ | refine Below.al ?_ _ | refine below_set ?_ _ (by omega))); rintro e w2 ⟨rfl, hb2⟩; have hbb2 := below_tr (W := W) hb2 (by (repeat (first | exact Below.refl _ _ | exact hbb2 | exact hbb | refine Below.drew ?_ | refine Below.al ?_ _ | refine below_set ?_ _ (by omega)))); have hb12 := below_tr (W := w1) hb2 (by repeat (first | exact Below.refl _ _ | refine Below.al ?_ _)); have hz12 := hb2.size; (try simp only [size_alloc] at hz12); have hz2 := hbb2.size; rw [e1] at hz2; (try (have p0 : ¬ w1.heap.size = w2.heap.size := (by omega); have p1 : ¬ w2.heap.size = w1.heap.size := (by omega))); (try (have p4 : ¬ b + 1 + 1 = w2.heap.size := (by omega); have p5 : ¬ w2.heap.size = b + 1 + 1 := (by omega))); (try (have p6 : ¬ b + 1 + 1 = w1.heap.size := (by omega); have p7 : ¬ w1.heap.size = b + 1 + 1 := (by omega))); (try (have hm := na.out.below hb12; have maO0 := fun O => (hm.alloc O).c0; have maO1 := fun O => (hm.alloc O).c1; have maO2 := fun O => (hm.alloc O).f0; have maO3 := fun O => (hm.alloc O).f1; obtain ⟨ma0, ma1, ma2, ma3⟩ := hm)); (try (have hm := nb.out.below hb12; have mbO0 := fun O => (hm.alloc O).c0; have mbO1 := fun O => (hm.alloc O).c1; have mbO2 := fun O => (hm.alloc O).f0; have mbO3 := fun O => (hm.alloc O).f1; obtain ⟨mb0, mb1, mb2, mb3⟩ := hm)); (try (have hm := nc.out.below hb12; have mcO0 := fun O => (hm.alloc O).c0; have mcO1 := fun O => (hm.alloc O).c1; have mcO2 := fun O => (hm.alloc O).f0; have mcO3 := fun O => (hm.alloc O).f1; obtain ⟨mc0, mc1, mc2, mc3⟩ := hm)); (try (have hm := box_new2 hb2 (n := w1.heap.size) rfl; have mdO0 := fun O => (hm.alloc O).c0; have mdO1 := fun O => (hm.alloc O).c1; have mdO2 := fun O => (hm.alloc O).f0; have mdO3 := fun O => (hm.alloc O).f1; obtain ⟨md0, md1, md2, md3⟩ := hm)); (try (have hm := box_new hb2 (n := w1.heap.size) rfl; have meO0 := fun O => (hm.alloc O).c0; have meO1 := fun O => (hm.alloc O).c1; have meO2 := fun O => (hm.alloc O).f0; have meO3 := fun O => (hm.alloc O).f1; obtain ⟨me0, me1, me2, me3⟩ := hm)); (try (have hm := box_new hb2 (n := w1.heap.size + 1) (size_alloc _ _); have mfO0 := fun O => (hm.alloc O).c0; have mfO1 := fun O => (hm.alloc O).c1; have mfO2 := fun O => (hm.alloc O).f0; have mfO3 := fun O => (hm.alloc O).f1; obtain ⟨mf0, mf1, mf2, mf3⟩ := hm))) | (refine (K1.out _ ?_).mono ?_; (repeat (first | exact Below.refl _ _ | exact hbb2 | exact hbb | refine Below.drew ?_ | refine Below.al ?_ _ | refine below_set ?_ _ (by omega))); rintro e w1 ⟨rfl, hb⟩; have hbb := below_tr (W := W) hb (by (repeat (first | exact Below.refl _ _ | exact hbb2 | exact hbb | refine Below.drew ?_ | refine Below.al ?_ _ | refine below_set ?_ _ (by omega)))); have hz1 := hbb.size; rw [e1] at hz1; (try (have na := Lib.hid (box_new2 (Below.undrew hb) (n := b + 1 + 1) e1); obtain ⟨na0, na1, na2, na3⟩ := na.out)); (try (have nb := Lib.hid (box_new (Below.undrew hb) (n := b + 1 + 1) e1); obtain ⟨nb0, nb1, nb2, nb3⟩ := nb.out)); (try (have nc := Lib.hid (box_new (Below.undrew hb) (n := b + 1 + 1 + 1) (by rw [size_alloc, e1])); obtain ⟨nc0, nc1, nc2, nc3⟩ := nc.out)); (try (have p6 : ¬ b + 1 + 1 = w1.heap.size := (by have := hb.size; simp only [size_drew, size_alloc, e1] at this; omega); have p7 : ¬ w1.heap.size = b + 1 + 1 := (by omega))))))
    all_goals
      go_wp2_with fail
      go_meet
      refine ⟨_, _, rfl, rfl, ?_⟩
      refine Both.mk ?_ ?_ ?_ ?_ ?_ ?_ ?_
      · (repeat (first | exact Below.refl _ _ | exact hbb2 | exact hbb | refine Below.drew ?_ | refine Below.al ?_ _ | refine below_set ?_ _ (by omega)))
      · (repeat (first | exact Box.fresh _ _ _ rfl | exact Box.fresh _ _ _ (by simp) | exact na.out.below hb12 | exact nb.out.below hb12 | exact nc.out.below hb12 | exact box_new2 hb2 rfl | exact box_new hb2 rfl | exact box_new hb2 (size_alloc _ _) | exact hq.below hbb2 | refine Box.put (x := .bool false) (y := .slice none 0 0) ?_ _ _ | refine Box.far ?_ (by omega) _ _ | refine Box.alloc ?_ _))
      · (repeat (first | exact Box.fresh _ _ _ rfl | exact Box.fresh _ _ _ (by simp) | exact na.out.below hb12 | exact nb.out.below hb12 | exact nc.out.below hb12 | exact box_new2 hb2 rfl | exact box_new hb2 rfl | exact box_new hb2 (size_alloc _ _) | exact hq.below hbb2 | refine Box.put (x := .bool false) (y := .slice none 0 0) ?_ _ _ | refine Box.far ?_ (by omega) _ _ | refine Box.alloc ?_ _))
      · intro q x y hq
        have hql := World.block_lt_of_cell? W _ hq.c0
        simp only at hql
        (repeat (first | exact Box.fresh _ _ _ rfl | exact Box.fresh _ _ _ (by simp) | exact na.out.below hb12 | exact nb.out.below hb12 | exact nc.out.below hb12 | exact box_new2 hb2 rfl | exact box_new hb2 rfl | exact box_new hb2 (size_alloc _ _) | exact hq.below hbb2 | refine Box.put (x := .bool false) (y := .slice none 0 0) ?_ _ _ | refine Box.far ?_ (by omega) _ _ | refine Box.alloc ?_ _))
      all_goals omega
  case rest =>
    obtain ⟨b5, b6, rfl, rfl, hS⟩ := hcut
    have hWb := HB.out.1
    have hwc := hWb.trans (hS.out.below.mono hWb.size)
    obtain ⟨x0, x1, -, -⟩ := hS.out.h5
    obtain ⟨y0, y1, -, -⟩ := hS.out.h6
    have ca := tidy_can s H.out.2.2.1
    have cb := tidy_can s' H.out.2.2.2.1
    have aA : Arg .u16 wc p c (tdig l) := (H.out.1.below hS.out.below).take _
    have aB : Arg .u16 wc p' c' (tdig l') := (H.out.2.1.below hS.out.below).take _
    have hsg := sgn_signs (show (1 : Int) ≤ 65536 by decide) ca.1 cb.1
    rw [ca.2, cb.2] at hsg
    have C1 := Lib.hid (compare_at aA aB ca.1.dig cb.1.dig ca.1.tidy cb.1.tidy)
    have C2 := Lib.hid (compare_at aB aA cb.1.dig ca.1.dig cb.1.tidy ca.1.tidy)
    obtain ⟨ts, hts⟩ : ∃ ts, ts = tneg s l := ⟨_, rfl⟩
    obtain ⟨ts', hts'⟩ : ∃ ts', ts' = tneg s' l' := ⟨_, rfl⟩
    rw [← hts] at x0 hsg
    rw [← hts'] at y0 hsg
    have HS := Lib.hid (And.intro hsg hwc)
    clear ca cb aA aB hts hts' hsg hWb hwc
    cases ts <;> cases ts'
    · go_wp2_with fail
      refine C1.out.mono ?_
      rintro e w2 ⟨rfl, B2⟩
      go_wp2_with fail
      go_ret
      exact ⟨ret_int (by rw [HS.out.1]; simp), HS.out.2.trans (B2.mono HS.out.2.size)⟩
    · go_wp2_with fail
      go_ret
      exact ⟨ret_int (by rw [HS.out.1]; simp), HS.out.2⟩
    · go_wp2_with fail
      go_ret
      exact ⟨ret_int (by rw [HS.out.1]; simp), HS.out.2⟩
    · go_wp2_with fail
      refine C2.out.mono ?_
      rintro e w2 ⟨rfl, B2⟩
      go_wp2_with fail
      go_ret
      exact ⟨ret_int (by rw [HS.out.1]; simp), HS.out.2.trans (B2.mono HS.out.2.size)⟩
end Go.Proofs.YtihgefllmkicaaaDoor
