/- Contracts: a product by three products of halves. Conditions: the rows lie as told; smaller products are as told. -/
import Derived.Test.YtihgefllmkicaaaDoorBgI
import Derived.Deep.RegionWith
namespace Go.Proofs.YtihgefllmkicaaaDoor
open Go.RowKit Bg
set_option linter.unusedVariables false
set_option linter.unusedSimpArgs false


structure Prod (w w' : World) (v : Value) (la lb L : List Int) : Prop where
  own : Own 66 .u64 w.heap.size w' v L
  dig : Dig M64 L
  len : 0 < la.length → 0 < lb.length → L.length + 1 = la.length + lb.length
  few : L.length ≤ la.length + lb.length
  eqm : Eqm (cf L) (cv la (cf lb))
  below : Below w.heap.size w w'
def ProdOK (N : Nat) : Prop := ∀ (w : World) (pa pb : Option Addr) (ca cb na nb : Nat) (la lb : List Int), na = la.length → nb = lb.length → la.length + lb.length < N → Arg .u64 w pa ca la → Arg .u64 w pb cb lb → Dig M64 la → Dig M64 lb → la.length ≤ 1000000 → lb.length ≤ 1000000 →
  Calls Tryd.prog 68 #[.slice pa na ca, .slice pb nb cb] w fun e w' => ∃ v L, e = .returned v ∧ Prod w w' v la lb L
theorem Arg.some_drop {k : IntKind} {w : World} {b o c : Nat} {l : List Int} (h : Arg k w (some ⟨b, o, none⟩) c l) {n : Nat} (hn : n ≤ l.length) : Arg k w (some ⟨b, o + n, none⟩) (c - n) (l.drop n) := by
  have h1 := h.drop hn
  have e0 : (some (⟨b, o, none⟩ : Addr)).map (fun a => a.add n) = some ⟨b, o + n, none⟩ := congrArg some (add_at b o n)
  rw [e0] at h1
  exact h1
theorem Own.some_arg {E : TypeId} {k : IntKind} {B : Nat} {w : World} {g n c : Nat} {l : List Int} (h : Own E k B w (.slice (some ⟨g, 0, none⟩) n c) l) : Arg k w (some ⟨g, 0, none⟩) c l := by
  obtain ⟨p, c', hv, ha, -⟩ := h.arg
  cases hv
  exact ha
theorem Own.grown {E : TypeId} {k : IntKind} {B : Nat} {w w' : World} {g n c : Nat} {l : List Int} {row : Option Nat} (h : Own E k B w (.slice (some ⟨g, 0, none⟩) n c) l) (hg : w.grownBy w' row) (hne : some g ≠ row) : Own E k B w' (.slice (some ⟨g, 0, none⟩) n c) l := World.ownsRow.kept h hg (Or.inr hne)
theorem sum_list {a b : List Int} {h : Nat} (ha : a.length ≤ h) (hb : b.length ≤ h) : ∃ f : List Int, ∀ k, cf f k = cf a k + cf b k :=
  ⟨(List.range h).map fun k => cf a k + cf b k, fun k => by
    rw [cf_map_range]
    split
    · rfl
    · rw [cf_beyond (by omega), cf_beyond (by omega)]; rfl⟩
theorem Eqm.neg {F : Nat → Int} : Eqm (fun k => (M64 - 1) * F k) (fun k => -F k) := ⟨F, fun k => by
  show (M64 - 1) * F k = -F k + M64 * F k
  rw [Int.sub_mul, Int.one_mul]; omega⟩
theorem kara {la lb f g Mid L0 L1 S : List Int} {h : Nat} (ha : h ≤ la.length) (hb : h ≤ lb.length) (ha2 : la.length ≤ 2 * h) (hb2 : lb.length ≤ 2 * h)
    (hf : Eqm (cf f) (fun k => cf (la.take h) k + cf (la.drop h) k)) (hg : Eqm (cf g) (fun k => cf (lb.take h) k + cf (lb.drop h) k))
    (hM : Eqm (cf Mid) (cv f (cf g))) (h0 : Eqm (cf L0) (cv (la.take h) (cf (lb.take h)))) (h1 : Eqm (cf L1) (cv (la.drop h) (cf (lb.drop h))))
    (l0 : L0.length ≤ Mid.length) (l1 : L1.length ≤ Mid.length) (s0 : L0.length ≤ S.length) (s1 : h + Mid.length ≤ S.length) (s2 : 2 * h + L1.length ≤ S.length) :
    Eqm (cf (addL (addL (addL S 0 L0 1) h (addL (addL Mid 0 L0 18446744073709551615) 0 L1 18446744073709551615) 1) (2 * h) L1 1)) (fun k => cf S k + cv la (cf lb) k) := by
  obtain ⟨f', hf'⟩ := sum_list (a := la.take h) (b := la.drop h) (h := h) (by rw [List.length_take]; omega) (by rw [List.length_drop]; omega)
  obtain ⟨g', hg'⟩ := sum_list (a := lb.take h) (b := lb.drop h) (h := h) (by rw [List.length_take]; omega) (by rw [List.length_drop]; omega)
  have eM : Eqm (cf Mid) (cv f' (cf g')) := hM.trans (Eqm.cv2 (hf.trans (Eqm.of_eq fun k => (hf' k).symm)) (hg.trans (Eqm.of_eq fun k => (hg' k).symm)))
  have m1 := addL_eqm (S := Mid) (A := L0) (off := 0) (n := 18446744073709551615) (by omega)
  have m2 := addL_eqm (S := addL Mid 0 L0 18446744073709551615) (A := L1) (off := 0) (n := 18446744073709551615) (by rw [addL_len]; omega)
  have q1 := addL_eqm (S := S) (A := L0) (off := 0) (n := 1) (by omega)
  have q2 := addL_eqm (S := addL S 0 L0 1) (A := addL (addL Mid 0 L0 18446744073709551615) 0 L1 18446744073709551615) (off := h) (n := 1) (by rw [addL_len, addL_len, addL_len]; omega)
  have q3 := addL_eqm (S := addL (addL S 0 L0 1) h (addL (addL Mid 0 L0 18446744073709551615) 0 L1 18446744073709551615) 1) (A := L1) (off := 2 * h) (n := 1) (by rw [addL_len, addL_len]; omega)
  have n0 : Eqm (fun k => 18446744073709551615 * sh 0 (cf L0) k) (fun k => -cv (la.take h) (cf (lb.take h)) k) := ((h0.sh 0).mul 18446744073709551615).trans (Eqm.neg.trans (Eqm.of_eq fun k => by rw [sh_zero]))
  have n1 : Eqm (fun k => 18446744073709551615 * sh 0 (cf L1) k) (fun k => -cv (la.drop h) (cf (lb.drop h)) k) := ((h1.sh 0).mul 18446744073709551615).trans (Eqm.neg.trans (Eqm.of_eq fun k => by rw [sh_zero]))
  have em := m2.trans ((m1.trans (eM.add n0)).add n1)
  have es := q3.trans ((q2.trans ((q1.trans ((Eqm.refl (cf S)).add ((h0.sh 0).mul 1))).add ((em.sh h).mul 1))).add ((h1.sh (2 * h)).mul 1))
  refine es.trans (Eqm.of_eq fun k => ?_)
  have hv := cv_halves ha hb hf' hg' k
  rw [hv]
  have e1 : sh 0 (cv (la.take h) (cf (lb.take h))) k = cv (la.take h) (cf (lb.take h)) k := sh_zero _ k
  have e2 : sh h (fun k => cv f' (cf g') k + -cv (la.take h) (cf (lb.take h)) k + -cv (la.drop h) (cf (lb.drop h)) k) k = sh h (fun k => cv f' (cf g') k - cv (la.take h) (cf (lb.take h)) k - cv (la.drop h) (cf (lb.drop h)) k) k := sh_congr h (fun k => by omega) k
  show cf S k + 1 * sh 0 (cv (la.take h) (cf (lb.take h))) k + 1 * sh h (fun k => cv f' (cf g') k + -cv (la.take h) (cf (lb.take h)) k + -cv (la.drop h) (cf (lb.drop h)) k) k + 1 * sh (2 * h) (cv (la.drop h) (cf (lb.drop h))) k = _
  rw [e1, e2]
  omega
set_option maxRecDepth 100000 in
set_option maxHeartbeats 4000000 in
theorem halves_at {N : Nat} (hp : ProdOK N) {w : World} {B G n h ba oa ca bb ob cb : Nat} {S la lb : List Int} (ho : Own 66 .u64 B w (.slice (some ⟨G, 0, none⟩) n n) S) (hS : Dig M64 S)
    (a1 : Arg .u64 w (some ⟨ba, oa, none⟩) ca la) (a2 : Arg .u64 w (some ⟨bb, ob, none⟩) cb lb) (d1 : Dig M64 la) (d2 : Dig M64 lb) (n1 : ba ≠ G) (n2 : bb ≠ G)
    (hn : n + 1 = la.length + lb.length) (hN : la.length + lb.length ≤ N) (l1 : la.length ≤ 1000000) (l2 : lb.length ≤ 1000000) (hh : la.length ≤ 2 * h) (hh' : 2 * h ≤ la.length + 1) (hla : h < la.length) (hlb : h < lb.length) (h2 : 2 ≤ h) (hba : lb.length ≤ la.length) :
    Calls Tryd.prog 79 #[.slice (some ⟨G, 0, none⟩) n n, .slice (some ⟨ba, oa, none⟩) la.length ca, .slice (some ⟨bb, ob, none⟩) lb.length cb, .int .i64 h] w fun e w' => e = .returned (.tuple #[]) ∧ ∃ S', Own 66 .u64 B w' (.slice (some ⟨G, 0, none⟩) n n) S' ∧ Dig M64 S' ∧ Eqm (cf S') (fun k => cf S k + cv la (cf lb) k) ∧ w.grownBy w' (some G) := by
  have le1 := a1.le
  have mx1 := a1.max
  have le2 := a2.le
  have mx2 := a2.max
  have ta : (la.take h).length = h := by rw [List.length_take]; omega
  have tb : (lb.take h).length = h := by rw [List.length_take]; omega
  have da : (la.drop h).length = la.length - h := List.length_drop
  have db : (lb.drop h).length = lb.length - h := List.length_drop
  have hlow : ∀ w', Below w.heap.size w w' → Calls Tryd.prog 68 #[.slice (some ⟨ba, oa, none⟩) h ca, .slice (some ⟨bb, ob, none⟩) h cb] w' fun e w'' => ∃ v L, e = .returned v ∧ Prod w' w'' v (la.take h) (lb.take h) L := fun w' hb => hp w' _ _ _ _ _ _ _ _ ta.symm tb.symm (by omega) ((a1.below hb).take h) ((a2.below hb).take h) (d1.take h) (d2.take h) (by omega) (by omega)
  have hhigh : ∀ w', Below w.heap.size w w' → Calls Tryd.prog 68 #[.slice (some ⟨ba, oa + h, none⟩) (la.length - h) (ca - h), .slice (some ⟨bb, ob + h, none⟩) (lb.length - h) (cb - h)] w' fun e w'' => ∃ v L, e = .returned v ∧ Prod w' w'' v (la.drop h) (lb.drop h) L := fun w' hb => hp w' _ _ _ _ _ _ _ _ da.symm db.symm (by omega) ((a1.below hb).some_drop (Nat.le_of_lt hla)) ((a2.below hb).some_drop (Nat.le_of_lt hlb)) (d1.drop h) (d2.drop h) (by omega) (by omega)
  have f1 : (h : Int) ≤ ca := by omega
  have f2 : (h : Int) ≤ cb := by omega
  have f3 : (h : Int) ≤ (la.length : Int) := by omega
  have f4 : (h : Int) ≤ (lb.length : Int) := by omega
  have f5 : ((la.length : Int) - h).toNat = la.length - h := by omega
  have f6 : ((lb.length : Int) - h).toNat = lb.length - h := by omega
  have f7 : ¬ ca = h := by omega
  have f8 : ¬ cb = h := by omega
  have H := Lib.hid (And.intro ho (And.intro hS (And.intro a1 (And.intro a2 (And.intro d1 (And.intro d2 (And.intro n1 n2)))))))
  have HL := Lib.hid hlow
  have HH := Lib.hid hhigh
  have HT := Lib.hid (And.intro ta (And.intro tb (And.intro da db)))
  clear ho hS a1 a2 d1 d2 n1 n2 hlow hhigh ta tb da db
  go_enter Tryd.func79, Tryd.ntmps79
  go_wp2_with fail
  go_region_with (first
    | (go_at_call 68; refine (HL.out w.drew (Below.refl _ _).drew).mono ?_; rintro e w1 ⟨v0, L0, rfl, P0⟩))
  have B1 : Below w.heap.size w w1 := (Below.refl _ _).drew.trans P0.below
  have k0 := P0.len (by rw [HT.out.1]; omega) (by rw [HT.out.2.1]; omega)
  rw [HT.out.1, HT.out.2.1] at k0
  obtain ⟨g0, c0, rfl, g01, g02, g03, g04⟩ := P0.own.at (by omega)
  have HP0 := Lib.hid P0
  have HB1 := Lib.hid B1
  have HH1 := Lib.hid (HH.out w1.drew B1.drew)
  have g01' : w.heap.size ≤ g0 := g01
  clear P0 B1 g01
  go_wp2_with fail
  go_region_with (first
    | (go_at_call 68; refine HH1.out.mono ?_; rintro e w2 ⟨v1, L1, rfl, P1⟩))
  have B2 : Below w1.heap.size w1 w2 := (Below.refl _ _).drew.trans P1.below
  have k1 := P1.len (by rw [HT.out.2.2.1]; omega) (by rw [HT.out.2.2.2]; omega)
  rw [HT.out.2.2.1, HT.out.2.2.2] at k1
  obtain ⟨g1, c1, rfl, g11, g12, g13, g14⟩ := P1.own.at (by omega)
  have g11' : w1.heap.size ≤ g1 := g11
  have B02 := HB1.out.trans (B2.mono HB1.out.size)
  have HF1 := Lib.hid (folded_at (H.out.2.2.1.below B02) H.out.2.2.2.2.1 (by omega) (by omega) hla (by omega))
  have HP1 := Lib.hid P1
  have HB2 := Lib.hid (And.intro B2 B02)
  clear P1 B2 B02 g11
  go_wp2_with fail
  refine HF1.out.mono ?_
  rintro e w3 ⟨vf, f, rfl, of1, lf, df, ef, B3⟩
  have B03 := HB2.out.2.trans (B3.mono HB2.out.2.size)
  have HF2 := Lib.hid (folded_at (H.out.2.2.2.1.below B03) H.out.2.2.2.2.2.1 (by omega) (by omega) hlb (by omega))
  have HQ1 := Lib.hid (And.intro of1 (And.intro df (And.intro ef (And.intro B3 B03))))
  clear of1 df ef B3 B03
  go_wp2_with fail
  refine HF2.out.mono ?_
  rintro e w4 ⟨vg, g, rfl, of2, lg, dg, eg, B4⟩
  obtain ⟨gf, cf1, rfl, gf1, gf2, -, -⟩ := HQ1.out.1.at (by omega)
  obtain ⟨gg, cg1, rfl, gg1, gg2, -, -⟩ := of2.at (by omega)
  have B04 := HQ1.out.2.2.2.2.trans (B4.mono HQ1.out.2.2.2.2.size)
  have HM := Lib.hid (hp w4 _ _ _ _ h h f g lf.symm lg.symm (by omega) (HQ1.out.1.below B4).some_arg of2.some_arg HQ1.out.2.1 dg (by omega) (by omega))
  have HQ2 := Lib.hid (And.intro dg (And.intro eg (And.intro B4 B04)))
  clear of2 dg eg B4 B04
  go_wp2_with fail
  refine HM.out.mono ?_
  rintro e w5 ⟨vm, Mid, rfl, PM⟩
  have km := PM.len (by omega) (by omega)
  obtain ⟨gm, cm, rfl, gm1, gm2, gm3, gm4⟩ := PM.own.at (by omega)
  -- all that lies in w5
  have z2 := HB2.out.1.size
  have z3 := HQ1.out.2.2.2.1.size
  have z4 := HQ2.out.2.2.1.size
  have z0 := HB1.out.size
  have zG : G < w.heap.size := H.out.1.lt.2
  have B35 := HQ1.out.2.2.2.1.trans ((HQ2.out.2.2.1.mono z3).trans (PM.below.mono (by omega)))
  have B15 := HB2.out.1.trans (B35.mono z2)
  have B05 := HB1.out.trans (B15.mono z0)
  have oL : Own 66 .u64 w.heap.size w5 (.slice (some ⟨g0, 0, none⟩) L0.length c0) L0 := HP0.out.own.below B15
  have oH : Own 66 .u64 w1.heap.size w5 (.slice (some ⟨g1, 0, none⟩) L1.length c1) L1 := HP1.out.own.below B35
  have oS : Own 66 .u64 B w5 (.slice (some ⟨G, 0, none⟩) n n) S := H.out.1.below B05
  have kS : S.length = n := oS.len.symm
  have A1 := addTimes_at PM.own oL.some_arg (off := 0) (m := Mid.length) (cp := cm) (x := 18446744073709551615) (fun b' o' he => by cases he; intro e; cases e; omega) PM.dig HP0.out.dig (by decide) (by omega) (by omega) gm4 (by omega)
  have HA1 := Lib.hid A1
  have HP := Lib.hid PM
  have HO := Lib.hid (And.intro oL (And.intro oH (And.intro oS B05)))
  clear A1 PM oL oH oS B05 B15 B35
  go_wp2_with fail
  refine HA1.out.mono ?_
  rintro e w6 ⟨rfl, om1, G6⟩
  have oL := HO.out.1.grown G6 (by intro e; cases e; omega)
  have oH := HO.out.2.1.grown G6 (by intro e; cases e; omega)
  have oS := HO.out.2.2.1.grown G6 (by intro e; cases e; omega)
  have km1 := addL_len Mid 0 L0 18446744073709551615
  have dm1 := addL_dig (A := L0) (off := 0) (n := 18446744073709551615) HP.out.dig
  obtain ⟨M1, hM1⟩ : ∃ M1, M1 = addL Mid 0 L0 18446744073709551615 := ⟨_, rfl⟩
  rw [← hM1] at om1 km1 dm1
  have A2 := addTimes_at om1 oH.some_arg (off := 0) (m := Mid.length) (cp := cm) (x := 18446744073709551615) (fun b' o' he => by cases he; intro e; cases e; omega) dm1 HP1.out.dig (by decide) (by omega) (by omega) gm4 (by omega)
  have HA2 := Lib.hid A2
  have HO2 := Lib.hid (And.intro oL (And.intro oH (And.intro oS (And.intro G6 (And.intro dm1 hM1)))))
  clear A2 om1 oL oH oS G6 dm1 hM1
  go_wp2_with fail
  refine HA2.out.mono ?_
  rintro e w7 ⟨rfl, om2, G7⟩
  have oL := HO2.out.1.grown G7 (by intro e; cases e; omega)
  have oH := HO2.out.2.1.grown G7 (by intro e; cases e; omega)
  have oS := HO2.out.2.2.1.grown G7 (by intro e; cases e; omega)
  have km2 := addL_len M1 0 L1 18446744073709551615
  have dm2 := addL_dig (A := L1) (off := 0) (n := 18446744073709551615) HO2.out.2.2.2.2.1
  obtain ⟨M2, hM2⟩ : ∃ M2, M2 = addL M1 0 L1 18446744073709551615 := ⟨_, rfl⟩
  rw [← hM2] at om2 km2 dm2
  have A3 := addTimes_at oS oL.some_arg (off := 0) (m := n) (cp := n) (x := 1) (fun b' o' he => by cases he; intro e; cases e; omega) H.out.2.1 HP0.out.dig (by decide) (by omega) (by omega) (by omega) (by omega)
  have HA3 := Lib.hid A3
  have HO3 := Lib.hid (And.intro oL (And.intro oH (And.intro om2 (And.intro G7 (And.intro dm2 hM2)))))
  clear A3 om2 oL oH oS G7 dm2 hM2
  go_wp2_with fail
  refine HA3.out.mono ?_
  rintro e w8 ⟨rfl, os1, G8⟩
  have oH := HO3.out.2.1.grown G8 (by intro e; cases e; omega)
  have om := HO3.out.2.2.1.grown G8 (by intro e; cases e; omega)
  have ks1 := addL_len S 0 L0 1
  have ds1 := addL_dig (A := L0) (off := 0) (n := 1) H.out.2.1
  obtain ⟨S1, hS1⟩ : ∃ S1, S1 = addL S 0 L0 1 := ⟨_, rfl⟩
  rw [← hS1] at os1 ks1 ds1
  have A4 := addTimes_at os1 om.some_arg (off := h) (m := n - h) (cp := n - h) (x := 1) (fun b' o' he => by cases he; intro e; cases e; omega) ds1 HO3.out.2.2.2.2.1 (by decide) (by omega) (by omega) (by omega) (by omega)
  have e1 : M2.length = Mid.length := by omega
  rw [e1] at A4
  have HA4 := Lib.hid A4
  have HO4 := Lib.hid (And.intro oH (And.intro om (And.intro G8 (And.intro ds1 hS1))))
  have f9 : (h : Int) ≤ n := by omega
  have f10 : ((n : Int) - h).toNat = n - h := by omega
  have f11 : ¬ n = h := by omega
  clear A4 oH om G8 ds1 hS1 os1
  go_wp2_with fail
  refine HA4.out.mono ?_
  rintro e w9 ⟨rfl, os2, G9⟩
  have oH := HO4.out.1.grown G9 (by intro e; cases e; omega)
  have ks2 := addL_len S1 h M2 1
  have ds2 := addL_dig (A := M2) (off := h) (n := 1) HO4.out.2.2.2.1
  obtain ⟨S2, hS2⟩ : ∃ S2, S2 = addL S1 h M2 1 := ⟨_, rfl⟩
  rw [← hS2] at os2 ks2 ds2
  have A5 := addTimes_at os2 oH.some_arg (off := 2 * h) (m := n - 2 * h) (cp := n - 2 * h) (x := 1) (fun b' o' he => by cases he; intro e; cases e; omega) ds2 HP1.out.dig (by decide) (by omega) (by omega) (by omega) (by omega)
  have HA5 := Lib.hid A5
  have HO5 := Lib.hid (And.intro G9 (And.intro ds2 hS2))
  have f12 : (2 * (h : Int)) ≤ n := by omega
  have f13 : ((n : Int) - 2 * (h : Int)).toNat = n - 2 * h := by omega
  have f14 : ¬ n = 2 * h := by omega
  have f15 : (2 * (h : Int)).toNat = 2 * h := by omega
  clear A5 oH G9 ds2 hS2 os2
  go_wp2_with fail
  refine HA5.out.mono ?_
  rintro e w10 ⟨rfl, os3, G10⟩
  go_wp2_with fail
  go_returns
  have hm1 := HO2.out.2.2.2.2.2
  have hm2 := HO3.out.2.2.2.2.2
  have hs1 := HO4.out.2.2.2.2
  have hs2 := HO5.out.2.2
  refine ⟨rfl, _, os3, addL_dig HO5.out.2.1, ?_, ?_⟩
  · have hk := kara (la := la) (lb := lb) (f := f) (g := g) (Mid := Mid) (L0 := L0) (L1 := L1) (S := S) (h := h) (Nat.le_of_lt hla) (Nat.le_of_lt hlb) hh (by omega) HQ1.out.2.2.1 HQ2.out.2.1 HP.out.eqm HP0.out.eqm HP1.out.eqm (by omega) (by omega) (by omega) (by omega) (by omega)
    rw [← hm1, ← hm2, ← hs1, ← hs2] at hk
    exact hk
  · have W : ∀ {a b : World} {q : Nat}, w.heap.size ≤ q → a.grownBy b (some q) → w.heap.size ≤ a.heap.size → ∀ k, k < w.heap.size → b.heap[k]? = a.heap[k]? := fun hq hg hs k hk => hg.block k (by omega) (fun e => by cases e; omega)
    have r0 := HO.out.2.2.2
    have r1 := HO2.out.2.2.2.1
    have r2 := HO3.out.2.2.2.1
    have r3 := HO4.out.2.2.1
    have r4 := HO5.out.1
    have s5 := r0.size
    have s6 := r1.size
    have s7 := r2.size
    refine grown_trans (grown_trans (grown_trans ?_ r3) r4) G10
    have r02 : Below w.heap.size w w7 := (r0.grown r1 s5 (fun q hq => by cases hq; omega)).grown r2 (by omega) (fun q hq => by cases hq; omega)
    exact grown_of_below r02
end Go.Proofs.YtihgefllmkicaaaDoor
