/- Contracts: Link. Conditions: the objects lie as told, and may be gone through; the table of forms is as laid. -/
import Derived.Test.YtbplmbignalbgaaDoorLiD
import Derived.Test.YtbplmbignalbgaaDoorAsX
namespace Go.Proofs.YtbplmbignalbgaaDoor
open Go.RowKit Asm
set_option linter.unusedVariables false
set_option linter.unusedSimpArgs false

theorem own_far {w : World} {B T e m n i j : Nat} {v x y : Value} {xs : List Value} (h : w.ownsRow B e m v n xs) (hT : T < B) : ((w.setCell ⟨T, i, none⟩ x).setCell ⟨T, j, none⟩ y).ownsRow B e m v n xs := by

  exact ownsRow_setCell_below (ownsRow_setCell_below h hT _) hT _
theorem two_set {w : World} {b t : Nat} {x0 y0 x y : Value} (h : w.heap[b]? = some (.cells #[x0, y0] t (0, 0))) : ((w.setCell ⟨b, 0, none⟩ x).setCell ⟨b, 1, none⟩ y).heap[b]? = some (.cells #[x, y] t (0, 0)) :=
  heap_setCell_same _ b 1 _ t y (heap_setCell_same w b 0 _ t x h)
theorem frozen2 {w : World} {b t : Nat} {cs : Array Value} (h : w.heap[b]? = some (.cells cs t (0, 0))) : ∀ i, w.frozen? ⟨b, i, none⟩ = false := freeF h
/-- What Link returns. -/
def Linked (W w' : World) (L : List Ob) (base : Int) (e : Ending) : Prop :=
  (lcheck L ≠ 0 ∧ e = .returned (.tuple #[.agg #[.slice none 0 0, .slice none 0 0], .int .i64 (lcheck L)])) ∨
  (lcheck L = 0 ∧ Outcome (litX (flat L)) (flat L).length base (fun c => e = .returned (.tuple #[.agg #[.slice none 0 0, .slice none 0 0], .int .i64 c]))
    (fun f => ∃ O vp, e = .returned (.tuple #[.agg #[.slice (some ⟨O, 0, none⟩) (wordsL (litX (flat L)) (flat L).length base f (flat L).length).length (wordsL (litX (flat L)) (flat L).length base f (flat L).length).length, vp], .int .i64 0]) ∧
      Words w' W.heap.size O (wordsL (litX (flat L)) (flat L).length base f (flat L).length).length (wordsL (litX (flat L)) (flat L).length base f (flat L).length).length (wordsL (litX (flat L)) (flat L).length base f (flat L).length) ∧
      w'.ownsRow W.heap.size 47 2 vp (placesL (litX (flat L)) (ad (litX (flat L)) base f) (flat L).length).length (rowP (placesL (litX (flat L)) (ad (litX (flat L)) base f) (flat L).length))))
set_option maxRecDepth 100000 in
set_option maxHeartbeats 4000000 in
theorem link_at {w : World} {p : Option Addr} {c : Nat} {L : List Ob} (h : Objs w p c L) (hf : Few L) (hE : Env w) (base : Int) :
    Calls Tryd.prog 11 #[.slice p L.length c, .int .i64 base] w fun e w' => Linked w w' L base e ∧ Below w.heap.size w w' := by
  have hal := (Below.refl w.heap.size w).alloc (Nat.le_refl _) (.cells #[.slice none 0 0, .slice none 0 0] 30)
  have hT := heap_new w (.cells #[.slice none 0 0, .slice none 0 0] 30)
  obtain ⟨w1, hw1⟩ : ∃ w1, w1 = w.alloc (.cells #[.slice none 0 0, .slice none 0 0] 30) := ⟨_, rfl⟩
  obtain ⟨T, hTT⟩ : ∃ T, T = w.heap.size := ⟨_, rfl⟩
  rw [← hw1, ← hTT] at hT
  rw [← hw1] at hal
  have hnm := names_at (h.below hal) (by have := hf.n; omega)
  have HT := Lib.hid (And.intro hT (And.intro hal hTT))
  have HH := Lib.hid (And.intro h (And.intro hf hE))
  clear hT hal h hf hE
  go_enter Tryd.func11, Tryd.ntmps11
  go_upto_region 1 with fail
  rw [← hw1, ← hTT]
  clear hw1 hTT
  go_wp2_with fail
  refine hnm.mono ?_
  rintro e w2 ⟨rfl, hb⟩
  clear hnm
  have hT2 := (hb.block _ (lt_of_block HT.out.1)).trans HT.out.1
  have HB := Lib.hid (And.intro (HT.out.2.1.trans (hb.mono HT.out.2.1.size)) hT2)
  clear hb
  obtain ⟨ec, hec⟩ : ∃ ec, ec = lcheck L := ⟨_, rfl⟩
  rw [← hec]
  have HC := Lib.hid hec
  clear hec
  by_cases hz : ec = 0
  · subst hz
    have hsz2 : w.heap.size ≤ w2.heap.size := HB.out.1.size
    have hn8 := HH.out.2.1.n
    have hT2l : T < w2.heap.size := lt_of_block hT2
    clear hT2
    go_wp2_with fail
    go_loopw [7, 21] (fun s7 s21 wr => ∃ k : Nat, s21 = .int .i64 k ∧ k ≤ L.length ∧ wr.ownsRow w2.heap.size 40 8 s7 (flat (L.take k)).length (rowL (flat (L.take k))) ∧ Below w2.heap.size w2 wr) (fun _ s21 _ => L.length - (intOf s21).toNat)
    case atStart => exact ⟨0, rfl, Nat.zero_le _, World.ownsRow_nil _ _ _ _, Below.refl _ _⟩
    case round =>
      obtain ⟨k, rfl, hk, ho, hb⟩ := hrel
      obtain ⟨v7, hv7⟩ : ∃ v7, v7 = u7 := ⟨_, rfl⟩
      rw [← hv7] at ho ⊢
      clear hv7
      by_cases hlt : k < L.length
      · as_aux_lemma =>
          have d1 : decide ((k : Int) < (L.length : Int)) = true := decide_eq_true (by omega)
          have ek : (k : Int) < (L.length : Int) := by omega
          obtain ⟨b, off, q, m, rfl, k0, k1, hit⟩ := ((HH.out.1.below HB.out.1).below hb).at hlt
          obtain ⟨nm, hnm2⟩ : ∃ nm, nm = (ob L k).name := ⟨_, rfl⟩
          obtain ⟨M, hM⟩ : ∃ M, M = (ob L k).items := ⟨_, rfl⟩
          rw [← hnm2] at k0
          rw [← hM] at k1 hit
          have hal := (Below.refl wr.heap.size wr).alloc (Nat.le_refl _) (.cells #[.string nm, .slice q M.length m] 49)
          have hN := cells2 (heap_new wr (.cells #[.string nm, .slice q M.length m] 49))
          have hit2 := hit.below hal
          have ho2 := ho.alloc (.cells #[.string nm, .slice q M.length m] 49)
          have hb2 := hb.trans (hal.mono hb.size)
          obtain ⟨w3, hw3⟩ : ∃ w3, w3 = wr.alloc (.cells #[.string nm, .slice q M.length m] 49) := ⟨_, rfl⟩
          obtain ⟨Q, hQ⟩ : ∃ Q, Q = wr.heap.size := ⟨_, rfl⟩
          rw [← hw3] at hN hit2 ho2 hb2
          rw [← hQ] at hN
          have hl1 := HH.out.2.1.flat_len k (by omega)
          have hl2 := HH.out.2.1.items k hlt
          have hl3 := HH.out.2.1.n
          have hl4 := HH.out.2.1.name k hlt
          have hl5 := HH.out.2.1.ok k hlt
          rw [← hM] at hl2 hl5
          rw [← hnm2] at hl4
          have hjo := join_at (nm := nm) ho2 hit2 (by omega) hb2.size (by omega) (hl5.mono (by omega))
          have HX := Lib.hid (And.intro hb2 (And.intro hnm2 hM))
          clear hb hal hit hit2 ho ho2 hb2 hnm2 hM hl1 hl2 hl3 hl4 hl5
          go_upto_region 8 with fail
          rw [← hw3, ← hQ]
          clear hw3 hQ k0 k1
          obtain ⟨n0, n1⟩ := hN
          go_wp2_with fail
          refine hjo.mono ?_
          rintro e w4 ⟨v', rfl, ho4, hb4⟩
          clear hjo
          have HO := Lib.hid (And.intro ho4 hb4)
          clear ho4 hb4 n0 n1
          go_wp2_with fail
          go_roundw
          case rel =>
            refine ⟨k + 1, by go_num, hlt, ?_, HX.out.1.trans HO.out.2⟩
            have h1 := HO.out.1
            rw [HX.out.2.1, HX.out.2.2] at h1
            rw [flat_take hlt, List.length_append, List.length_map]
            exact h1
          case measure => simp [intOf]; omega
      · have hz : k = L.length := by omega
        subst hz
        have d1 : decide ((L.length : Int) < (L.length : Int)) = false := by simp
        rw [flat_all] at ho
        have hfl := HH.out.2.1.flat_len L.length (Nat.le_refl _)
        have hfo := HH.out.2.1.flat_ok L.length (Nat.le_refl _)
        have hl3 := HH.out.2.1.n
        rw [flat_all] at hfl hfo
        obtain ⟨p7, c7, rfl, hit, -⟩ := own_items ho hfo (by omega)
        have hbr := HB.out.1.trans (hb.mono hsz2)
        have has := assemble_at hit (HH.out.2.2.below hbr) (by omega) base
        have HT3 := Lib.hid (And.intro hbr (And.intro ((hb.block _ hT2l).trans HB.out.2) (And.intro hfl (fun i hi => ((hfo _ (litX_mem hi)).1.1 : 0 ≤ (litX (flat L) i).word)))))
        clear ho hb hit hbr hfl hfo hl3
        go_wp2_with fail
        refine has.mono ?_
        rintro e w5 ⟨ha, hb5⟩
        clear has
        have hT5 := (hb5.block _ (lt_of_block HT3.out.2.1)).trans HT3.out.2.1
        have hB5 := HT3.out.1.trans (hb5.mono HT3.out.1.size)
        have hsz5 := HT3.out.1.size
        clear hb5
        rcases ha with ⟨hc, rfl⟩ | ⟨hc, f, hl, ⟨hlong, rfl⟩ | ⟨hlong, O, vp, rfl, hw5, hp5⟩⟩
        · as_aux_lemma =>
            obtain ⟨cv, hcv⟩ : ∃ cv, cv = check (litX (flat L)) (flat L).length base := ⟨_, rfl⟩
            rw [← hcv] at hc ⊢
            have dz : (cv != 0) = true := by simp [hc]
            have hfz := frozen2 hT5
            obtain ⟨c0, c1⟩ := cells2 hT5
            have HV := Lib.hid hcv
            clear hcv
            go_wp2_with fail
            obtain ⟨wz, hwz⟩ : ∃ wz, wz = (w5.setCell ⟨T, 0, none⟩ (.slice none 0 0)).setCell ⟨T, 1, none⟩ (.slice none 0 0) := ⟨_, rfl⟩
            have hz2 := two_set (x := (.slice none 0 0)) (y := (.slice none 0 0)) hT5
            have hbz : Below w.heap.size w wz := by rw [hwz]; exact (hB5.setCell (Nat.le_of_eq HT.out.2.2.symm) _).setCell (Nat.le_of_eq HT.out.2.2.symm) _
            rw [← hwz] at hz2 ⊢
            obtain ⟨z0, z1⟩ := cells2 hz2
            refine bodyPost_ret (v := .tuple #[.agg #[(.slice none 0 0), (.slice none 0 0)], .int .i64 cv]) (by simp [results, Tryd.results11, go_sem, z0, z1]) rfl ⟨Or.inr ⟨HC.out.symm, Or.inl ⟨by rw [← HV.out]; exact hc, by rw [← HV.out]⟩⟩, hbz⟩
        · as_aux_lemma =>
            have hfz := frozen2 hT5
            obtain ⟨c0, c1⟩ := cells2 hT5
            have HV := Lib.hid (And.intro hc (And.intro hl hlong))
            clear hc hl hlong
            go_wp2_with fail
            obtain ⟨wz, hwz⟩ : ∃ wz, wz = (w5.setCell ⟨T, 0, none⟩ (.slice none 0 0)).setCell ⟨T, 1, none⟩ (.slice none 0 0) := ⟨_, rfl⟩
            have hz2 := two_set (x := (.slice none 0 0)) (y := (.slice none 0 0)) hT5
            have hbz : Below w.heap.size w wz := by rw [hwz]; exact (hB5.setCell (Nat.le_of_eq HT.out.2.2.symm) _).setCell (Nat.le_of_eq HT.out.2.2.symm) _
            rw [← hwz] at hz2 ⊢
            obtain ⟨z0, z1⟩ := cells2 hz2
            refine bodyPost_ret (v := .tuple #[.agg #[(.slice none 0 0), (.slice none 0 0)], .int .i64 3]) (by simp [results, Tryd.results11, go_sem, z0, z1]) rfl ⟨Or.inr ⟨HC.out.symm, Or.inr ⟨HV.out.1, f, HV.out.2.1, Or.inl ⟨HV.out.2.2, rfl⟩⟩⟩, hbz⟩
        · as_aux_lemma =>
            have hfz := frozen2 hT5
            obtain ⟨c0, c1⟩ := cells2 hT5
            obtain ⟨pp, cp, rfl⟩ := own_shape hp5
            obtain ⟨np, hnp⟩ : ∃ np, np = (placesL (litX (flat L)) (ad (litX (flat L)) base f) (flat L).length).length := ⟨_, rfl⟩
            rw [← hnp] at hp5 ⊢
            have HNP := Lib.hid hnp
            clear hnp
            have hTr : T < wr.heap.size := lt_of_block HT3.out.2.1
            have hwl := wordsL_len hl.1.1 HT3.out.2.2.2 (kind_of hc) (flat L).length (Nat.le_refl _) (base := base)
            obtain ⟨ws, hws⟩ : ∃ ws, ws = (wordsL (litX (flat L)) (flat L).length base f (flat L).length).length := ⟨_, rfl⟩
            rw [← hws] at hwl ⊢
            have hck := (check_parts hc).1
            have d3 : decide (67108864 < (ws : Int)) = false := decide_eq_false (by omega)
            have d3' : decide ((ws : Int) > 67108864) = false := decide_eq_false (by omega)
            have HV := Lib.hid (And.intro hc (And.intro hl (And.intro hlong (And.intro hw5 (And.intro hp5 hws)))))
            clear hc hl hlong hw5 hp5 hws hwl hck
            go_wp2_with fail
            obtain ⟨wz, hwz⟩ : ∃ wz, wz = (w5.setCell ⟨T, 0, none⟩ (.slice (some ⟨O, 0, none⟩) ws ws)).setCell ⟨T, 1, none⟩ (.slice pp np cp) := ⟨_, rfl⟩
            have hz2 := two_set (x := (.slice (some ⟨O, 0, none⟩) ws ws)) (y := (.slice pp np cp)) hT5
            have hbz : Below w.heap.size w wz := by rw [hwz]; exact (hB5.setCell (Nat.le_of_eq HT.out.2.2.symm) _).setCell (Nat.le_of_eq HT.out.2.2.symm) _
            rw [← hwz] at hz2 ⊢
            obtain ⟨z0, z1⟩ := cells2 hz2
            refine bodyPost_ret (v := .tuple #[.agg #[(.slice (some ⟨O, 0, none⟩) ws ws), (.slice pp np cp)], .int .i64 0]) (by simp [results, Tryd.results11, go_sem, z0, z1]) rfl ⟨Or.inr ⟨HC.out.symm, Or.inr ⟨HV.out.1, f, HV.out.2.1, Or.inr ⟨HV.out.2.2.1, O, .slice pp np cp, by rw [← HV.out.2.2.2.2.2], ?_, ?_⟩⟩⟩, hbz⟩
            · rw [hwz]
              exact own_base (own_far (HV.out.2.2.2.1) hTr) hsz5
            · rw [hwz, ← HNP.out]
              exact own_base (own_far (HV.out.2.2.2.2.1) hTr) hsz5
  · as_aux_lemma =>
      have dz : (ec != 0) = true := by simp [hz]
      have hfz := frozen2 hT2
      obtain ⟨c0, c1⟩ := cells2 hT2
      have hB2 := HB.out.1
      go_wp2_with fail
      obtain ⟨wz, hwz⟩ : ∃ wz, wz = (w2.setCell ⟨T, 0, none⟩ (.slice none 0 0)).setCell ⟨T, 1, none⟩ (.slice none 0 0) := ⟨_, rfl⟩
      have hz2 := two_set (x := (.slice none 0 0)) (y := (.slice none 0 0)) hT2
      have hbz : Below w.heap.size w wz := by rw [hwz]; exact (hB2.setCell (Nat.le_of_eq HT.out.2.2.symm) _).setCell (Nat.le_of_eq HT.out.2.2.symm) _
      rw [← hwz] at hz2 ⊢
      obtain ⟨z0, z1⟩ := cells2 hz2
      refine bodyPost_ret (v := .tuple #[.agg #[(.slice none 0 0), (.slice none 0 0)], .int .i64 ec]) (by simp [results, Tryd.results11, go_sem, z0, z1]) rfl ⟨Or.inl ⟨by rw [← HC.out]; exact hz, by rw [← HC.out]⟩, hbz⟩
end Go.Proofs.YtbplmbignalbgaaDoor
