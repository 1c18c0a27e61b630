/- Plain: the program's image and the document's are one. Contracts: the walk of LinkImages. Conditions: the objects lie as told; the table of forms is as laid. -/
import Derived.Test.YtbplmbignalbgaaDoorLiR
import Derived.Test.YtbplmbignalbgaaDoorLiQ
import Derived.Deep.QuietTactic
namespace Go.Proofs.YtbplmbignalbgaaDoor
open Go.RowKit Asm
set_option linter.unusedVariables false
set_option linter.unusedSimpArgs false

/-- What grows no further than the least forms is no longer. -/
theorem under_ad {X : Nat → It} {n : Nat} {base : Int} {f f' : Nat → Nat} (hu : Under X n base f') (hl : Least X n base f) : ad X base f' n ≤ ad X base f n := by
  have hle := hu.2 f hl.1.1 hl.2
  have h := ad_between (X := X) (base := base) (f := f') (g := f) (i := 0) (j := n) (fun k _ hk => isz_mono (fun h => hu.1.one hk h) (hle k hk)) (Nat.zero_le _)
  have e1 : ad X base f' 0 = base := rfl
  have e2 : ad X base f 0 = base := rfl
  omega
theorem rpair {W w' : World} {X : Nat → It} {n : Nat} {base : Int} {e : Ending} {fa : Int → Prop} {ga : (Nat → Nat) → Prop} (ha : Outcome X n base fa ga) (hb : RAssembled W w' X n base e) :
    (∃ c, fa c ∧ e = .returned (.tuple #[.slice none 0 0, .slice none 0 0, .int .i64 c])) ∨ (check X n base = 0 ∧ ∃ f v pv, Least X n base f ∧ ad X base f n ≤ 67108864 ∧ ga f ∧ e = .returned (.tuple #[v, pv, .int .i64 0]) ∧
      w'.ownsRow W.heap.size 38 1 v (wordsL X n base f n).length (byW (wordsL X n base f n)) ∧ w'.ownsRow W.heap.size 47 2 pv (placesL X (ad X base f) n).length (rowP (placesL X (ad X base f) n))) := by
  rcases ha with ⟨h1, h2⟩ | ⟨h1, f, hl, h2⟩
  · rcases hb with ⟨h3, h4⟩ | ⟨h3, -⟩
    · exact Or.inl ⟨_, h2, h4⟩
    · exact absurd h3 h1
  · rcases hb with ⟨h3, -⟩ | ⟨-, ⟨f', hu, hlong, rfl⟩ | ⟨f', v, pv, hl', hle, rfl, hw, hp⟩⟩
    · exact absurd h1 h3
    · rcases h2 with ⟨-, h5⟩ | ⟨h5, -⟩
      · exact Or.inl ⟨3, h5, rfl⟩
      · have := under_ad hu hl; omega
    · have eq := hl'.unique hl
      have ea : ad X base f' n = ad X base f n := ad_congr eq
      rcases h2 with ⟨h4, -⟩ | ⟨h4, h5⟩
      · omega
      · refine Or.inr ⟨h1, f, v, pv, hl, h4, h5, rfl, ?_, ?_⟩
        · rw [← wordsL_congr eq (Nat.le_refl n)]; exact hw
        · have e2 : placesL X (ad X base f') n = placesL X (ad X base f) n := placesL_congr (fun i hi => ad_congr (fun j hj => eq j (by omega)))
          rw [← e2]; exact hp
theorem linked_split {W w' : World} {L : List Ob} {base : Int} {e : Ending} (h : Linked W w' L base e) : ∃ (p1 : Option Addr) (n1 c1 : Nat) (q1 : Option Addr) (m1 d1 : Nat) (code : Int), e = .returned (.tuple #[.agg #[.slice p1 n1 c1, .slice q1 m1 d1], .int .i64 code]) := by
  rcases h with ⟨-, rfl⟩ | ⟨-, ⟨-, rfl⟩ | ⟨-, f, hf, ⟨-, rfl⟩ | ⟨-, O, vp, rfl, -, hp⟩⟩⟩
  · exact ⟨_, _, _, _, _, _, _, rfl⟩
  · exact ⟨_, _, _, _, _, _, _, rfl⟩
  · exact ⟨_, _, _, _, _, _, _, rfl⟩
  · obtain ⟨pp, cp, rfl⟩ := own_shape hp
    exact ⟨_, _, _, _, _, _, _, rfl⟩
/-- The program's image and the document's: the same code, words and places. -/
def Both (w1 w2 : World) (e1 e2 : Ending) : Prop :=
  ∃ (code : Int) (ys : List Int) (P : List (ByteArray × Int)) (n m : Nat) (p1 p2 q1 q2 : Option Addr) (c1 c2 d1 d2 B1 B2 : Nat),
    e1 = .returned (.tuple #[.agg #[.slice p1 n c1, .slice q1 m d1], .int .i64 code]) ∧ e2 = .returned (.tuple #[.slice p2 n c2, .slice q2 m d2, .int .i64 code]) ∧
    w1.ownsRow B1 38 1 (.slice p1 n c1) n (byW ys) ∧ w1.ownsRow B1 47 2 (.slice q1 m d1) m (rowP P) ∧ w2.ownsRow B2 38 1 (.slice p2 n c2) n (byW ys) ∧ w2.ownsRow B2 47 2 (.slice q2 m d2) m (rowP P) ∧ P.length = m ∧ n ≤ 1000000000 ∧ m ≤ 1000
theorem both_fault (w1 w2 : World) (code : Int) : Both w1 w2 (.returned (.tuple #[.agg #[.slice none 0 0, .slice none 0 0], .int .i64 code])) (.returned (.tuple #[.slice none 0 0, .slice none 0 0, .int .i64 code])) :=
  ⟨code, [], [], 0, 0, none, none, none, none, 0, 0, 0, 0, 0, 0, rfl, rfl, World.ownsRow_nil _ _ _ _, World.ownsRow_nil _ _ _ _, World.ownsRow_nil _ _ _ _, World.ownsRow_nil _ _ _ _, rfl, by decide, by decide⟩
theorem both_of {W1 w1 W2 w2 : World} {L : List Ob} {base : Int} {e1 e2 : Ending} (hf : Few L) (h1 : Linked W1 w1 L base e1) (h2 : RLinked W2 w2 L base e2) : Both w1 w2 e1 e2 := by
  rcases h1 with ⟨h1, rfl⟩ | ⟨h1, ha⟩
  · rcases h2 with ⟨-, rfl⟩ | ⟨h3, -⟩
    · exact both_fault _ _ _
    · exact absurd h3 h1
  · rcases h2 with ⟨h3, -⟩ | ⟨-, wm, hwm, hr⟩
    · exact absurd h1 h3
    · rcases rpair ha hr with ⟨c, rfl, rfl⟩ | ⟨hc, f, v, pv, hl, hle, ⟨O, vp, rfl, hw, hp⟩, rfl, hw2, hp2⟩
      · exact both_fault _ _ _
      · have hfl := hf.flat_len L.length (Nat.le_refl _)
        have hfo := hf.flat_ok L.length (Nat.le_refl _)
        rw [flat_all] at hfl hfo
        have hn := hf.n
        have hwl := wordsL_len hl.1.1 (fun i hi => (hfo _ (litX_mem hi)).1.1) (kind_of hc) (flat L).length (Nat.le_refl _) (base := base)
        have hck := (check_parts hc).1
        have hpl := placesL_len (litX (flat L)) (ad (litX (flat L)) base f) (flat L).length
        obtain ⟨pp, cp, rfl⟩ := own_shape hp
        obtain ⟨pw2, cw2, rfl⟩ := own_shape hw2
        obtain ⟨pp2, cp2, rfl⟩ := own_shape hp2
        exact ⟨0, _, _, _, _, _, _, _, _, _, _, _, _, _, _, rfl, rfl, hw, hp, hw2, hp2, rfl, by omega, by omega⟩
set_option maxRecDepth 100000 in
set_option maxHeartbeats 8000000 in
theorem images_any {w : World} {p : Option Addr} {c : Nat} {L : List Ob} (h : Objs w p c L) (hE : Env w) (base : Int) :
    Calls Tryd.prog 3 #[.slice p L.length c, .int .i64 base] w fun e w' => e = .returned (.bool true) ∧ Below w.heap.size w w' := by
  have hfe := few_at h
  have H := Lib.hid (And.intro h hE)
  clear h hE
  go_enter Tryd.func3, Tryd.ntmps3
  go_wp2_with fail
  refine hfe.mono ?_
  rintro e w0 ⟨⟨b, rfl, hb⟩, rfl⟩
  clear hfe
  cases b with
  | false =>
    clear hb
    go_wp2_with fail
    refine (works_any _ H.out.2).mono ?_
    rintro e w1 ⟨rfl, hb⟩
    have HB := Lib.hid hb
    clear hb
    go_wp2_with fail
    go_ret
    exact ⟨rfl, HB.out⟩
  | true =>
    have HF := Lib.hid (hb rfl)
    clear hb
    go_wp2_with fail
    refine (ritems_at H.out.1 HF.out).mono ?_
    rintro e w1 ⟨v, rfl, ho1, hb1⟩
    obtain ⟨pw, cw, rfl⟩ := own_shape ho1
    have HO1 := Lib.hid ho1
    have HB1 := Lib.hid hb1
    clear ho1 hb1
    go_wp2_with fail
    refine (link_at (H.out.1.below HB1.out) HF.out (H.out.2.below HB1.out) base).mono ?_
    rintro e w2 ⟨hl, hb2⟩
    obtain ⟨p1, n1, c1, q1, m1, d1, code, rfl⟩ := linked_split hl
    have HL := Lib.hid hl
    have HB2 := Lib.hid (HB1.out.trans (hb2.mono HB1.out.size))
    have ho2 := own_below HO1.out hb2
    have HO2 := Lib.hid ho2
    clear hl hb2 ho2 HO1
    go_upto_region 5 with fail
    refine wp_one ?_
    intro w3 h3 hb3
    obtain ⟨T, hT⟩ : ∃ T, T = w2.heap.size := ⟨_, rfl⟩
    rw [← hT] at h3
    rw [← hT]
    obtain ⟨t0, t1⟩ := cells2 h3
    have HB3 := Lib.hid (HB2.out.trans (hb3.mono HB2.out.size))
    have ho3 := own_below HO2.out hb3
    have HB23 := Lib.hid hb3
    have HO3 := Lib.hid ho3
    clear HO2 ho3 h3 hb3 hT
    go_wp2_with fail
    refine (rlink_at (H.out.1.below HB3.out) HF.out base).mono ?_
    rintro e w4 ⟨hr, hb4⟩
    obtain ⟨code', ys, P, n2, m2, p1', p2, q1', q2, c1', c2, d1', d2, B1, B2, hx1, rfl, hw1, hp1, hw2, hp2, hPl, hn, hm⟩ := both_of HF.out HL.out hr
    simp only [Ending.returned.injEq, Value.tuple.injEq, Array.mk.injEq, List.cons.injEq, Value.agg.injEq, Value.slice.injEq, Value.int.injEq, and_true, true_and] at hx1
    obtain ⟨⟨⟨rfl, rfl, rfl⟩, rfl, rfl, rfl⟩, rfl⟩ := hx1
    have HW := Lib.hid (And.intro (own_below (own_below hw1 HB23.out) hb4) (And.intro (own_below (own_below hp1 HB23.out) hb4) (And.intro hw2 hp2)))
    have HN := Lib.hid (And.intro hPl (And.intro hn hm))
    replace t0 := (hb4.cell (World.block_lt_of_cell? w3 _ t0)).trans t0
    replace t1 := (hb4.cell (World.block_lt_of_cell? w3 _ t1)).trans t1
    have HB4 := Lib.hid (HB3.out.trans (hb4.mono HB3.out.size))
    have HO4 := Lib.hid (own_below HO3.out hb4)
    clear hr hw1 hp1 hw2 hp2 hPl hn hm hb4 HL HO3 HB23
    go_wp2_with fail
    refine (ritems_at (H.out.1.below HB4.out) HF.out).mono ?_
    rintro e w5 ⟨v, rfl, ho5, hb5⟩
    obtain ⟨pn, cn, rfl⟩ := own_shape ho5
    have HO5 := Lib.hid (And.intro (own_below HO4.out hb5) ho5)
    have HW5 := Lib.hid (And.intro (own_below HW.out.1 hb5) (And.intro (own_below HW.out.2.1 hb5) (And.intro (own_below HW.out.2.2.1 hb5) (own_below HW.out.2.2.2 hb5))))
    replace t0 := (hb5.cell (World.block_lt_of_cell? w4 _ t0)).trans t0
    replace t1 := (hb5.cell (World.block_lt_of_cell? w4 _ t1)).trans t1
    have HB5 := Lib.hid (HB4.out.trans (hb5.mono HB4.out.size))
    have HT := Lib.hid (And.intro t0 t1)
    have hfl := HF.out.flat_len L.length (Nat.le_refl _)
    have hfo := HF.out.flat_ok L.length (Nat.le_refl _)
    rw [flat_all] at hfl hfo
    have hn8 := HF.out.n
    have HK := Lib.hid hfo
    clear ho5 hb5 HO4 HW HB4 HB3 HB2 HB1 t0 t1 hfo
    obtain ⟨N, hN⟩ : ∃ N, N = (flat L).length := ⟨_, rfl⟩
    rw [← hN] at HO5 hfl ⊢
    go_wp2_with fail
    go_loopw [12] (fun s12 wr => ∃ k : Nat, s12 = .int .i64 k ∧ k ≤ N ∧ Below w5.heap.size w5 wr) (fun s12 _ => N - (intOf s12).toNat)
    case atStart => exact ⟨0, rfl, Nat.zero_le _, Below.refl _ _⟩
    case round =>
      obtain ⟨k, rfl, hk, hb⟩ := hrel
      by_cases hlt : k < N
      · have d1 : decide ((k : Int) < (N : Int)) = true := decide_eq_true (by omega)
        have ek : (k : Int) < (N : Int) := by omega
        have oa := own_below HO5.out.1 hb
        have ob' := own_below HO5.out.2 hb
        rw [hN] at oa ob'
        obtain ⟨pa, ca, e1, hia, ga⟩ := own_items oa HK.out (by decide)
        obtain ⟨pb, cb, e2, hib, gb⟩ := own_items ob' HK.out (by decide)
        cases e1
        cases e2
        obtain ⟨g1, rfl, -⟩ := ga (by omega)
        obtain ⟨g2, rfl, -⟩ := gb (by omega)
        obtain ⟨b1, o1, f1, x0, x1, x2, x3, x4, x5, x6, x7⟩ := hia.at (show k < (flat L).length by omega)
        obtain ⟨b2, o2, f2, z0, z1, z2, z3, z4, z5, z6, z7⟩ := hib.at (show k < (flat L).length by omega)
        cases f1
        cases f2
        have yl := bl_true (rfl : (litX (flat L) k).lab = (litX (flat L) k).lab)
        have HX := Lib.hid hb
        clear hb oa ob' hia hib ga gb
        simp only [Nat.zero_add] at x0 x1 x2 x3 x4 x5 x6 x7 z0 z1 z2 z3 z4 z5 z6 z7
        go_wp2_with fail
        go_quiet (fail)
        go_wp2_with fail
        go_roundw
        case rel => exact ⟨k + 1, by go_num, hlt, below_drewN HX.out nq⟩
        case measure => simp [intOf]; omega
      · have hz : k = N := by omega
        subst hz
        have d1 : decide ((k : Int) < (k : Int)) = false := by simp
        have hww := words_alike (own_below HW5.out.1 hb) (own_below HW5.out.2.2.1 hb) HN.out.2.1
        have t0 := (hb.cell (World.block_lt_of_cell? w5 _ HT.out.1)).trans HT.out.1
        have t1 := (hb.cell (World.block_lt_of_cell? w5 _ HT.out.2)).trans HT.out.2
        have HX := Lib.hid hb
        clear hb
        go_wp2_with fail
        refine hww.mono ?_
        rintro e w6 ⟨rfl, hb6⟩
        clear hww
        have hpp := places_alike (own_below (own_below HW5.out.2.1 HX.out) hb6) (own_below (own_below HW5.out.2.2.2 HX.out) hb6) HN.out.1 (by have := HN.out.2.2; omega)
        replace t0 := (hb6.cell (World.block_lt_of_cell? wr _ t0)).trans t0
        replace t1 := (hb6.cell (World.block_lt_of_cell? wr _ t1)).trans t1
        have HB6 := Lib.hid (HB5.out.trans ((HX.out.trans (hb6.mono HX.out.size)).mono HB5.out.size))
        clear hb6
        go_wp2_with fail
        refine hpp.mono ?_
        rintro e w7 ⟨rfl, hb7⟩
        clear hpp
        have HB7 := Lib.hid (HB6.out.trans (hb7.mono HB6.out.size))
        clear hb7 t0 t1
        go_wp2_with fail
        refine (works_any _ (H.out.2.below HB7.out)).mono ?_
        rintro e w8 ⟨rfl, hb8⟩
        have HB8 := Lib.hid (HB7.out.trans (hb8.mono HB7.out.size))
        clear hb8
        go_wp2_with fail
        go_ret
        exact ⟨rfl, HB8.out⟩
end Go.Proofs.YtbplmbignalbgaaDoor
