/- The walk of LinkMoved. Conditions: the items lie as told, their labels no longer than may be; the table of forms is as laid. -/
import Derived.Test.YtbplmbignalbgaaDoorLiY
namespace Go.Proofs.YtbplmbignalbgaaDoor
open Go.RowKit Asm
set_option linter.unusedVariables false
set_option linter.unusedSimpArgs false

theorem mobjs {w : World} {b n1 m1 n2 m2 : Nat} {q1 q2 : Option Addr} {x y : List It} (h : w.heap[b]? = some (.cells #[.string ⟨#[97]⟩, .slice q1 n1 m1, .string ⟨#[98]⟩, .slice q2 n2 m2] 49 (0, 0))) (hn : n1 = x.length) (hn2 : n2 = y.length) (h1 : Items w q1 n1 m1 (litX x)) (h2 : Items w q2 n2 m2 (litX y)) : Objs w (some ⟨b, 0, none⟩) 2 (movL x y) := by
  subst hn hn2
  refine objs_mk (by show (2 : Nat) ≤ 2; omega) (by decide) (fun i hi => ?_) fun i hi => ?_
  · rcases (show i = 0 ∨ i = 1 by have : i < 2 := hi; omega) with rfl | rfl
    · show (1 : Nat) ≤ 1000; omega
    · show (1 : Nat) ≤ 1000; omega
  · rcases (show i = 0 ∨ i = 1 by have : i < 2 := hi; omega) with rfl | rfl
    · exact ⟨cell_of_row w b 0 _ 49 _ h, q1, m1, cell_of_row w b 1 _ 49 _ h, h1⟩
    · exact ⟨cell_of_row w b 2 _ 49 _ h, q2, m2, cell_of_row w b 3 _ 49 _ h, h2⟩
theorem word_at {w : World} {B n c : Nat} {p : Option Addr} {z : List Int} (h : w.ownsRow B 38 1 (.slice p n c) n (byW z)) (hn : n = z.length) {k : Nat} (hk : k < n) : ∃ g, p = some ⟨g, 0, none⟩ ∧ w.cell? ⟨g, k, none⟩ = some (.int .u32 (z.getD k 0)) := by
  obtain ⟨g, cap, e, -, -⟩ := World.ownsRow.form h (by omega)
  simp only [Value.slice.injEq] at e
  obtain ⟨rfl, -, rfl⟩ := e
  refine ⟨g, rfl, (World.ownsRow.cellAt h k (by omega)).trans ?_⟩
  unfold byW
  rw [List.getElem?_map, List.getElem?_eq_getElem (by omega), List.getD_eq_getElem?_getD, List.getElem?_eq_getElem (by omega)]
  rfl
theorem pl_ok {w : World} {p : Option Addr} {n c : Nat} {X : Nat → It} (h : Items w p n c X) (hl : ∀ i, i < n → (X i).lab.size ≤ 281474976710656) {m : Nat} (hm : m ≤ n) : OkI 281474976710656 (pl X m) :=
  fun x hx => pl_all (p := fun x => (0 ≤ x.word ∧ x.word < 4294967296) ∧ x.lab.size ≤ 281474976710656) (fun i hi _ => ⟨h.word i (by omega), hl i (by omega)⟩) x hx
set_option maxRecDepth 100000 in
set_option maxHeartbeats 16000000 in
theorem moved_any {w : World} {pa pb : Option Addr} {na ca nb cb : Nat} {Xa Xb : Nat → It} (ha : Items w pa na ca Xa) (hb : Items w pb nb cb Xb) (la : ∀ i, i < na → (Xa i).lab.size ≤ 281474976710656) (lb : ∀ i, i < nb → (Xb i).lab.size ≤ 281474976710656)
    (base : Int) (hbs : 0 ≤ base ∧ base ≤ 65535) (hE : Env w) :
    Calls Tryd.prog 5 #[.slice pa na ca, .slice pb nb cb, .int .u16 base] w fun e w' => e = .returned (.bool true) ∧ Below w.heap.size w w' := by
  obtain ⟨ma, hma⟩ : ∃ m, m ≤ na ∧ m ≤ 60 ∧ (m = na ∨ m = 60) := by
    by_cases h : na ≤ 60
    · exact ⟨na, Nat.le_refl _, h, Or.inl rfl⟩
    · exact ⟨60, by omega, Nat.le_refl _, Or.inr rfl⟩
  obtain ⟨mb, hmb⟩ : ∃ m, m ≤ nb ∧ m ≤ 60 ∧ (m = nb ∨ m = 60) := by
    by_cases h : nb ≤ 60
    · exact ⟨nb, Nat.le_refl _, h, Or.inl rfl⟩
    · exact ⟨60, by omega, Nat.le_refl _, Or.inr rfl⟩
  have hpa := plain_at ha ma hma
  obtain ⟨x, hx⟩ : ∃ x, x = pl Xa ma := ⟨_, rfl⟩
  obtain ⟨y, hy⟩ : ∃ y, y = pl Xb mb := ⟨_, rfl⟩
  have ox := pl_ok ha la hma.1
  have oy := pl_ok hb lb hmb.1
  have sx := pl_simple Xa ma
  have sy := pl_simple Xb mb
  have lx := pl_len Xa ma
  have ly := pl_len Xb mb
  rw [← hx] at hpa ox sx lx
  rw [← hy] at oy sy ly
  have lx60 : x.length ≤ 60 := by omega
  have ly60 : y.length ≤ 60 := by omega
  have HH := Lib.hid (And.intro hb (And.intro hE (And.intro hy hmb)))
  have HO := Lib.hid (And.intro ox (And.intro oy (And.intro sx sy)))
  clear ha hb la lb hE hma hmb hx hy ox oy sx sy lx ly
  go_enter Tryd.func5, Tryd.ntmps5
  go_wp2_with fail
  refine hpa.mono ?_
  clear hpa
  rintro e w1 ⟨v7, rfl, hr1, hb1⟩
  obtain ⟨p7, c7, rfl⟩ := own_shape hr1
  have hpb := plain_at (HH.out.1.below hb1) mb HH.out.2.2.2
  rw [← HH.out.2.2.1] at hpb
  have HR1 := Lib.hid hr1
  have HB1 := Lib.hid hb1
  clear hr1 hb1
  go_wp2_with fail
  refine hpb.mono ?_
  clear hpb
  rintro e w2 ⟨v8, rfl, hr2, hb2⟩
  obtain ⟨p8, c8, rfl⟩ := own_shape hr2
  have hrx := own_below HR1.out hb2
  obtain ⟨_, _, e7, hix, -⟩ := own_items hrx HO.out.1 (by decide)
  cases e7
  obtain ⟨_, _, e8, hiy, -⟩ := own_items hr2 HO.out.2.1 (by decide)
  cases e8
  have HB2 := Lib.hid (HB1.out.trans (hb2.mono HB1.out.size))
  have has := assemble_at hix (HH.out.2.1.below HB2.out) (by omega) base
  have HI := Lib.hid (And.intro hix hiy)
  clear hrx hix hiy hr2 hb2 HR1 HB1
  go_wp2_with fail
  refine has.mono ?_
  clear has
  rintro e w3 ⟨ha1, hb3⟩
  obtain ⟨p1, n1, c1, q1, m1, d1, k1, rfl, h1⟩ := assembled_simple HO.out.2.2.1 (by omega) (by omega) ha1
  have hn1 : (0 : Int) ≤ base + n1 ∧ base + n1 ≤ 66000 := by
    rcases h1 with ⟨-, -, h⟩ | ⟨-, -, h, -⟩ <;> omega
  have H1 := Lib.hid h1
  have HB3 := Lib.hid (HB2.out.trans (hb3.mono HB2.out.size))
  have HI3 := Lib.hid (And.intro (HI.out.1.below hb3) (HI.out.2.below hb3))
  have has := assemble_at HI3.out.2 (HH.out.2.1.below HB3.out) (by omega) (base + n1)
  clear ha1 h1 hb3 HI HB2
  go_wp2_with fail
  refine has.mono ?_
  clear has
  rintro e w4 ⟨ha2, hb4⟩
  obtain ⟨p2, n2, c2, q2, m2, d2, k2, rfl, h2⟩ := assembled_simple HO.out.2.2.2 hn1 (by omega) ha2
  have H2 := Lib.hid h2
  have HB34 := Lib.hid hb4
  have HB4 := Lib.hid (HB3.out.trans (hb4.mono HB3.out.size))
  have HI4 := Lib.hid (And.intro (HI3.out.1.below hb4) (HI3.out.2.below hb4))
  clear ha2 h2 hb4 HI3 HB3
  go_wp2_with fail
  refine calls_one ?_
  intro w5 h5 hb5
  have ho := mobjs h5 rfl rfl (HI4.out.1.below hb5) (HI4.out.2.below hb5)
  have HB5 := Lib.hid (HB4.out.trans (hb5.mono HB4.out.size))
  have hlk := link_at ho (mov_few lx60 ly60 HO.out.1 HO.out.2.1) (HH.out.2.1.below HB5.out) base
  rw [show (movL x y).length = 2 from rfl] at hlk
  have HB45 := Lib.hid hb5
  clear h5 hb5 ho HI4 HB4
  refine hlk.mono ?_
  clear hlk
  rintro e w6 ⟨hl, hb6⟩
  obtain ⟨p3, n3, c3, q3, m3, d3, k3, rfl, h3⟩ := linked_simple HO.out.2.2.1 HO.out.2.2.2 (by omega) lx60 ly60 hl
  have H3 := Lib.hid h3
  have HB6 := Lib.hid (HB5.out.trans (hb6.mono HB5.out.size))
  have HB46 := Lib.hid (HB45.out.trans (hb6.mono HB45.out.size))
  clear hl h3 hb6 HB45 HB5
  go_upto_region 5 with fail
  refine wp_one ?_
  intro w7 h7 hb7
  obtain ⟨T, hT⟩ : ∃ T, T = w6.heap.size := ⟨_, rfl⟩
  rw [← hT] at h7
  rw [← hT]
  obtain ⟨t0, t1⟩ := cells2 h7
  have HB7 := Lib.hid (HB6.out.trans (hb7.mono HB6.out.size))
  have HB67 := Lib.hid hb7
  have HB47 := Lib.hid (HB46.out.trans (hb7.mono HB46.out.size))
  clear h7 hb7 hT HB6
  have hfin : ∀ wz, Below w.heap.size w wz → Calls Tryd.prog 9 #[] wz fun e w' => e = .returned (.bool true) ∧ Below wz.heap.size wz w' := fun wz hz => works_any wz (HH.out.2.1.below hz)
  by_cases hk1 : k1 = 0
  · by_cases hk2 : k2 = 0
    · subst hk1 hk2
      rcases H1.out with ⟨-, hne, -⟩ | ⟨bx, -, rfl, r1⟩
      · exact absurd rfl hne
      rcases H2.out with ⟨-, hne, -⟩ | ⟨by', -, rfl, r2⟩
      · exact absurd rfl hne
      rcases H3.out with ⟨hbad, -⟩ | ⟨-, rfl, hn3, r3⟩
      · rcases hbad with h | h
        · exact absurd bx h
        · exact absurd by' h
      have g1 := own_below (own_below r1 HB34.out) HB47.out
      have g2 := own_below r2 HB47.out
      have g3 := own_below r3 HB67.out
      have HG := Lib.hid (And.intro g1 (And.intro g2 g3))
      have hN : (x.length : Int) + y.length = n3 := by omega
      have HN3 := Lib.hid hn3
      have hl3 : (x.map wrd ++ y.map wrd).length = n3 := by simp [hn3]
      have hlx : (x.map wrd).length = x.length := by simp
      have hly : (y.map wrd).length = y.length := by simp
      have HL := Lib.hid (And.intro hl3 (And.intro hlx hly))
      have HT := Lib.hid t0
      obtain ⟨lx, hlxx⟩ : ∃ lx, lx = x.length := ⟨_, rfl⟩
      obtain ⟨ly, hlyy⟩ : ∃ ly, ly = y.length := ⟨_, rfl⟩
      rw [← hlxx, ← hlyy] at hN
      rw [← hlxx] at lx60
      rw [← hlyy] at ly60
      rw [← hlxx, ← hlyy] at HG
      rw [← hlxx, ← hlyy]
      have HLL := Lib.hid (And.intro hlxx hlyy)
      have hn120 : n3 ≤ 120 := by omega
      clear H1 H2 H3 r1 r2 r3 g1 g2 g3 bx by' hn3 hl3 hlx hly t1 hn1 hbs hlxx hlyy
      go_wp2_with fail
      clear t0
      go_loopw [17] (fun s17 wr => ∃ k : Nat, s17 = .int .i64 k ∧ k ≤ n3 ∧ Below w7.heap.size w7 wr) (fun s17 _ => n3 - (intOf s17).toNat)
      case atStart => exact ⟨0, rfl, Nat.zero_le _, Below.refl _ _⟩
      case round =>
        obtain ⟨k, rfl, hk, hb⟩ := hrel
        have t0 := (hb.cell (World.block_lt_of_cell? w7 _ HT.out)).trans HT.out
        by_cases hlt : k < n3
        · have d1 : decide ((k : Int) < (n3 : Int)) = true := decide_eq_true (by omega)
          have ek : (k : Int) < (n3 : Int) := by omega
          obtain ⟨g3, rfl, r3⟩ := word_at (own_below HG.out.2.2 hb) HL.out.1.symm hlt
          by_cases hkx : k < lx
          · have d2 : decide ((k : Int) < (lx : Int)) = true := decide_eq_true (by omega)
            have d3 : decide ((lx : Int) ≤ (k : Int)) = false := decide_eq_false (by omega)
            have d3' : decide ((k : Int) ≥ (lx : Int)) = false := decide_eq_false (by omega)
            have d3n : decide (lx ≤ k) = false := decide_eq_false (by omega)
            have ekx : (k : Int) < (lx : Int) := by omega
            obtain ⟨g1, rfl, r1⟩ := word_at (own_below HG.out.1 hb) (by rw [HL.out.2.1]; exact HLL.out.1) hkx
            have e : (x.map wrd ++ y.map wrd).getD k 0 = (x.map wrd).getD k 0 := by
              rw [List.getD_eq_getElem?_getD, List.getD_eq_getElem?_getD, List.getElem?_append_left (by have := HL.out.2.1; have := HLL.out.1; omega)]
            rw [e] at r3
            obtain ⟨z, hz⟩ : ∃ z, z = (x.map wrd).getD k 0 := ⟨_, rfl⟩
            rw [← hz] at r1 r3
            have HX := Lib.hid hb
            clear hb e hz
            go_wp2_with fail
            go_quiet (fail)
            go_wp2_with fail
            go_roundw
            case rel => exact ⟨k + 1, by go_num, hlt, below_drewN HX.out nq⟩
            case measure => simp [intOf]; omega
          · have d2 : decide ((k : Int) < (lx : Int)) = false := decide_eq_false (by omega)
            have d3 : decide ((lx : Int) ≤ (k : Int)) = true := decide_eq_true (by omega)
            have d3' : decide ((k : Int) ≥ (lx : Int)) = true := decide_eq_true (by omega)
            have d3n : decide (lx ≤ k) = true := decide_eq_true (by omega)
            have d2n : decide (k < lx) = false := decide_eq_false (by omega)
            obtain ⟨j, hj⟩ : ∃ j : Nat, (k : Int) - lx = j := ⟨k - lx, by omega⟩
            have hjy : j < ly := by omega
            have ejy : (j : Int) < (ly : Int) := by omega
            obtain ⟨g2, rfl, r2⟩ := word_at (own_below HG.out.2.1 hb) (by rw [HL.out.2.2]; exact HLL.out.2) hjy
            have e : (x.map wrd ++ y.map wrd).getD k 0 = (y.map wrd).getD j 0 := by
              have ek2 : k - (x.map wrd).length = j := by have := HL.out.2.1; have := HLL.out.1; omega
              rw [List.getD_eq_getElem?_getD, List.getD_eq_getElem?_getD, List.getElem?_append_right (by have := HL.out.2.1; have := HLL.out.1; omega), ek2]
            rw [e] at r3
            obtain ⟨z, hz⟩ : ∃ z, z = (y.map wrd).getD j 0 := ⟨_, rfl⟩
            rw [← hz] at r2 r3
            have HX := Lib.hid hb
            clear hb e hz
            go_wp2_with fail
            go_quiet (fail)
            go_wp2_with fail
            go_roundw
            case rel => exact ⟨k + 1, by go_num, hlt, below_drewN HX.out nq⟩
            case measure => simp [intOf]; omega
        · have hz : k = n3 := by omega
          subst hz
          have d1 : decide ((k : Int) < (k : Int)) = false := by simp
          have hbf := HB7.out.trans (hb.mono HB7.out.size)
          have HX := Lib.hid hbf
          have hwo := hfin wr hbf
          clear hb hbf
          go_wp2_with fail
          refine hwo.mono ?_
          rintro e w8 ⟨rfl, hb8⟩
          have HB8 := Lib.hid (HX.out.trans (hb8.mono HX.out.size))
          clear hb8
          go_wp2_with fail
          go_ret
          exact ⟨rfl, HB8.out⟩
    · have dk2 : (k2 != 0) = true := by simp [hk2]
      have hk3 : k3 ≠ 0 := by
        rcases H3.out with ⟨-, h⟩ | ⟨⟨-, h⟩, -⟩
        · exact h
        · rcases H2.out with ⟨h2, -⟩ | ⟨-, h2, -⟩
          · exact absurd h h2
          · exact absurd h2 hk2
      have dk3 : (k3 != 0) = true := by simp [hk3]
      subst hk1
      have hwo := hfin w7 HB7.out
      clear H1 H2 H3 hn1
      go_wp2_with fail
      refine hwo.mono ?_
      rintro e w8 ⟨rfl, hb8⟩
      have HB8 := Lib.hid (HB7.out.trans (hb8.mono HB7.out.size))
      clear hb8
      go_wp2_with fail
      go_ret
      exact ⟨rfl, HB8.out⟩
  · have dk1 : (k1 != 0) = true := by simp [hk1]
    have hk3 : k3 ≠ 0 := by
      rcases H3.out with ⟨-, h⟩ | ⟨⟨h, -⟩, -⟩
      · exact h
      · rcases H1.out with ⟨h2, -⟩ | ⟨-, h2, -⟩
        · exact absurd h h2
        · exact absurd h2 hk1
    have dk3 : (k3 != 0) = true := by simp [hk3]
    have hwo := hfin w7 HB7.out
    clear H1 H2 H3 hn1
    go_wp2_with fail
    refine hwo.mono ?_
    rintro e w8 ⟨rfl, hb8⟩
    have HB8 := Lib.hid (HB7.out.trans (hb8.mono HB7.out.size))
    clear hb8
    go_wp2_with fail
    go_ret
    exact ⟨rfl, HB8.out⟩
end Go.Proofs.YtbplmbignalbgaaDoor
