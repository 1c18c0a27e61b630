/- Contracts: Link. Conditions: the objects lie as told, and may be gone through; the table of forms is as laid. Contracts: where a label stands, how many items are no labels. Conditions: the objects and places lie as told. Contracts: how many items are no labels; rows of words and of places that are alike. Conditions: the objects and rows lie as told. Plain: objects that are told outright, and their images. Contracts: works. Conditions: the table of forms is as laid. -/
import Derived.Test.YtbplmbignalbgaaDoorLiP
import Derived.Test.YtbplmbignalbgaaDoorAsX
import Derived.Test.YtbplmbignalbgaaDoorAsY
import Derived.Deep.QuietTactic
namespace Go.Proofs.YtbplmbignalbgaaDoor
open Go.RowKit Asm
set_option linter.unusedVariables false
set_option linter.unusedSimpArgs false

theorem own_far {w : World} {B T e m n i j : Nat} {v x y : Value} {xs : List Value} (h : w.ownsRow B e m v n xs) (hT : T < B) : ((w.setCell ⟨T, i, none⟩ x).setCell ⟨T, j, none⟩ y).ownsRow B e m v n xs := by

  exact ownsRow_setCell_below (ownsRow_setCell_below h hT _) hT _
theorem two_set {w : World} {b t : Nat} {x0 y0 x y : Value} (h : w.heap[b]? = some (.cells #[x0, y0] t (0, 0))) : ((w.setCell ⟨b, 0, none⟩ x).setCell ⟨b, 1, none⟩ y).heap[b]? = some (.cells #[x, y] t (0, 0)) :=
  heap_setCell_same _ b 1 _ t y (heap_setCell_same w b 0 _ t x h)
theorem frozen2 {w : World} {b t : Nat} {cs : Array Value} (h : w.heap[b]? = some (.cells cs t (0, 0))) : ∀ i, w.frozen? ⟨b, i, none⟩ = false := freeF h
/-- What Link returns. -/
def Linked (W w' : World) (L : List Ob) (base : Int) (e : Ending) : Prop :=
  (lcheck L ≠ 0 ∧ e = .returned (.tuple #[.agg #[.slice none 0 0, .slice none 0 0], .int .i64 (lcheck L)])) ∨
  (lcheck L = 0 ∧ Outcome (litX (flat L)) (flat L).length base (fun c => e = .returned (.tuple #[.agg #[.slice none 0 0, .slice none 0 0], .int .i64 c]))
    (fun f => ∃ O vp, e = .returned (.tuple #[.agg #[.slice (some ⟨O, 0, none⟩) (wordsL (litX (flat L)) (flat L).length base f (flat L).length).length (wordsL (litX (flat L)) (flat L).length base f (flat L).length).length, vp], .int .i64 0]) ∧
      Words w' W.heap.size O (wordsL (litX (flat L)) (flat L).length base f (flat L).length).length (wordsL (litX (flat L)) (flat L).length base f (flat L).length).length (wordsL (litX (flat L)) (flat L).length base f (flat L).length) ∧
      w'.ownsRow W.heap.size 47 2 vp (placesL (litX (flat L)) (ad (litX (flat L)) base f) (flat L).length).length (rowP (placesL (litX (flat L)) (ad (litX (flat L)) base f) (flat L).length))))
set_option maxRecDepth 100000 in
set_option maxHeartbeats 4000000 in
theorem link_at {w : World} {p : Option Addr} {c : Nat} {L : List Ob} (h : Objs w p c L) (hf : Few L) (hE : Env w) (base : Int) :
    Calls Tryd.prog 11 #[.slice p L.length c, .int .i64 base] w fun e w' => Linked w w' L base e ∧ Below w.heap.size w w' := by
  have hal := (Below.refl w.heap.size w).alloc (Nat.le_refl _) (.cells #[.slice none 0 0, .slice none 0 0] 30)
  have hT := heap_new w (.cells #[.slice none 0 0, .slice none 0 0] 30)
  obtain ⟨w1, hw1⟩ : ∃ w1, w1 = w.alloc (.cells #[.slice none 0 0, .slice none 0 0] 30) := ⟨_, rfl⟩
  obtain ⟨T, hTT⟩ : ∃ T, T = w.heap.size := ⟨_, rfl⟩
  rw [← hw1, ← hTT] at hT
  rw [← hw1] at hal
  have hnm := names_at (h.below hal) (by have := hf.n; omega)
  have HT := Lib.hid (And.intro hT (And.intro hal hTT))
  have HH := Lib.hid (And.intro h (And.intro hf hE))
  clear hT hal h hf hE
  go_enter Tryd.func11, Tryd.ntmps11
  go_upto_region 1 with fail
  rw [← hw1, ← hTT]
  clear hw1 hTT
  go_wp2_with fail
  refine hnm.mono ?_
  rintro e w2 ⟨rfl, hb⟩
  clear hnm
  have hT2 := (hb.block _ (lt_of_block HT.out.1)).trans HT.out.1
  have HB := Lib.hid (And.intro (HT.out.2.1.trans (hb.mono HT.out.2.1.size)) hT2)
  clear hb
  obtain ⟨ec, hec⟩ : ∃ ec, ec = lcheck L := ⟨_, rfl⟩
  rw [← hec]
  have HC := Lib.hid hec
  clear hec
  by_cases hz : ec = 0
  · subst hz
    have hsz2 : w.heap.size ≤ w2.heap.size := HB.out.1.size
    have hn8 := HH.out.2.1.n
    have hT2l : T < w2.heap.size := lt_of_block hT2
    clear hT2
    go_wp2_with fail
    go_loopw [7, 21] (fun s7 s21 wr => ∃ k : Nat, s21 = .int .i64 k ∧ k ≤ L.length ∧ wr.ownsRow w2.heap.size 40 8 s7 (flat (L.take k)).length (rowL (flat (L.take k))) ∧ Below w2.heap.size w2 wr) (fun _ s21 _ => L.length - (intOf s21).toNat)
    case atStart => exact ⟨0, rfl, Nat.zero_le _, World.ownsRow_nil _ _ _ _, Below.refl _ _⟩
    case round =>
      obtain ⟨k, rfl, hk, ho, hb⟩ := hrel
      obtain ⟨v7, hv7⟩ : ∃ v7, v7 = u7 := ⟨_, rfl⟩
      rw [← hv7] at ho ⊢
      clear hv7
      by_cases hlt : k < L.length
      · as_aux_lemma =>
          have d1 : decide ((k : Int) < (L.length : Int)) = true := decide_eq_true (by omega)
          have ek : (k : Int) < (L.length : Int) := by omega
          obtain ⟨b, off, q, m, rfl, k0, k1, hit⟩ := ((HH.out.1.below HB.out.1).below hb).at hlt
          obtain ⟨nm, hnm2⟩ : ∃ nm, nm = (ob L k).name := ⟨_, rfl⟩
          obtain ⟨M, hM⟩ : ∃ M, M = (ob L k).items := ⟨_, rfl⟩
          rw [← hnm2] at k0
          rw [← hM] at k1 hit
          have hal := (Below.refl wr.heap.size wr).alloc (Nat.le_refl _) (.cells #[.string nm, .slice q M.length m] 49)
          have hN := cells2 (heap_new wr (.cells #[.string nm, .slice q M.length m] 49))
          have hit2 := hit.below hal
          have ho2 := ho.alloc (.cells #[.string nm, .slice q M.length m] 49)
          have hb2 := hb.trans (hal.mono hb.size)
          obtain ⟨w3, hw3⟩ : ∃ w3, w3 = wr.alloc (.cells #[.string nm, .slice q M.length m] 49) := ⟨_, rfl⟩
          obtain ⟨Q, hQ⟩ : ∃ Q, Q = wr.heap.size := ⟨_, rfl⟩
          rw [← hw3] at hN hit2 ho2 hb2
          rw [← hQ] at hN
          have hl1 := HH.out.2.1.flat_len k (by omega)
          have hl2 := HH.out.2.1.items k hlt
          have hl3 := HH.out.2.1.n
          have hl4 := HH.out.2.1.name k hlt
          have hl5 := HH.out.2.1.ok k hlt
          rw [← hM] at hl2 hl5
          rw [← hnm2] at hl4
          have hjo := join_at (nm := nm) ho2 hit2 (by omega) hb2.size (by omega) (hl5.mono (by omega))
          have HX := Lib.hid (And.intro hb2 (And.intro hnm2 hM))
          clear hb hal hit hit2 ho ho2 hb2 hnm2 hM hl1 hl2 hl3 hl4 hl5
          go_upto_region 8 with fail
          rw [← hw3, ← hQ]
          clear hw3 hQ k0 k1
          obtain ⟨n0, n1⟩ := hN
          go_wp2_with fail
          refine hjo.mono ?_
          rintro e w4 ⟨v', rfl, ho4, hb4⟩
          clear hjo
          have HO := Lib.hid (And.intro ho4 hb4)
          clear ho4 hb4 n0 n1
          go_wp2_with fail
          go_roundw
          case rel =>
            refine ⟨k + 1, by go_num, hlt, ?_, HX.out.1.trans HO.out.2⟩
            have h1 := HO.out.1
            rw [HX.out.2.1, HX.out.2.2] at h1
            rw [flat_take hlt, List.length_append, List.length_map]
            exact h1
          case measure => simp [intOf]; omega
      · have hz : k = L.length := by omega
        subst hz
        have d1 : decide ((L.length : Int) < (L.length : Int)) = false := by simp
        rw [flat_all] at ho
        have hfl := HH.out.2.1.flat_len L.length (Nat.le_refl _)
        have hfo := HH.out.2.1.flat_ok L.length (Nat.le_refl _)
        have hl3 := HH.out.2.1.n
        rw [flat_all] at hfl hfo
        obtain ⟨p7, c7, rfl, hit, -⟩ := own_items ho hfo (by omega)
        have hbr := HB.out.1.trans (hb.mono hsz2)
        have has := assemble_at hit (HH.out.2.2.below hbr) (by omega) base
        have HT3 := Lib.hid (And.intro hbr (And.intro ((hb.block _ hT2l).trans HB.out.2) (And.intro hfl (fun i hi => ((hfo _ (litX_mem hi)).1.1 : 0 ≤ (litX (flat L) i).word)))))
        clear ho hb hit hbr hfl hfo hl3
        go_wp2_with fail
        refine has.mono ?_
        rintro e w5 ⟨ha, hb5⟩
        clear has
        have hT5 := (hb5.block _ (lt_of_block HT3.out.2.1)).trans HT3.out.2.1
        have hB5 := HT3.out.1.trans (hb5.mono HT3.out.1.size)
        have hsz5 := HT3.out.1.size
        clear hb5
        rcases ha with ⟨hc, rfl⟩ | ⟨hc, f, hl, ⟨hlong, rfl⟩ | ⟨hlong, O, vp, rfl, hw5, hp5⟩⟩
        · as_aux_lemma =>
            obtain ⟨cv, hcv⟩ : ∃ cv, cv = check (litX (flat L)) (flat L).length base := ⟨_, rfl⟩
            rw [← hcv] at hc ⊢
            have dz : (cv != 0) = true := by simp [hc]
            have hfz := frozen2 hT5
            obtain ⟨c0, c1⟩ := cells2 hT5
            have HV := Lib.hid hcv
            clear hcv
            go_wp2_with fail
            obtain ⟨wz, hwz⟩ : ∃ wz, wz = (w5.setCell ⟨T, 0, none⟩ (.slice none 0 0)).setCell ⟨T, 1, none⟩ (.slice none 0 0) := ⟨_, rfl⟩
            have hz2 := two_set (x := (.slice none 0 0)) (y := (.slice none 0 0)) hT5
            have hbz : Below w.heap.size w wz := by rw [hwz]; exact (hB5.setCell (Nat.le_of_eq HT.out.2.2.symm) _).setCell (Nat.le_of_eq HT.out.2.2.symm) _
            rw [← hwz] at hz2 ⊢
            obtain ⟨z0, z1⟩ := cells2 hz2
            refine bodyPost_ret (v := .tuple #[.agg #[(.slice none 0 0), (.slice none 0 0)], .int .i64 cv]) (by simp [results, Tryd.results11, go_sem, z0, z1]) rfl ⟨Or.inr ⟨HC.out.symm, Or.inl ⟨by rw [← HV.out]; exact hc, by rw [← HV.out]⟩⟩, hbz⟩
        · as_aux_lemma =>
            have hfz := frozen2 hT5
            obtain ⟨c0, c1⟩ := cells2 hT5
            have HV := Lib.hid (And.intro hc (And.intro hl hlong))
            clear hc hl hlong
            go_wp2_with fail
            obtain ⟨wz, hwz⟩ : ∃ wz, wz = (w5.setCell ⟨T, 0, none⟩ (.slice none 0 0)).setCell ⟨T, 1, none⟩ (.slice none 0 0) := ⟨_, rfl⟩
            have hz2 := two_set (x := (.slice none 0 0)) (y := (.slice none 0 0)) hT5
            have hbz : Below w.heap.size w wz := by rw [hwz]; exact (hB5.setCell (Nat.le_of_eq HT.out.2.2.symm) _).setCell (Nat.le_of_eq HT.out.2.2.symm) _
            rw [← hwz] at hz2 ⊢
            obtain ⟨z0, z1⟩ := cells2 hz2
            refine bodyPost_ret (v := .tuple #[.agg #[(.slice none 0 0), (.slice none 0 0)], .int .i64 3]) (by simp [results, Tryd.results11, go_sem, z0, z1]) rfl ⟨Or.inr ⟨HC.out.symm, Or.inr ⟨HV.out.1, f, HV.out.2.1, Or.inl ⟨HV.out.2.2, rfl⟩⟩⟩, hbz⟩
        · as_aux_lemma =>
            have hfz := frozen2 hT5
            obtain ⟨c0, c1⟩ := cells2 hT5
            obtain ⟨pp, cp, rfl⟩ := own_shape hp5
            obtain ⟨np, hnp⟩ : ∃ np, np = (placesL (litX (flat L)) (ad (litX (flat L)) base f) (flat L).length).length := ⟨_, rfl⟩
            rw [← hnp] at hp5 ⊢
            have HNP := Lib.hid hnp
            clear hnp
            have hTr : T < wr.heap.size := lt_of_block HT3.out.2.1
            have hwl := wordsL_len hl.1.1 HT3.out.2.2.2 (kind_of hc) (flat L).length (Nat.le_refl _) (base := base)
            obtain ⟨ws, hws⟩ : ∃ ws, ws = (wordsL (litX (flat L)) (flat L).length base f (flat L).length).length := ⟨_, rfl⟩
            rw [← hws] at hwl ⊢
            have hck := (check_parts hc).1
            have d3 : decide (67108864 < (ws : Int)) = false := decide_eq_false (by omega)
            have d3' : decide ((ws : Int) > 67108864) = false := decide_eq_false (by omega)
            have HV := Lib.hid (And.intro hc (And.intro hl (And.intro hlong (And.intro hw5 (And.intro hp5 hws)))))
            clear hc hl hlong hw5 hp5 hws hwl hck
            go_wp2_with fail
            obtain ⟨wz, hwz⟩ : ∃ wz, wz = (w5.setCell ⟨T, 0, none⟩ (.slice (some ⟨O, 0, none⟩) ws ws)).setCell ⟨T, 1, none⟩ (.slice pp np cp) := ⟨_, rfl⟩
            have hz2 := two_set (x := (.slice (some ⟨O, 0, none⟩) ws ws)) (y := (.slice pp np cp)) hT5
            have hbz : Below w.heap.size w wz := by rw [hwz]; exact (hB5.setCell (Nat.le_of_eq HT.out.2.2.symm) _).setCell (Nat.le_of_eq HT.out.2.2.symm) _
            rw [← hwz] at hz2 ⊢
            obtain ⟨z0, z1⟩ := cells2 hz2
            refine bodyPost_ret (v := .tuple #[.agg #[(.slice (some ⟨O, 0, none⟩) ws ws), (.slice pp np cp)], .int .i64 0]) (by simp [results, Tryd.results11, go_sem, z0, z1]) rfl ⟨Or.inr ⟨HC.out.symm, Or.inr ⟨HV.out.1, f, HV.out.2.1, Or.inr ⟨HV.out.2.2.1, O, .slice pp np cp, by rw [← HV.out.2.2.2.2.2], ?_, ?_⟩⟩⟩, hbz⟩
            · rw [hwz]
              exact own_base (own_far (HV.out.2.2.2.1) hTr) hsz5
            · rw [hwz, ← HNP.out]
              exact own_base (own_far (HV.out.2.2.2.2.1) hTr) hsz5
  · as_aux_lemma =>
      have dz : (ec != 0) = true := by simp [hz]
      have hfz := frozen2 hT2
      obtain ⟨c0, c1⟩ := cells2 hT2
      have hB2 := HB.out.1
      go_wp2_with fail
      obtain ⟨wz, hwz⟩ : ∃ wz, wz = (w2.setCell ⟨T, 0, none⟩ (.slice none 0 0)).setCell ⟨T, 1, none⟩ (.slice none 0 0) := ⟨_, rfl⟩
      have hz2 := two_set (x := (.slice none 0 0)) (y := (.slice none 0 0)) hT2
      have hbz : Below w.heap.size w wz := by rw [hwz]; exact (hB2.setCell (Nat.le_of_eq HT.out.2.2.symm) _).setCell (Nat.le_of_eq HT.out.2.2.symm) _
      rw [← hwz] at hz2 ⊢
      obtain ⟨z0, z1⟩ := cells2 hz2
      refine bodyPost_ret (v := .tuple #[.agg #[(.slice none 0 0), (.slice none 0 0)], .int .i64 ec]) (by simp [results, Tryd.results11, go_sem, z0, z1]) rfl ⟨Or.inl ⟨by rw [← HC.out]; exact hz, by rw [← HC.out]⟩, hbz⟩

theorem row_cells {w : World} {p : Option Addr} {c B : Nat} {P : List (ByteArray × Int)} {n : Nat} (h : w.ownsRow B 47 2 (.slice p n c) n (rowP P)) (hn : P.length = n) {k : Nat} (hk : k < n) : ∃ g, p = some ⟨g, 0, none⟩ ∧ w.cell? ⟨g, k * 2, none⟩ = some (.string (P.getD k default).1) ∧ w.cell? ⟨g, k * 2 + 1, none⟩ = some (.int .i64 (P.getD k default).2) := by
  obtain ⟨g, cap, e, -, -⟩ := World.ownsRow.form h (by omega)
  simp only [Value.slice.injEq] at e
  obtain ⟨rfl, -, rfl⟩ := e
  have key : ∀ (L : List (ByteArray × Int)) (j : Nat), j < L.length → (rowP L)[j * 2]? = some (.string (L.getD j default).1) ∧ (rowP L)[j * 2 + 1]? = some (.int .i64 (L.getD j default).2) := by
    intro L
    induction L with
    | nil => intro j hj; simp at hj
    | cons q r ih =>
      intro j hj
      have e : rowP (q :: r) = .string q.1 :: .int .i64 q.2 :: rowP r := rfl
      rw [e]
      cases j with
      | zero => exact ⟨rfl, rfl⟩
      | succ j =>
        rw [show (j + 1) * 2 = j * 2 + 2 by omega]
        have := ih j (by simpa using hj)
        exact ⟨this.1, this.2⟩
  obtain ⟨e1, e2⟩ := key P k (by omega)
  exact ⟨g, rfl, (World.ownsRow.cellAt h (k * 2) (by omega)).trans e1, (World.ownsRow.cellAt h (k * 2 + 1) (by omega)).trans e2⟩
/-- The first place among k with a label. -/
def pfind (P : List (ByteArray × Int)) (s : ByteArray) : Nat → Option Int
  | 0 => none
  | k + 1 => match pfind P s k with
    | some a => some a
    | none => if (P.getD k default).1 = s then some (P.getD k default).2 else none
theorem pfind_stays {P : List (ByteArray × Int)} {s : ByteArray} {k : Nat} {a : Int} (h : pfind P s k = some a) : ∀ m, k ≤ m → pfind P s m = some a
  | 0, hm => by obtain rfl : k = 0 := by omega
                exact h
  | m + 1, hm => by
    by_cases he : k = m + 1
    · rw [← he]; exact h
    · show (match pfind P s m with | some a => some a | none => _) = some a
      rw [pfind_stays h m (by omega)]
theorem pfind_hit {P : List (ByteArray × Int)} {s : ByteArray} {k : Nat} (h : pfind P s k = none) (h2 : (P.getD k default).1 = s) : pfind P s (k + 1) = some (P.getD k default).2 := by
  show (match pfind P s k with | some a => some a | none => if _ then _ else none) = _
  rw [h]
  exact if_pos h2
theorem pfind_miss {P : List (ByteArray × Int)} {s : ByteArray} {k : Nat} (h : pfind P s k = none) (h2 : (P.getD k default).1 ≠ s) : pfind P s (k + 1) = none := by
  show (match pfind P s k with | some a => some a | none => if _ then _ else none) = _
  rw [h]
  exact if_neg h2
def foundV (o : Option Int) : Value := .tuple #[.int .i64 (o.getD 0), .bool o.isSome]
set_option maxRecDepth 100000 in
set_option maxHeartbeats 4000000 in
theorem find_at {w : World} {p : Option Addr} {n c B : Nat} {P : List (ByteArray × Int)} (h : w.ownsRow B 47 2 (.slice p n c) n (rowP P)) (hn : P.length = n) (hm : n ≤ 1000000000) (pw : Option Addr) (nw cw : Nat) (s : ByteArray) :
    Calls Tryd.prog 15 #[.agg #[.slice pw nw cw, .slice p n c], .string s] w fun e w' => e = .returned (foundV (pfind P s n)) ∧ Below w.heap.size w w' := by
  have hal := (Below.refl w.heap.size w).alloc (Nat.le_refl _) (.cells #[.slice pw nw cw, .slice p n c] 30)
  have hN := cells2 (heap_new w (.cells #[.slice pw nw cw, .slice p n c] 30))
  have ho := h.alloc (.cells #[.slice pw nw cw, .slice p n c] 30)
  obtain ⟨w1, hw1⟩ : ∃ w1, w1 = w.alloc (.cells #[.slice pw nw cw, .slice p n c] 30) := ⟨_, rfl⟩
  obtain ⟨Q, hQ⟩ : ∃ Q, Q = w.heap.size := ⟨_, rfl⟩
  rw [← hw1] at hN ho hal
  rw [← hQ] at hN
  have H := Lib.hid (And.intro ho (And.intro hal hn))
  clear h ho hal hn
  go_enter Tryd.func15, Tryd.ntmps15
  go_upto_region 1 with fail
  rw [← hw1, ← hQ]
  clear hw1 hQ
  obtain ⟨c0, c1⟩ := hN
  go_wp2_with fail
  clear c0 c1
  go_loopw [11] (fun i wr => ∃ k : Nat, i = .int .i64 k ∧ k ≤ n ∧ pfind P s k = none ∧ Below w1.heap.size w1 wr) (fun i _ => n - (intOf i).toNat)
  case atStart => exact ⟨0, rfl, Nat.zero_le _, rfl, Below.refl _ _⟩
  case round =>
    obtain ⟨k, rfl, hk, hpf, hb⟩ := hrel
    by_cases hlt : k < n
    · as_aux_lemma =>
        have d1 : decide ((k : Int) < (n : Int)) = true := decide_eq_true (by omega)
        have ek : (k : Int) < (n : Int) := by omega
        obtain ⟨g, rfl, k0, k1⟩ := row_cells (own_below H.out.1 hb) H.out.2.2 hlt
        obtain ⟨⟨l, a⟩, hq⟩ : ∃ q, q = P.getD k default := ⟨_, rfl⟩
        rw [← hq] at k0 k1
        have HB := Lib.hid (And.intro hb (And.intro hpf hq))
        clear hb hpf hq
        by_cases hl : l = s
        · subst hl
          have d2 := bl_true (rfl : l = l)
          go_wp2_with fail
          go_ret2
          refine ⟨?_, (H.out.2.1.trans (HB.out.1.mono H.out.2.1.size)).alloc ?_ _⟩
          · rw [pfind_stays (pfind_hit (k := k) HB.out.2.1 (by rw [← HB.out.2.2])) n hlt, ← HB.out.2.2]
            rfl
          · have := HB.out.1.size; have := H.out.2.1.size; omega
        · have d2 := bl_false hl
          go_wp2_with fail
          go_roundw
          case rel => exact ⟨k + 1, by go_num, hlt, pfind_miss HB.out.2.1 (by rw [← HB.out.2.2]; exact hl), HB.out.1.alloc HB.out.1.size _⟩
          case measure => simp [intOf]; omega
    · as_aux_lemma =>
        have hz : k = n := by omega
        subst hz
        have d1 : decide ((k : Int) < (k : Int)) = false := by simp
        have HB := Lib.hid (And.intro hb hpf)
        clear hb hpf
        go_wp2_with fail
        go_ret2
        refine ⟨?_, H.out.2.1.trans (HB.out.1.mono H.out.2.1.size)⟩
        rw [HB.out.2]
        rfl

/-- How many of the first k items are no labels. -/
def cntI (M : List It) : Nat → Nat
  | 0 => 0
  | k + 1 => cntI M k + if (litX M k).kind = 2 then 0 else 1
theorem cntI_le (M : List It) : ∀ k, cntI M k ≤ k
  | 0 => Nat.le_refl _
  | k + 1 => by
    have := cntI_le M k
    show cntI M k + _ ≤ _
    split <;> omega
/-- The same of the first k objects. -/
def szL (L : List Ob) : Nat → Nat
  | 0 => 0
  | k + 1 => szL L k + cntI (ob L k).items (ob L k).items.length
theorem szL_le {L : List Ob} (h : ∀ i, i < L.length → (ob L i).items.length ≤ 60) : ∀ k, k ≤ L.length → szL L k ≤ k * 60
  | 0, _ => Nat.le_refl _
  | k + 1, hk => by
    have h1 := szL_le h k (by omega)
    have h2 := cntI_le (ob L k).items (ob L k).items.length
    have h3 := h k (by omega)
    show szL L k + _ ≤ _
    omega
set_option maxRecDepth 100000 in
set_option maxHeartbeats 4000000 in
theorem size_at {w : World} {p : Option Addr} {c : Nat} {L : List Ob} (h : Objs w p c L) (hf : Few L) :
    Calls Tryd.prog 16 #[.slice p L.length c] w fun e w' => e = .returned (.int .i64 (szL L L.length : Nat)) ∧ Below w.heap.size w w' := by
  have H := Lib.hid (And.intro h hf)
  have hn8 := hf.n
  clear h hf
  go_enter Tryd.func16, Tryd.ntmps16
  go_wp2_with fail
  go_loopw [3, 10] (fun s3 s10 wr => ∃ k : Nat, s10 = .int .i64 k ∧ k ≤ L.length ∧ s3 = .int .i64 (szL L k : Nat) ∧ Below w.heap.size w wr) (fun _ s10 _ => L.length - (intOf s10).toNat)
  case atStart => exact ⟨0, rfl, Nat.zero_le _, rfl, Below.refl _ _⟩
  case round =>
    obtain ⟨k, rfl, hk, rfl, hb⟩ := hrel
    by_cases hlt : k < L.length
    · as_aux_lemma =>
        have d1 : decide ((k : Int) < (L.length : Int)) = true := decide_eq_true (by omega)
        have ek : (k : Int) < (L.length : Int) := by omega
        obtain ⟨b, off, q, m, rfl, k0, k1, hit⟩ := (H.out.1.below hb).at hlt
        have hz := szL_le H.out.2.items k hk
        have hz2 := H.out.2.items k hlt
        obtain ⟨nm, hnm2⟩ : ∃ nm, nm = (ob L k).name := ⟨_, rfl⟩
        obtain ⟨M, hM⟩ : ∃ M, M = (ob L k).items := ⟨_, rfl⟩
        obtain ⟨z, hzz⟩ : ∃ z, z = szL L k := ⟨_, rfl⟩
        rw [← hnm2] at k0
        rw [← hM] at k1 hit hz2
        rw [← hzz] at hz ⊢
        have hal := (Below.refl wr.heap.size wr).alloc (Nat.le_refl _) (.cells #[.string nm, .slice q M.length m] 49)
        have hN := cells2 (heap_new wr (.cells #[.string nm, .slice q M.length m] 49))
        have hit2 := hit.below hal
        have hb2 := hb.trans (hal.mono hb.size)
        obtain ⟨w2, hw2⟩ : ∃ w2, w2 = wr.alloc (.cells #[.string nm, .slice q M.length m] 49) := ⟨_, rfl⟩
        obtain ⟨Q, hQ⟩ : ∃ Q, Q = wr.heap.size := ⟨_, rfl⟩
        rw [← hw2] at hN hit2 hb2
        rw [← hQ] at hN
        have HB := Lib.hid (And.intro hb2 (And.intro hit2 (And.intro hM hzz)))
        clear hb hal hit hit2 hb2 hnm2 hM hzz
        go_upto_region 5 with fail
        rw [← hw2, ← hQ]
        clear hw2 hQ k0 k1
        obtain ⟨c0, c1⟩ := hN
        go_wp2_with fail
        clear c0 c1
        go_loopw [3, 17] (fun s3 s17 wr => ∃ j : Nat, s17 = .int .i64 j ∧ j ≤ M.length ∧ s3 = .int .i64 (z + cntI M j : Nat) ∧ Below w2.heap.size w2 wr) (fun _ s17 _ => M.length - (intOf s17).toNat)
        case atStart => exact ⟨0, rfl, Nat.zero_le _, rfl, Below.refl _ _⟩
        case round =>
          obtain ⟨j, rfl, hj, rfl, hb⟩ := hrel
          have hcj := cntI_le M j
          by_cases hlt2 : j < M.length
          · as_aux_lemma =>
              have d2 : decide ((j : Int) < (M.length : Int)) = true := decide_eq_true (by omega)
              have ej : (j : Int) < (M.length : Int) := by omega
              obtain ⟨b2, off2, rfl, k0, k1, k2, k3, k4, k5, k6, k7⟩ := (HB.out.2.1.below hb).at hlt2
              obtain ⟨cn, hcn⟩ : ∃ cn, cn = cntI M j := ⟨_, rfl⟩
              rw [← hcn] at hcj ⊢
              have HX := Lib.hid (And.intro hb hcn)
              clear hb hcn
              by_cases hk2 : (litX M j).kind = 2
              · have d3 : ((litX M j).kind != 2) = false := by simp [hk2]
                have HK := Lib.hid hk2
                clear hk2
                go_wp2_with fail
                go_roundw
                case rel =>
                  refine ⟨j + 1, by go_num, hlt2, ?_, HX.out.1.alloc HX.out.1.size _⟩
                  show _ = Value.int .i64 ((z + (cntI M j + if (litX M j).kind = 2 then 0 else 1) : Nat) : Int)
                  rw [if_pos HK.out, ← HX.out.2]
                  rfl
                case measure => simp [intOf]; omega
              · have d3 : ((litX M j).kind != 2) = true := by simp [hk2]
                have HK := Lib.hid hk2
                clear hk2
                go_wp2_with fail
                go_roundw
                case rel =>
                  refine ⟨j + 1, by go_num, hlt2, ?_, HX.out.1.alloc HX.out.1.size _⟩
                  show _ = Value.int .i64 ((z + (cntI M j + if (litX M j).kind = 2 then 0 else 1) : Nat) : Int)
                  rw [if_neg HK.out, ← HX.out.2]
                  go_num
                case measure => simp [intOf]; omega
          · as_aux_lemma =>
              have hzj : j = M.length := by omega
              subst hzj
              have d2 : decide ((M.length : Int) < (M.length : Int)) = false := by simp
              have HX := Lib.hid hb
              clear hb
              go_wp2_with fail
              go_roundw
              case rel =>
                refine ⟨k + 1, by go_num, hlt, ?_, HB.out.1.trans (HX.out.mono HB.out.1.size)⟩
                show _ = Value.int .i64 ((szL L k + cntI (ob L k).items (ob L k).items.length : Nat) : Int)
                rw [← HB.out.2.2.1, ← HB.out.2.2.2]
              case measure => simp [intOf]; omega
    · as_aux_lemma =>
        have hz : k = L.length := by omega
        subst hz
        have d1 : decide ((L.length : Int) < (L.length : Int)) = false := by simp
        have HB := Lib.hid hb
        clear hb
        go_wp2_with fail
        go_ret
        exact ⟨rfl, HB.out⟩
set_option maxRecDepth 100000 in
set_option maxHeartbeats 4000000 in
theorem rSame_at {w : World} {pa pb : Option Addr} {n ca cb : Nat} {g : Nat → Int} (h : 0 < n → ∃ ba bb, pa = some ⟨ba, 0, none⟩ ∧ pb = some ⟨bb, 0, none⟩ ∧ ∀ j, j < n → w.cell? ⟨ba, j, none⟩ = some (.int .u32 (g j)) ∧ w.cell? ⟨bb, j, none⟩ = some (.int .u32 (g j))) (hn : n ≤ 1000000000) :
    Calls Tryd.prog 13 #[.slice pa n ca, .slice pb n cb] w fun e w' => e = .returned (.bool true) ∧ Below w.heap.size w w' := by
  have H := Lib.hid h
  clear h
  go_enter Tryd.func13, Tryd.ntmps13
  go_wp2_with fail
  go_loopw [5] (fun i wr => ∃ k : Nat, i = .int .i64 k ∧ k ≤ n ∧ Below w.heap.size w wr) (fun i _ => n - (intOf i).toNat)
  case atStart => exact ⟨0, rfl, Nat.zero_le _, Below.refl _ _⟩
  case round =>
    obtain ⟨k, rfl, hk, hb⟩ := hrel
    by_cases hlt : k < n
    · as_aux_lemma =>
        have d1 : decide ((k : Int) < (n : Int)) = true := by simp; omega
        have ek : (k : Int) < (n : Int) := by omega
        obtain ⟨ba, bb, rfl, rfl, hc⟩ := H.out (by omega)
        obtain ⟨x1, x2⟩ := hc k hlt
        have y1 := (hb.cell (p := ⟨ba, k, none⟩) (World.block_lt_of_cell? w _ x1)).trans x1
        have y2 := (hb.cell (p := ⟨bb, k, none⟩) (World.block_lt_of_cell? w _ x2)).trans x2
        clear x1 x2
        have HB := Lib.hid hb
        clear hb hc
        go_wp2_with fail
        go_quiet (fail)
        go_wp2_with fail
        go_roundw
        case rel => exact ⟨k + 1, by go_num, hlt, below_drewN HB.out nq⟩
        case measure => simp [intOf]; omega
    · as_aux_lemma =>
        have hz : k = n := by omega
        subst hz
        have d1 : decide ((k : Int) < (k : Int)) = false := by simp
        have HB := Lib.hid hb
        clear hb
        go_wp2_with fail
        go_ret
        exact ⟨rfl, HB.out⟩
set_option maxRecDepth 100000 in
set_option maxHeartbeats 4000000 in
theorem rPlaces_at {w : World} {pa pb : Option Addr} {n ca cb : Nat} {l : Nat → ByteArray} {g : Nat → Int} (h : 0 < n → ∃ ba bb, pa = some ⟨ba, 0, none⟩ ∧ pb = some ⟨bb, 0, none⟩ ∧ ∀ j, j < n → w.cell? ⟨ba, j * 2, none⟩ = some (.string (l j)) ∧ w.cell? ⟨bb, j * 2, none⟩ = some (.string (l j)) ∧ w.cell? ⟨ba, j * 2 + 1, none⟩ = some (.int .i64 (g j)) ∧ w.cell? ⟨bb, j * 2 + 1, none⟩ = some (.int .i64 (g j))) (hn : n ≤ 1000000000) :
    Calls Tryd.prog 14 #[.slice pa n ca, .slice pb n cb] w fun e w' => e = .returned (.bool true) ∧ Below w.heap.size w w' := by
  have H := Lib.hid h
  clear h
  go_enter Tryd.func14, Tryd.ntmps14
  go_wp2_with fail
  go_loopw [5] (fun i wr => ∃ k : Nat, i = .int .i64 k ∧ k ≤ n ∧ Below w.heap.size w wr) (fun i _ => n - (intOf i).toNat)
  case atStart => exact ⟨0, rfl, Nat.zero_le _, Below.refl _ _⟩
  case round =>
    obtain ⟨k, rfl, hk, hb⟩ := hrel
    by_cases hlt : k < n
    · as_aux_lemma =>
        have d1 : decide ((k : Int) < (n : Int)) = true := by simp; omega
        have ek : (k : Int) < (n : Int) := by omega
        obtain ⟨ba, bb, rfl, rfl, hc⟩ := H.out (by omega)
        obtain ⟨x1, x2, x3, x4⟩ := hc k hlt
        have y1 := (hb.cell (p := ⟨ba, k * 2, none⟩) (World.block_lt_of_cell? w _ x1)).trans x1
        have y2 := (hb.cell (p := ⟨bb, k * 2, none⟩) (World.block_lt_of_cell? w _ x2)).trans x2
        have y3 := (hb.cell (p := ⟨ba, k * 2 + 1, none⟩) (World.block_lt_of_cell? w _ x3)).trans x3
        have y4 := (hb.cell (p := ⟨bb, k * 2 + 1, none⟩) (World.block_lt_of_cell? w _ x4)).trans x4
        have yl := bl_true (rfl : l k = l k)
        clear x1 x2 x3 x4
        have HB := Lib.hid hb
        clear hb hc
        go_wp2_with fail
        go_quiet (fail)
        go_wp2_with fail
        go_roundw
        case rel => exact ⟨k + 1, by go_num, hlt, below_drewN HB.out nq⟩
        case measure => simp [intOf]; omega
    · as_aux_lemma =>
        have hz : k = n := by omega
        subst hz
        have d1 : decide ((k : Int) < (k : Int)) = false := by simp
        have HB := Lib.hid hb
        clear hb
        go_wp2_with fail
        go_ret
        exact ⟨rfl, HB.out⟩
/-- Two rows of the same words, however they came to be, compare so. -/
theorem words_alike {w : World} {B B' n : Nat} {v v' : Value} {ys : List Int} (h : w.ownsRow B 38 1 v n (byW ys)) (k : w.ownsRow B' 38 1 v' n (byW ys)) (hn : n ≤ 1000000000) :
    Calls Tryd.prog 13 #[v, v'] w fun e w' => e = .returned (.bool true) ∧ Below w.heap.size w w' := by
  have hl : ys.length = n := by have := h.1; rw [byW_len, Nat.mul_one] at this; exact this
  have key : ∀ {B : Nat} {v : Value}, w.ownsRow B 38 1 v n (byW ys) → ∃ p c, v = .slice p n c ∧ (0 < n → ∃ b, p = some ⟨b, 0, none⟩ ∧ ∀ j, j < n → w.cell? ⟨b, j, none⟩ = some (.int .u32 (ys.getD j 0))) := by
    intro B v h
    rcases h.2 with ⟨rfl, h0⟩ | ⟨g, cap, cur, rfl, -, hg, -⟩
    · exact ⟨none, 0, by rw [h0], fun h => by omega⟩
    · refine ⟨_, _, rfl, fun _ => ⟨g, rfl, fun j hj => ?_⟩⟩
      rw [World.ownsRow.cellAt h j (by omega)]
      unfold byW
      rw [List.getElem?_map, List.getElem?_eq_getElem (by omega), List.getD_eq_getElem?_getD, List.getElem?_eq_getElem (by omega)]
      rfl
  obtain ⟨pa, ca, rfl, ha⟩ := key h
  obtain ⟨pb, cb, rfl, hb⟩ := key k
  refine rSame_at (g := fun j => ys.getD j 0) (fun h0 => ?_) hn
  obtain ⟨ba, e1, h1⟩ := ha h0
  obtain ⟨bb, e2, h2⟩ := hb h0
  exact ⟨ba, bb, e1, e2, fun j hj => ⟨h1 j hj, h2 j hj⟩⟩
theorem rowP_nth (L : List (ByteArray × Int)) {j : Nat} (hj : j < L.length) : (rowP L)[j * 2]? = some (.string (L.getD j default).1) ∧ (rowP L)[j * 2 + 1]? = some (.int .i64 (L.getD j default).2) := by
  induction L generalizing j with
  | nil => simp at hj
  | cons q r ih =>
    have e : rowP (q :: r) = .string q.1 :: .int .i64 q.2 :: rowP r := rfl
    rw [e]
    cases j with
    | zero => exact ⟨rfl, rfl⟩
    | succ j =>
      rw [show (j + 1) * 2 = j * 2 + 2 by omega]
      have := ih (j := j) (by simpa using hj)
      exact ⟨this.1, this.2⟩
theorem places_alike {w : World} {B B' n : Nat} {v v' : Value} {L : List (ByteArray × Int)} (h : w.ownsRow B 47 2 v n (rowP L)) (k : w.ownsRow B' 47 2 v' n (rowP L)) (hL : L.length = n) (hn : n ≤ 1000000000) :
    Calls Tryd.prog 14 #[v, v'] w fun e w' => e = .returned (.bool true) ∧ Below w.heap.size w w' := by
  have key : ∀ {B : Nat} {v : Value}, w.ownsRow B 47 2 v n (rowP L) → ∃ p c, v = .slice p n c ∧ (0 < n → ∃ b, p = some ⟨b, 0, none⟩ ∧ ∀ j, j < n → w.cell? ⟨b, j * 2, none⟩ = some (.string (L.getD j default).1) ∧ w.cell? ⟨b, j * 2 + 1, none⟩ = some (.int .i64 (L.getD j default).2)) := by
    intro B v h
    rcases h.2 with ⟨rfl, h0⟩ | ⟨g, cap, cur, rfl, -, hg, -⟩
    · exact ⟨none, 0, by rw [h0], fun h => by omega⟩
    · refine ⟨_, _, rfl, fun _ => ⟨g, rfl, fun j hj => ?_⟩⟩
      obtain ⟨e1, e2⟩ := rowP_nth L (j := j) (by omega)
      exact ⟨(World.ownsRow.cellAt h (j * 2) (by omega)).trans e1, (World.ownsRow.cellAt h (j * 2 + 1) (by omega)).trans e2⟩
  obtain ⟨pa, ca, rfl, ha⟩ := key h
  obtain ⟨pb, cb, rfl, hb⟩ := key k
  refine rPlaces_at (l := fun j => (L.getD j default).1) (g := fun j => (L.getD j default).2) (fun h0 => ?_) hn
  obtain ⟨ba, e1, h1⟩ := ha h0
  obtain ⟨bb, e2, h2⟩ := hb h0
  exact ⟨ba, bb, e1, e2, fun j hj => ⟨(h1 j hj).1, (h2 j hj).1, (h1 j hj).2, (h2 j hj).2⟩⟩

theorem placesL_congr {X : Nat → It} {g g' : Nat → Int} : ∀ {k : Nat}, (∀ i, i < k → g i = g' i) → placesL X g k = placesL X g' k
  | 0, _ => rfl
  | k + 1, h => by
    unfold placesL
    rw [placesL_congr (fun i hi => h i (by omega)), h k (by omega)]
theorem iw_congr {X : Nat → It} {n : Nat} {base : Int} {f g : Nat → Nat} (h : ∀ i, i < n → f i = g i) {i : Nat} (hi : i < n) : iw X n base f i = iw X n base g i := by
  have ht : taddr X n base f i = taddr X n base g i := ad_congr (fun k hk => h k (by have := tgt_lt (X := X) hi; omega))
  have hd : dist X n base f i = dist X n base g i := by
    unfold dist
    rw [ad_congr (f := f) (g := g) (fun k hk => h k (by have := tgt_lt (X := X) hi; omega)), ad_congr (f := f) (g := g) (fun k hk => h k (by omega))]
  have ht' : ad X base f (tgt X n i) = ad X base g (tgt X n i) := ht
  have hj : ∀ d form, jumpL X n base f i d form = jumpL X n base g i d form := fun d form => by unfold jumpL; rw [hd, ht']
  have hb : branchL X n base f i = branchL X n base g i := by unfold branchL; rw [h i hi, hd]; simp only [hj]
  unfold iw
  rw [ht, hb, hj, h i hi]
theorem wordsL_congr {X : Nat → It} {n : Nat} {base : Int} {f g : Nat → Nat} (h : ∀ i, i < n → f i = g i) : ∀ {k : Nat}, k ≤ n → wordsL X n base f k = wordsL X n base g k
  | 0, _ => rfl
  | k + 1, hk => by
    unfold wordsL
    rw [wordsL_congr h (by omega), iw_congr h (by omega)]
/-- An image that is known. -/
theorem linked_good {W w' : World} {L : List Ob} {base : Int} {e : Ending} (h : Linked W w' L base e) (hl : lcheck L = 0) (hc : check (litX (flat L)) (flat L).length base = 0) {g : Nat → Nat} (hg : Least (litX (flat L)) (flat L).length base g)
    (hle : ad (litX (flat L)) base g (flat L).length ≤ 67108864) {ws : List Int} {ps : List (ByteArray × Int)} (hws : wordsL (litX (flat L)) (flat L).length base g (flat L).length = ws) (hps : placesL (litX (flat L)) (ad (litX (flat L)) base g) (flat L).length = ps) (nw np : Nat) (hnw : nw = ws.length) (hnp : np = ps.length) :
    ∃ O pp cp, e = .returned (.tuple #[.agg #[.slice (some ⟨O, 0, none⟩) nw nw, .slice pp np cp], .int .i64 0]) ∧ w'.ownsRow W.heap.size 38 1 (.slice (some ⟨O, 0, none⟩) nw nw) nw (byW ws) ∧ w'.ownsRow W.heap.size 47 2 (.slice pp np cp) np (rowP ps) := by
  subst hnw hnp
  rcases h with ⟨h1, -⟩ | ⟨-, ⟨h1, -⟩ | ⟨-, f, hf, ⟨h1, -⟩ | ⟨h1, O, vp, rfl, hw, hp⟩⟩⟩
  · exact absurd hl h1
  · exact absurd hc h1
  · have := ad_congr (X := litX (flat L)) (base := base) (hf.unique hg)
    omega
  · have e := hf.unique hg
    rw [wordsL_congr e (Nat.le_refl _), hws] at hw ⊢
    rw [placesL_congr (fun i hi => ad_congr fun k hk => e k (by omega)), hps] at hp
    obtain ⟨pp, cp, rfl⟩ := own_shape hp
    exact ⟨O, pp, cp, rfl, hw, hp⟩
theorem linked_bad {W w' : World} {L : List Ob} {base code : Int} {e : Ending} (h : Linked W w' L base e) (hr : (lcheck L ≠ 0 ∧ lcheck L = code) ∨ (lcheck L = 0 ∧ check (litX (flat L)) (flat L).length base ≠ 0 ∧ check (litX (flat L)) (flat L).length base = code)) :
    e = .returned (.tuple #[.agg #[.slice none 0 0, .slice none 0 0], .int .i64 code]) := by
  rcases hr with ⟨h1, rfl⟩ | ⟨h1, h2, rfl⟩
  · rcases h with ⟨-, h3⟩ | ⟨h3, -⟩
    · exact h3
    · exact absurd h3 h1
  · rcases h with ⟨h3, -⟩ | ⟨-, ⟨-, h3⟩ | ⟨h3, -⟩⟩
    · exact absurd h1 h3
    · exact h3
    · exact absurd h3 h2
theorem objs_mk {w : World} {b c : Nat} {L : List Ob} (hc : L.length ≤ c) (hm : c ≤ 1000) (hname : ∀ i, i < L.length → (ob L i).name.size ≤ 1000)
    (hcell : ∀ i, i < L.length → w.cell? ⟨b, 0 + i * 2, none⟩ = some (.string (ob L i).name) ∧ ∃ q m, w.cell? ⟨b, 0 + i * 2 + 1, none⟩ = some (.slice q (ob L i).items.length m) ∧ Items w q (ob L i).items.length m (litX (ob L i).items)) : Objs w (some ⟨b, 0, none⟩) c L :=
  ⟨fun h => (by cases h), hc, by omega, fun _ => ⟨b, 0, rfl, hcell⟩, fun i hi => by have := hname i hi; unfold maxLen; omega⟩
theorem items_lit {w : World} {b c : Nat} {M : List It} (h : w.heap[b]? = some (.cells (rowL M).toArray 40 (0, 0))) (hok : OkI 1000 M) (hc : c = M.length) (hm : c ≤ 1000) (p : Option Addr) (hp : p = some ⟨b, 0, none⟩) : Items w p M.length c (litX M) := by
  subst hc hp
  refine ⟨fun h => (by cases h), Nat.le_refl _, by omega, fun _ => ⟨b, 0, rfl, fun i hi k hk => ?_⟩, fun i hi => (hok _ (litX_mem hi)).1, fun i hi => by have := (hok _ (litX_mem hi)).2; unfold maxLen; omega⟩
  rw [Nat.zero_add, cell_of_row w b (i * 8 + k) _ 40 _ h]
  rw [List.getElem?_toArray]
  exact rowL_get M i hi k hk
theorem items_no (w : World) (X : Nat → It) : Items w none 0 0 X := ⟨fun _ => ⟨rfl, rfl⟩, Nat.le_refl _, by omega, fun h => absurd h (Nat.lt_irrefl _), fun i hi => absurd hi (Nat.not_lt_zero _), fun i hi => absurd hi (Nat.not_lt_zero _)⟩
def OkB (M : List It) : Bool := M.all fun x => decide (0 ≤ x.word ∧ x.word < 4294967296 ∧ x.lab.size ≤ 40)
theorem okB_of {M : List It} (h : OkB M = true) : OkI 40 M := by
  intro x hx
  have := (List.all_eq_true.1 h) x hx
  simp only [decide_eq_true_eq] at this
  exact ⟨⟨this.1, this.2.1⟩, this.2.2⟩
def fewB (L : List Ob) : Bool := decide (L.length ≤ 8) && L.all fun o => decide (o.items.length ≤ 60 ∧ o.name.size ≤ 40) && OkB o.items
theorem few_of {L : List Ob} (h : fewB L = true) : Few L := by
  unfold fewB at h
  simp only [Bool.and_eq_true, decide_eq_true_eq, List.all_eq_true] at h
  exact ⟨h.1, fun i hi => (h.2 _ (ob_mem hi)).1.1, fun i hi => (h.2 _ (ob_mem hi)).1.2, fun i hi => (okB_of (h.2 _ (ob_mem hi)).2).mono (by decide)⟩

theorem wp_four {P : Program} {c : Code} {Q : Exit → Act → World → Prop} {a : Act} {w : World} {o1 o2 o3 o4 : Obj} (h : ∀ w4 : World, w4.heap[w.heap.size]? = some o1 → w4.heap[w.heap.size + 1]? = some o2 → w4.heap[w.heap.size + 1 + 1]? = some o3 → w4.heap[w.heap.size + 1 + 1 + 1]? = some o4 → Below w.heap.size w w4 → w4.heap.size = w.heap.size + 1 + 1 + 1 + 1 → Code.wp P c Q a w4) :
    Code.wp P c Q a ((((w.alloc o1).alloc o2).alloc o3).alloc o4) := by
  have b1 := (Below.refl w.heap.size w).alloc (Nat.le_refl _) o1
  have b2 := (Below.refl (w.alloc o1).heap.size (w.alloc o1)).alloc (Nat.le_refl _) o2
  have b3 := (Below.refl ((w.alloc o1).alloc o2).heap.size ((w.alloc o1).alloc o2)).alloc (Nat.le_refl _) o3
  have b4 := (Below.refl (((w.alloc o1).alloc o2).alloc o3).heap.size (((w.alloc o1).alloc o2).alloc o3)).alloc (Nat.le_refl _) o4
  have n1 := heap_new w o1
  have n2 := heap_new (w.alloc o1) o2
  have n3 := heap_new ((w.alloc o1).alloc o2) o3
  have n4 := heap_new (((w.alloc o1).alloc o2).alloc o3) o4
  simp only [World.size_alloc] at b1 b2 b3 b4 n1 n2 n3 n4
  refine h _ ?_ ?_ ?_ n4 (((b1.trans (b2.mono (by omega))).trans (b3.mono (by omega))).trans (b4.mono (by omega))) (by simp only [World.size_alloc])
  · rw [b4.block _ (by omega), b3.block _ (by omega), b2.block _ (by omega), n1]
  · rw [b4.block _ (by omega), b3.block _ (by omega), n2]
  · rw [b4.block _ (by omega), n3]
theorem wp_one {P : Program} {c : Code} {Q : Exit → Act → World → Prop} {a : Act} {w : World} {o : Obj} (h : ∀ w1 : World, w1.heap[w.heap.size]? = some o → Below w.heap.size w w1 → Code.wp P c Q a w1) : Code.wp P c Q a (w.alloc o) :=
  h _ (heap_new w o) ((Below.refl w.heap.size w).alloc (Nat.le_refl _) o)
theorem own_block {w : World} {b B e m n : Nat} {cs : Array Value} {xs : List Value} (h : w.heap[b]? = some (.cells cs e (0, 0))) (hB : B ≤ b) (hn : n ≤ 1000000) (hx : cs.toList = xs) (hl : xs.length = n * m) : w.ownsRow B e m (.slice (some ⟨b, 0, none⟩) n n) n xs := by
  refine ⟨hl, Or.inr ⟨b, n, cs, rfl, hB, h, Nat.le_refl _, by unfold maxLen; omega, by rw [← Array.length_toList, hx, hl], ?_⟩⟩
  rw [← hl, ← hx, List.take_length]
theorem calls_one {P : Program} {f : Nat} {args : Array Value} {Q : Ending → World → Prop} {w : World} {o : Obj} (h : ∀ w1 : World, w1.heap[w.heap.size]? = some o → Below w.heap.size w w1 → Calls P f args w1 Q) : Calls P f args (w.alloc o) Q :=
  h _ (heap_new w o) ((Below.refl w.heap.size w).alloc (Nat.le_refl _) o)
def wkA : List It := [⟨2, 0, 0, 0, 0, 0, ⟨#[46, 120]⟩, 0⟩, ⟨6, 0, 0, 0, 0, 0, ⟨#[]⟩, 7⟩, ⟨7, 0, 0, 0, 0, 0, ⟨#[46, 120]⟩, 0⟩]
def wkB : List It := [⟨2, 0, 0, 0, 0, 0, ⟨#[46, 120]⟩, 0⟩, ⟨7, 0, 0, 0, 0, 0, ⟨#[46, 120]⟩, 0⟩]
def wk : List Ob := [⟨⟨#[97]⟩, wkA⟩, ⟨⟨#[98]⟩, wkB⟩]
theorem wk_few : Few wk := few_of (by decide +kernel)
theorem wk_lc : lcheck wk = 0 := by decide +kernel
theorem wk_check : check (litX (flat wk)) (flat wk).length 0 = 0 := by decide +kernel
theorem wk_least : Least (litX (flat wk)) (flat wk).length 0 (fun i => first (litX (flat wk) i)) := ⟨Under.start, by unfold Fits; decide +kernel⟩
theorem wk_words : wordsL (litX (flat wk)) (flat wk).length 0 (fun i => first (litX (flat wk) i)) (flat wk).length = [7, 0, 8] := by decide +kernel
theorem wk_places : placesL (litX (flat wk)) (ad (litX (flat wk)) 0 (fun i => first (litX (flat wk) i))) (flat wk).length = [(⟨#[97, 46, 120]⟩, 0), (⟨#[98, 46, 120]⟩, 2)] := by decide +kernel
theorem wk_ad : ad (litX (flat wk)) 0 (fun i => first (litX (flat wk) i)) (flat wk).length ≤ 67108864 := by decide +kernel
theorem wk_size : szL wk wk.length = 3 := by decide +kernel
theorem wk_objs {w : World} {b S S2 : Nat} (h : w.heap[b]? = some (.cells #[.string ⟨#[97]⟩, .slice (some ⟨S, 0, none⟩) 3 3, .string ⟨#[98]⟩, .slice (some ⟨S2, 0, none⟩) 2 2] 49 (0, 0))) (hA : w.heap[S]? = some (.cells (rowL wkA).toArray 40 (0, 0))) (hB : w.heap[S2]? = some (.cells (rowL wkB).toArray 40 (0, 0))) : Objs w (some ⟨b, 0, none⟩) 2 wk := by
  refine objs_mk (by decide) (by decide) (by decide +kernel) fun i hi => ?_
  rcases (show i = 0 ∨ i = 1 by have : wk.length = 2 := rfl; omega) with rfl | rfl
  · exact ⟨cell_of_row w b 0 _ 49 _ h, some ⟨S, 0, none⟩, 3, cell_of_row w b 1 _ 49 _ h, items_lit (M := wkA) hA ((okB_of (by decide +kernel)).mono (by decide)) rfl (by decide) _ rfl⟩
  · exact ⟨cell_of_row w b 2 _ 49 _ h, some ⟨S2, 0, none⟩, 2, cell_of_row w b 3 _ 49 _ h, items_lit (M := wkB) hB ((okB_of (by decide +kernel)).mono (by decide)) rfl (by decide) _ rfl⟩
set_option maxRecDepth 100000 in
set_option maxHeartbeats 16000000 in
theorem works_any (w : World) (h : Env w) : Calls Tryd.prog 9 #[] w fun e w' => e = .returned (.bool true) ∧ Below w.heap.size w w' := by
  have HE := Lib.hid h
  clear h
  go_enter Tryd.func9, Tryd.ntmps9
  go_upto_region 3 with fail
  refine wp_four ?_
  intro w4 f1 f2 f3 f4 fb fs
  obtain ⟨S, hS⟩ : ∃ S, S = w.heap.size := ⟨_, rfl⟩
  have HB4 := Lib.hid fb
  rw [← hS] at f1 f2 f3 f4 fs
  rw [← hS]
  have HS := Lib.hid hS
  clear hS fb
  obtain ⟨c20, c21⟩ := cells2 f2
  obtain ⟨c40, c41⟩ := cells2 f4
  have HF := Lib.hid (And.intro f1 (And.intro f2 (And.intro f3 f4)))
  clear f1 f2 f3 f4
  go_wp2_with fail
  refine calls_one ?_
  intro w5 g5 gb5
  rw [fs] at g5
  have ho : Objs w5 (some ⟨S + 1 + 1 + 1 + 1, 0, none⟩) 2 wk := wk_objs g5 ((gb5.block _ (by omega)).trans HF.out.1) ((gb5.block _ (by omega)).trans HF.out.2.2.1)
  have hb5 := HB4.out.trans (gb5.mono HB4.out.size)
  have hlk := link_at ho wk_few (HE.out.below hb5) 0
  rw [show wk.length = 2 from rfl] at hlk
  refine hlk.mono ?_
  clear hlk
  rintro e w6 ⟨hl, hb6⟩
  obtain ⟨O, pp, cp, rfl, hw, hp⟩ := linked_good hl wk_lc wk_check wk_least wk_ad wk_words wk_places 3 2 rfl rfl
  have HW := Lib.hid (And.intro hw hp)
  have HB6 := Lib.hid (hb5.trans (hb6.mono hb5.size))
  have gb6 := gb5.trans (hb6.mono gb5.size)
  replace c20 := (gb6.cell (p := ⟨S + 1, 0, none⟩) (by show S + 1 < _; omega)).trans c20
  replace c21 := (gb6.cell (p := ⟨S + 1, 1, none⟩) (by show S + 1 < _; omega)).trans c21
  replace c40 := (gb6.cell (p := ⟨S + 1 + 1 + 1, 0, none⟩) (by show S + 1 + 1 + 1 < _; omega)).trans c40
  replace c41 := (gb6.cell (p := ⟨S + 1 + 1 + 1, 1, none⟩) (by show S + 1 + 1 + 1 < _; omega)).trans c41
  have HG := Lib.hid (And.intro gb6 (show w4.heap.size ≤ w6.heap.size from gb6.size))
  clear hl hb6 hw hp ho hb5 g5 gb5 gb6
  go_upto_region 4 with fail
  refine wp_one ?_
  intro w7 h7 hb7
  obtain ⟨T, hT⟩ : ∃ T, T = w6.heap.size := ⟨_, rfl⟩
  rw [← hT] at h7
  rw [← hT]
  have hw7 := own_below HW.out.1 hb7
  have hp7 := own_below HW.out.2 hb7
  obtain ⟨d0, d1⟩ := cells2 h7
  replace c20 := (hb7.cell (World.block_lt_of_cell? w6 _ c20)).trans c20
  replace c21 := (hb7.cell (World.block_lt_of_cell? w6 _ c21)).trans c21
  replace c40 := (hb7.cell (World.block_lt_of_cell? w6 _ c40)).trans c40
  replace c41 := (hb7.cell (World.block_lt_of_cell? w6 _ c41)).trans c41
  have hfi := find_at hp7 rfl (by decide) (some ⟨O, 0, none⟩) 3 3 ⟨#[98, 46, 120]⟩
  have ef : foundV (pfind [(⟨#[97, 46, 120]⟩, 0), (⟨#[98, 46, 120]⟩, 2)] ⟨#[98, 46, 120]⟩ 2) = .tuple #[.int .i64 2, .bool true] := by
    have : pfind [(⟨#[97, 46, 120]⟩, 0), (⟨#[98, 46, 120]⟩, 2)] ⟨#[98, 46, 120]⟩ 2 = some 2 := by decide +kernel
    unfold foundV
    rw [this]
    rfl
  rw [ef] at hfi
  have HG7 := Lib.hid (And.intro (HG.out.1.trans (hb7.mono HG.out.2)) (And.intro (HB6.out.trans (hb7.mono HB6.out.size)) (And.intro hw7 h7)))
  clear hT h7 hb7 hw7 hp7 HW ef
  go_wp2_with fail
  refine hfi.mono ?_
  clear hfi
  rintro e w8 ⟨rfl, hb8⟩
  replace c20 := (hb8.cell (World.block_lt_of_cell? w7 _ c20)).trans c20
  replace c21 := (hb8.cell (World.block_lt_of_cell? w7 _ c21)).trans c21
  replace c40 := (hb8.cell (World.block_lt_of_cell? w7 _ c40)).trans c40
  replace c41 := (hb8.cell (World.block_lt_of_cell? w7 _ c41)).trans c41
  replace d0 := (hb8.cell (World.block_lt_of_cell? w7 _ d0)).trans d0
  replace d1 := (hb8.cell (World.block_lt_of_cell? w7 _ d1)).trans d1
  have hw8 := own_below HG7.out.2.2.1 hb8
  have HG8 := Lib.hid (And.intro (HG7.out.1.trans (hb8.mono HG7.out.1.size)) (And.intro (HG7.out.2.1.trans (hb8.mono HG7.out.2.1.size)) hw8))
  clear hb8 hw8
  go_wp2_with fail
  refine calls_one ?_
  intro w9 h9 hb9
  have hwa := words_alike (own_below HG8.out.2.2 hb9) (own_block (xs := byW [7, 0, 8]) h9 (Nat.le_refl _) (by decide) rfl rfl) (by decide)
  replace c20 := (hb9.cell (World.block_lt_of_cell? w8 _ c20)).trans c20
  replace c21 := (hb9.cell (World.block_lt_of_cell? w8 _ c21)).trans c21
  replace c40 := (hb9.cell (World.block_lt_of_cell? w8 _ c40)).trans c40
  replace c41 := (hb9.cell (World.block_lt_of_cell? w8 _ c41)).trans c41
  have HG9 := Lib.hid (And.intro (HG8.out.1.trans (hb9.mono HG8.out.1.size)) (HG8.out.2.1.trans (hb9.mono HG8.out.2.1.size)))
  clear hb9 d0 d1 h9
  refine hwa.mono ?_
  clear hwa
  rintro e wa ⟨rfl, hba⟩
  replace c20 := (hba.cell (World.block_lt_of_cell? w9 _ c20)).trans c20
  replace c21 := (hba.cell (World.block_lt_of_cell? w9 _ c21)).trans c21
  replace c40 := (hba.cell (World.block_lt_of_cell? w9 _ c40)).trans c40
  replace c41 := (hba.cell (World.block_lt_of_cell? w9 _ c41)).trans c41
  have HGa := Lib.hid (And.intro (HG9.out.1.trans (hba.mono HG9.out.1.size)) (HG9.out.2.trans (hba.mono HG9.out.2.size)))
  clear hba
  go_wp2_with fail
  refine calls_one ?_
  intro wb gb hbb
  have hgb := HGa.out.1.trans (hbb.mono HGa.out.1.size)
  have ho : Objs wb (some ⟨wa.heap.size, 0, none⟩) 2 wk := wk_objs gb ((hgb.block _ (by omega)).trans HF.out.1) ((hgb.block _ (by omega)).trans HF.out.2.2.1)
  have hsi := size_at ho wk_few
  rw [show wk.length = 2 from rfl] at hsi
  have HGb := Lib.hid (HGa.out.2.trans (hbb.mono HGa.out.2.size))
  clear hbb hgb ho gb
  refine hsi.mono ?_
  clear hsi
  rintro e wc ⟨rfl, hbc⟩
  have e3 : ((szL wk 2 : Nat) : Int) = 3 := congrArg Int.ofNat wk_size
  rw [e3]
  have HGc := Lib.hid (HGb.out.trans (hbc.mono HGb.out.size))
  clear hbc e3
  go_wp2_with fail
  go_ret
  exact ⟨rfl, HGc.out⟩
end Go.Proofs.YtbplmbignalbgaaDoor
