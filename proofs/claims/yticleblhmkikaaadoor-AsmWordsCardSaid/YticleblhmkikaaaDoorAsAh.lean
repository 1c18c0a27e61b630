/- The walk of AsmWords: words, places and forms are the document's. Conditions: the items lie as told; the table of forms is as laid. -/
import Derived.Test.YticleblhmkikaaaDoorAsAf
import Derived.Deep.QuietTactic
import Derived.Test.YticleblhmkikaaaDoorAsBf
namespace Go.Proofs.YticleblhmkikaaaDoor
open Go.RowKit Asm
set_option linter.unusedVariables false
set_option linter.unusedSimpArgs false

set_option maxRecDepth 100000 in
set_option maxHeartbeats 4000000 in
theorem rSame_at {w : World} {pa pb : Option Addr} {n ca cb : Nat} {g : Nat → Int} (h : 0 < n → ∃ ba bb, pa = some ⟨ba, 0, none⟩ ∧ pb = some ⟨bb, 0, none⟩ ∧ ∀ j, j < n → w.cell? ⟨ba, j, none⟩ = some (.int .u32 (g j)) ∧ w.cell? ⟨bb, j, none⟩ = some (.int .u32 (g j))) (hn : n ≤ 1000000000) :
    Calls Tryd.prog 11 #[.slice pa n ca, .slice pb n cb] w fun e w' => e = .returned (.bool true) ∧ Below w.heap.size w w' := by
  have H := Lib.hid h
  clear h
  go_enter Tryd.func11, Tryd.ntmps11
  go_wp2_with fail
  go_loopw [5] (fun i wr => ∃ k : Nat, i = .int .i64 k ∧ k ≤ n ∧ Below w.heap.size w wr) (fun i _ => n - (intOf i).toNat)
  case atStart => exact ⟨0, rfl, Nat.zero_le _, Below.refl _ _⟩
  case round =>
    obtain ⟨k, rfl, hk, hb⟩ := hrel
    by_cases hlt : k < n
    · as_aux_lemma =>
        have d1 : decide ((k : Int) < (n : Int)) = true := by simp; omega
        have ek : (k : Int) < (n : Int) := by omega
        obtain ⟨ba, bb, rfl, rfl, hc⟩ := H.out (by omega)
        obtain ⟨x1, x2⟩ := hc k hlt
        have y1 := (hb.cell (p := ⟨ba, k, none⟩) (World.block_lt_of_cell? w _ x1)).trans x1
        have y2 := (hb.cell (p := ⟨bb, k, none⟩) (World.block_lt_of_cell? w _ x2)).trans x2
        clear x1 x2
        have HB := Lib.hid hb
        clear hb hc
        go_wp2_with fail
        go_quiet (fail)
        go_wp2_with fail
        go_roundw
        case rel => exact ⟨k + 1, by go_num, hlt, below_drewN HB.out nq⟩
        case measure => simp [intOf]; omega
    · as_aux_lemma =>
        have hz : k = n := by omega
        subst hz
        have d1 : decide ((k : Int) < (k : Int)) = false := by simp
        have HB := Lib.hid hb
        clear hb
        go_wp2_with fail
        go_ret
        exact ⟨rfl, HB.out⟩
set_option maxRecDepth 100000 in
set_option maxHeartbeats 4000000 in
theorem rPlaces_at {w : World} {pa pb : Option Addr} {n ca cb : Nat} {l : Nat → ByteArray} {g : Nat → Int} (h : 0 < n → ∃ ba bb, pa = some ⟨ba, 0, none⟩ ∧ pb = some ⟨bb, 0, none⟩ ∧ ∀ j, j < n → w.cell? ⟨ba, j * 2, none⟩ = some (.string (l j)) ∧ w.cell? ⟨bb, j * 2, none⟩ = some (.string (l j)) ∧ w.cell? ⟨ba, j * 2 + 1, none⟩ = some (.int .i64 (g j)) ∧ w.cell? ⟨bb, j * 2 + 1, none⟩ = some (.int .i64 (g j))) (hn : n ≤ 1000000000) :
    Calls Tryd.prog 12 #[.slice pa n ca, .slice pb n cb] w fun e w' => e = .returned (.bool true) ∧ Below w.heap.size w w' := by
  have H := Lib.hid h
  clear h
  go_enter Tryd.func12, Tryd.ntmps12
  go_wp2_with fail
  go_loopw [5] (fun i wr => ∃ k : Nat, i = .int .i64 k ∧ k ≤ n ∧ Below w.heap.size w wr) (fun i _ => n - (intOf i).toNat)
  case atStart => exact ⟨0, rfl, Nat.zero_le _, Below.refl _ _⟩
  case round =>
    obtain ⟨k, rfl, hk, hb⟩ := hrel
    by_cases hlt : k < n
    · as_aux_lemma =>
        have d1 : decide ((k : Int) < (n : Int)) = true := by simp; omega
        have ek : (k : Int) < (n : Int) := by omega
        obtain ⟨ba, bb, rfl, rfl, hc⟩ := H.out (by omega)
        obtain ⟨x1, x2, x3, x4⟩ := hc k hlt
        have y1 := (hb.cell (p := ⟨ba, k * 2, none⟩) (World.block_lt_of_cell? w _ x1)).trans x1
        have y2 := (hb.cell (p := ⟨bb, k * 2, none⟩) (World.block_lt_of_cell? w _ x2)).trans x2
        have y3 := (hb.cell (p := ⟨ba, k * 2 + 1, none⟩) (World.block_lt_of_cell? w _ x3)).trans x3
        have y4 := (hb.cell (p := ⟨bb, k * 2 + 1, none⟩) (World.block_lt_of_cell? w _ x4)).trans x4
        have yl := bl_true (rfl : l k = l k)
        clear x1 x2 x3 x4
        have HB := Lib.hid hb
        clear hb hc
        go_wp2_with fail
        go_quiet (fail)
        go_wp2_with fail
        go_roundw
        case rel => exact ⟨k + 1, by go_num, hlt, below_drewN HB.out nq⟩
        case measure => simp [intOf]; omega
    · as_aux_lemma =>
        have hz : k = n := by omega
        subst hz
        have d1 : decide ((k : Int) < (k : Int)) = false := by simp
        have HB := Lib.hid hb
        clear hb
        go_wp2_with fail
        go_ret
        exact ⟨rfl, HB.out⟩
/-- Two rows of the same words, however they came to be, compare so. -/
theorem words_alike {w : World} {B B' n : Nat} {v v' : Value} {ys : List Int} (h : w.ownsRow B 42 1 v n (byW ys)) (k : w.ownsRow B' 42 1 v' n (byW ys)) (hn : n ≤ 1000000000) :
    Calls Tryd.prog 11 #[v, v'] w fun e w' => e = .returned (.bool true) ∧ Below w.heap.size w w' := by
  have hl : ys.length = n := by have := h.1; rw [byW_len, Nat.mul_one] at this; exact this
  have key : ∀ {B : Nat} {v : Value}, w.ownsRow B 42 1 v n (byW ys) → ∃ p c, v = .slice p n c ∧ (0 < n → ∃ b, p = some ⟨b, 0, none⟩ ∧ ∀ j, j < n → w.cell? ⟨b, j, none⟩ = some (.int .u32 (ys.getD j 0))) := by
    intro B v h
    rcases h.2 with ⟨rfl, h0⟩ | ⟨g, cap, cur, rfl, -, hg, -⟩
    · exact ⟨none, 0, by rw [h0], fun h => by omega⟩
    · refine ⟨_, _, rfl, fun _ => ⟨g, rfl, fun j hj => ?_⟩⟩
      rw [World.ownsRow.cellAt h j (by omega)]
      unfold byW
      rw [List.getElem?_map, List.getElem?_eq_getElem (by omega), List.getD_eq_getElem?_getD, List.getElem?_eq_getElem (by omega)]
      rfl
  obtain ⟨pa, ca, rfl, ha⟩ := key h
  obtain ⟨pb, cb, rfl, hb⟩ := key k
  refine rSame_at (g := fun j => ys.getD j 0) (fun h0 => ?_) hn
  obtain ⟨ba, e1, h1⟩ := ha h0
  obtain ⟨bb, e2, h2⟩ := hb h0
  exact ⟨ba, bb, e1, e2, fun j hj => ⟨h1 j hj, h2 j hj⟩⟩
theorem rowP_nth (L : List (ByteArray × Int)) {j : Nat} (hj : j < L.length) : (rowP L)[j * 2]? = some (.string (L.getD j default).1) ∧ (rowP L)[j * 2 + 1]? = some (.int .i64 (L.getD j default).2) := by
  induction L generalizing j with
  | nil => simp at hj
  | cons q r ih =>
    have e : rowP (q :: r) = .string q.1 :: .int .i64 q.2 :: rowP r := rfl
    rw [e]
    cases j with
    | zero => exact ⟨rfl, rfl⟩
    | succ j =>
      rw [show (j + 1) * 2 = j * 2 + 2 by omega]
      have := ih (j := j) (by simpa using hj)
      exact ⟨this.1, this.2⟩
theorem places_alike {w : World} {B B' n : Nat} {v v' : Value} {L : List (ByteArray × Int)} (h : w.ownsRow B 53 2 v n (rowP L)) (k : w.ownsRow B' 53 2 v' n (rowP L)) (hL : L.length = n) (hn : n ≤ 1000000000) :
    Calls Tryd.prog 12 #[v, v'] w fun e w' => e = .returned (.bool true) ∧ Below w.heap.size w w' := by
  have key : ∀ {B : Nat} {v : Value}, w.ownsRow B 53 2 v n (rowP L) → ∃ p c, v = .slice p n c ∧ (0 < n → ∃ b, p = some ⟨b, 0, none⟩ ∧ ∀ j, j < n → w.cell? ⟨b, j * 2, none⟩ = some (.string (L.getD j default).1) ∧ w.cell? ⟨b, j * 2 + 1, none⟩ = some (.int .i64 (L.getD j default).2)) := by
    intro B v h
    rcases h.2 with ⟨rfl, h0⟩ | ⟨g, cap, cur, rfl, -, hg, -⟩
    · exact ⟨none, 0, by rw [h0], fun h => by omega⟩
    · refine ⟨_, _, rfl, fun _ => ⟨g, rfl, fun j hj => ?_⟩⟩
      obtain ⟨e1, e2⟩ := rowP_nth L (j := j) (by omega)
      exact ⟨(World.ownsRow.cellAt h (j * 2) (by omega)).trans e1, (World.ownsRow.cellAt h (j * 2 + 1) (by omega)).trans e2⟩
  obtain ⟨pa, ca, rfl, ha⟩ := key h
  obtain ⟨pb, cb, rfl, hb⟩ := key k
  refine rPlaces_at (l := fun j => (L.getD j default).1) (g := fun j => (L.getD j default).2) (fun h0 => ?_) hn
  obtain ⟨ba, e1, h1⟩ := ha h0
  obtain ⟨bb, e2, h2⟩ := hb h0
  exact ⟨ba, bb, e1, e2, fun j hj => ⟨(h1 j hj).1, (h2 j hj).1, (h1 j hj).2, (h2 j hj).2⟩⟩
open Go.RowKit Asm
set_option linter.unusedVariables false
set_option linter.unusedSimpArgs false

theorem rowZ_congr {f g : Nat → Nat} {n : Nat} (h : ∀ i, i < n → f i = g i) : rowZ (fun i => (f i : Int)) n = rowZ (fun i => (g i : Int)) n := by
  unfold rowZ
  apply List.map_congr_left
  intro i hi
  show Value.int .i64 (f i : Int) = Value.int .i64 (g i : Int)
  rw [h i (List.mem_range.1 hi)]
/-- What grows no further than the least forms is no longer. -/
theorem under_ad {X : Nat → It} {n : Nat} {base : Int} {f f' : Nat → Nat} (hu : Under X n base f') (hl : Least X n base f) : ad X base f' n ≤ ad X base f n := by
  have hle := hu.2 f hl.1.1 hl.2
  have h := ad_between (X := X) (base := base) (f := f') (g := f) (i := 0) (j := n) (fun k _ hk => isz_mono (fun h => hu.1.one hk h) (hle k hk)) (Nat.zero_le _)
  have e1 : ad X base f' 0 = base := rfl
  have e2 : ad X base f 0 = base := rfl
  omega
theorem rpair {W w' : World} {X : Nat → It} {n : Nat} {base : Int} {e : Ending} {fa : Int → Prop} {ga : (Nat → Nat) → Prop} (ha : Outcome X n base fa ga) (hb : RAssembled W w' X n base e) :
    (∃ c, fa c ∧ e = .returned (.tuple #[.slice none 0 0, .slice none 0 0, .int .i64 c])) ∨ (check X n base = 0 ∧ ∃ f v pv, Least X n base f ∧ ad X base f n ≤ 67108864 ∧ ga f ∧ e = .returned (.tuple #[v, pv, .int .i64 0]) ∧
      w'.ownsRow W.heap.size 42 1 v (wordsL X n base f n).length (byW (wordsL X n base f n)) ∧ w'.ownsRow W.heap.size 53 2 pv (placesL X (ad X base f) n).length (rowP (placesL X (ad X base f) n))) := by
  rcases ha with ⟨h1, h2⟩ | ⟨h1, f, hl, h2⟩
  · rcases hb with ⟨h3, h4⟩ | ⟨h3, -⟩
    · exact Or.inl ⟨_, h2, h4⟩
    · exact absurd h3 h1
  · rcases hb with ⟨h3, -⟩ | ⟨-, ⟨f', hu, hlong, rfl⟩ | ⟨f', v, pv, hl', hle, rfl, hw, hp⟩⟩
    · exact absurd h1 h3
    · rcases h2 with ⟨-, h5⟩ | ⟨h5, -⟩
      · exact Or.inl ⟨3, h5, rfl⟩
      · have := under_ad hu hl; omega
    · have eq := hl'.unique hl
      have ea : ad X base f' n = ad X base f n := ad_congr eq
      rcases h2 with ⟨h4, -⟩ | ⟨h4, h5⟩
      · omega
      · refine Or.inr ⟨h1, f, v, pv, hl, h4, h5, rfl, ?_, ?_⟩
        · rw [← wordsL_congr eq (Nat.le_refl n)]; exact hw
        · have e2 : placesL X (ad X base f') n = placesL X (ad X base f) n := placesL_congr (fun i hi => ad_congr (fun j hj => eq j (by omega)))
          rw [← e2]; exact hp
theorem rpair2 {W w' : World} {X : Nat → It} {n : Nat} {base : Int} {e : Ending} {fa : Int → Prop} {ga : (Nat → Nat) → Prop} (ha : Outcome X n base fa ga) (hb : RForms W w' X n base e) :
    (∃ c, fa c ∧ e = .returned (.tuple #[.slice none 0 0, .int .i64 c])) ∨ (∃ f v, ga f ∧ e = .returned (.tuple #[v, .int .i64 0]) ∧ w'.ownsRow W.heap.size 3 1 v n (rowZ (fun i => (f i : Int)) n)) := by
  rcases ha with ⟨h1, h2⟩ | ⟨h1, f, hl, h2⟩
  · rcases hb with ⟨h3, h4⟩ | ⟨h3, -⟩
    · exact Or.inl ⟨_, h2, h4⟩
    · exact absurd h3 h1
  · rcases hb with ⟨h3, -⟩ | ⟨-, ⟨f', hu, hlong, rfl⟩ | ⟨f', v, hl', hle, rfl, hw⟩⟩
    · exact absurd h1 h3
    · rcases h2 with ⟨-, h5⟩ | ⟨h5, -⟩
      · exact Or.inl ⟨3, h5, rfl⟩
      · have := under_ad hu hl; omega
    · have eq := hl'.unique hl
      have ea : ad X base f' n = ad X base f n := ad_congr eq
      rcases h2 with ⟨h4, -⟩ | ⟨h4, h5⟩
      · omega
      · refine Or.inr ⟨f, v, h5, rfl, ?_⟩
        rw [← rowZ_congr eq]; exact hw
set_option maxRecDepth 100000 in
set_option maxHeartbeats 16000000 in
theorem words_any {w : World} {p : Option Addr} {n c : Nat} {X : Nat → It} (h : Items w p n c X) (hE : Env w) (base : Int) : Calls Tryd.prog 3 #[.slice p n c, .int .i64 base] w fun e w' => e = .returned (.bool true) ∧ Below w.heap.size w w' := by
  have hla := large_at h
  have HE := Lib.hid hE
  have HI := Lib.hid h
  clear h hE
  go_enter Tryd.func3, Tryd.ntmps3
  go_wp2_with fail
  refine hla.mono ?_
  rintro e w0 ⟨⟨b, rfl, hb⟩, rfl⟩
  clear hla
  cases b with
  | true =>
    as_aux_lemma =>
      clear hb
      go_wp2_with fail
      refine (awake_any _ HE.out).mono ?_
      rintro e w1 ⟨rfl, hb⟩
      have HB := Lib.hid hb
      clear hb
      go_wp2_with fail
      go_ret
      exact ⟨rfl, HB.out⟩
  | false =>
    have hn : n ≤ 60 := by rcases hb with h | h; cases h; exact h
    clear hb
    go_wp2_with fail
    refine (assemble_at HI.out HE.out hn base).mono ?_
    rintro e w1 ⟨ha0, hb⟩
    obtain ⟨wv, pv, c1, rfl, ha⟩ := assembled_split ha0
    clear ha0
    have HA := Lib.hid ha
    have HB1 := Lib.hid hb
    clear ha hb
    go_wp2_with fail
    refine (rAssemble_at (HI.out.below HB1.out) hn base).mono ?_
    rintro e w2 ⟨hr, hb⟩
    have HB12 := Lib.hid hb
    have HB2 := Lib.hid (HB1.out.trans (hb.mono HB1.out.size))
    clear hb
    rcases rpair HA.out hr with ⟨c2, ⟨rfl, rfl, rfl⟩, rfl⟩ | ⟨hc, f, v, pv2, hl, hle, ⟨rfl, O, rfl, hwd, hpl⟩, rfl, hw2, hp2⟩
    · as_aux_lemma =>
        clear hr HA
        go_wp2_with fail
        refine (words_alike (w := w2) (B := 0) (B' := 0) (n := 0) (ys := []) (World.ownsRow_nil _ _ _ _) (World.ownsRow_nil _ _ _ _) (by omega)).mono ?_
        rintro e w3 ⟨rfl, hb⟩
        have HB3 := Lib.hid (HB2.out.trans (hb.mono HB2.out.size))
        clear hb
        go_wp2_with fail
        refine (places_alike (w := w3) (B := 0) (B' := 0) (n := 0) (L := []) (World.ownsRow_nil _ _ _ _) (World.ownsRow_nil _ _ _ _) rfl (by omega)).mono ?_
        rintro e w4 ⟨rfl, hb⟩
        have HB4 := Lib.hid (HB3.out.trans (hb.mono HB3.out.size))
        clear hb HB1 HB12 HB2 HB3
        go_wp2_with fail
        refine (forms_at (HI.out.below HB4.out) (HE.out.below HB4.out) hn base).mono ?_
        rintro e w5 ⟨ha0, hb⟩
        obtain ⟨fv, c5, rfl, ha⟩ := forms_split ha0
        clear ha0
        have HF := Lib.hid ha
        have HB45 := Lib.hid hb
        have HB5 := Lib.hid (HB4.out.trans (hb.mono HB4.out.size))
        clear ha hb
        go_wp2_with fail
        refine (rForms_at (HI.out.below HB5.out) hn base).mono ?_
        rintro e w6 ⟨hr, hb⟩
        have HB56 := Lib.hid hb
        have HB6 := Lib.hid (HB5.out.trans (hb.mono HB5.out.size))
        clear hb
        rcases rpair2 HF.out hr with ⟨c6, ⟨rfl, rfl⟩, rfl⟩ | ⟨f, v, ⟨rfl, F, rfl, hF, -⟩, rfl, hrow⟩
        · as_aux_lemma =>
            clear hr HF
            go_wp2_with fail
            go_loopw [13] (fun s13 wr => s13 = .int .i64 0 ∧ wr = w6) (fun _ _ => 0)
            case atStart => exact ⟨rfl, rfl⟩
            case round =>
              obtain ⟨rfl, rfl⟩ := hrel
              have HBZ := HB6
              go_wp2_with fail
              refine (awake_any _ (HE.out.below HBZ.out)).mono ?_
              rintro e wz ⟨rfl, hb⟩
              have HBY := Lib.hid (HBZ.out.trans (hb.mono HBZ.out.size))
              clear hb
              go_wp2_with fail
              go_ret
              exact ⟨rfl, HBY.out⟩
        · as_aux_lemma =>
            clear hr HF
            obtain ⟨pr, cr, rfl, hsh⟩ : ∃ pr cr, v = .slice pr n cr ∧ (0 < n → ∃ R, pr = some ⟨R, 0, none⟩ ∧ ∀ i, i < n → w6.cell? ⟨R, i, none⟩ = some (.int .i64 (f i))) := by
              have hR : Row w6 v n (fun i => (f i : Int)) := ⟨⟨_, hrow⟩⟩
              obtain ⟨pr, cr, rfl, h⟩ := hR.shape
              refine ⟨pr, cr, rfl, fun h0 => ?_⟩
              obtain ⟨R, rfl, -⟩ := h h0
              exact ⟨R, rfl, fun i hi => hR.cell hi⟩
            have hFc : ∀ i, i < n → w6.cell? ⟨F, i, none⟩ = some (.int .i64 (f i)) := fun i hi => by
              have h5 : w5.cell? ⟨F, i, none⟩ = some (.int .i64 (f i)) := cellF hF i hi
              exact (HB56.out.cell (p := ⟨F, i, none⟩) (World.block_lt_of_cell? w5 _ h5)).trans h5
            have HS := Lib.hid (And.intro hsh hFc)
            clear hrow hsh hFc hF
            go_wp2_with fail
            go_loopw [13] (fun s13 wr => ∃ k : Nat, s13 = .int .i64 k ∧ k ≤ n ∧ Below w6.heap.size w6 wr) (fun s13 _ => n - (intOf s13).toNat)
            case atStart => exact ⟨0, rfl, Nat.zero_le _, Below.refl _ _⟩
            case round =>
              obtain ⟨k, rfl, hk, hb⟩ := hrel
              by_cases hlt : k < n
              · as_aux_lemma =>
                  have d1 : decide ((k : Int) < (n : Int)) = true := by simp; omega
                  have ek : (k : Int) < (n : Int) := by omega
                  obtain ⟨R, rfl, hRc⟩ := HS.out.1 (by omega)
                  have x1 := HS.out.2 k hlt
                  have x2 := hRc k hlt
                  have y1 := (hb.cell (p := ⟨F, k, none⟩) (World.block_lt_of_cell? w6 _ x1)).trans x1
                  have y2 := (hb.cell (p := ⟨R, k, none⟩) (World.block_lt_of_cell? w6 _ x2)).trans x2
                  obtain ⟨b, off, hp, k0, k1, k2, k3, k4, k5, k6, k7⟩ := (HI.out.below (HB6.out.trans (hb.mono HB6.out.size))).at hlt
                  subst hp
                  have HB := Lib.hid hb
                  clear hb x1 x2 hRc k0 k2 k3 k4 k5 k6 k7
                  go_wp2_with fail
                  first
                    | (go_region_held (fun w' => w'.cell? ⟨F, k, none⟩ = some (.int .i64 (f k)) ∧ w'.cell? ⟨R, k, none⟩ = some (.int .i64 (f k)) ∧ w'.cell? ⟨b, off + k * 8 + 1, none⟩ = some (.int .i64 (X k).op)) (go_keep) (first
                        | (go_at_call 15; refine (turned_any _ _).mono ?_; rintro e w9 ⟨rfl, rfl⟩)
                        | (go_at_call 16; refine (rturned_any _ _).mono ?_; rintro e w9 ⟨rfl, rfl⟩)))
                    | fail
                  all_goals
                    go_wp2_with fail
                    go_roundw
                    case rel => exact ⟨k + 1, by go_num, hlt, HB.out.drew⟩
                    case measure => simp [intOf]; omega
              · as_aux_lemma =>
                  have hz : k = n := by omega
                  subst hz
                  have d1 : decide ((k : Int) < (k : Int)) = false := by simp
                  have HBZ := Lib.hid (HB6.out.trans (hb.mono HB6.out.size))
                  clear hb
                  go_wp2_with fail
                  refine (awake_any _ (HE.out.below HBZ.out)).mono ?_
                  rintro e wz ⟨rfl, hb⟩
                  have HBY := Lib.hid (HBZ.out.trans (hb.mono HBZ.out.size))
                  clear hb
                  go_wp2_with fail
                  go_ret
                  exact ⟨rfl, HBY.out⟩
    · as_aux_lemma =>
        clear hr HA
        have hlen := wordsL_len hl.1.1 (fun i hi => (HI.out.word i hi).1) (kind_of hc) n (Nat.le_refl n) (base := base)
        have hb0 := (check_parts hc).1
        have hpn := placesL_len X (ad X base f) n
        have hW1 : w2.ownsRow w.heap.size 42 1 (.slice (some ⟨O, 0, none⟩) (wordsL X n base f n).length (wordsL X n base f n).length) (wordsL X n base f n).length (byW (wordsL X n base f n)) := own_below hwd HB12.out
        have hP1 := own_below hpl HB12.out
        have HSA := Lib.hid (words_alike hW1 hw2 (by omega))
        have HP := Lib.hid (And.intro hP1 (And.intro hp2 (show (placesL X (ad X base f) n).length ≤ 1000000000 by omega)))
        clear hlen hb0 hpn hW1 hP1 hw2 hp2 hwd hpl hc hl hle
        go_wp2_with fail
        refine HSA.out.mono ?_
        rintro e w3 ⟨rfl, hb⟩
        have HB3 := Lib.hid (HB2.out.trans (hb.mono HB2.out.size))
        have HPA := Lib.hid (places_alike (own_below HP.out.1 hb) (own_below HP.out.2.1 hb) rfl HP.out.2.2)
        clear hb
        go_wp2_with fail
        refine HPA.out.mono ?_
        rintro e w4 ⟨rfl, hb⟩
        have HB4 := Lib.hid (HB3.out.trans (hb.mono HB3.out.size))
        clear hb HB1 HB12 HB2 HB3 HSA HP HPA
        go_wp2_with fail
        refine (forms_at (HI.out.below HB4.out) (HE.out.below HB4.out) hn base).mono ?_
        rintro e w5 ⟨ha0, hb⟩
        obtain ⟨fv, c5, rfl, ha⟩ := forms_split ha0
        clear ha0
        have HF := Lib.hid ha
        have HB45 := Lib.hid hb
        have HB5 := Lib.hid (HB4.out.trans (hb.mono HB4.out.size))
        clear ha hb
        go_wp2_with fail
        refine (rForms_at (HI.out.below HB5.out) hn base).mono ?_
        rintro e w6 ⟨hr, hb⟩
        have HB56 := Lib.hid hb
        have HB6 := Lib.hid (HB5.out.trans (hb.mono HB5.out.size))
        clear hb
        rcases rpair2 HF.out hr with ⟨c6, ⟨rfl, rfl⟩, rfl⟩ | ⟨f, v, ⟨rfl, F, rfl, hF, -⟩, rfl, hrow⟩
        · as_aux_lemma =>
            clear hr HF
            go_wp2_with fail
            go_loopw [13] (fun s13 wr => s13 = .int .i64 0 ∧ wr = w6) (fun _ _ => 0)
            case atStart => exact ⟨rfl, rfl⟩
            case round =>
              obtain ⟨rfl, rfl⟩ := hrel
              have HBZ := HB6
              go_wp2_with fail
              refine (awake_any _ (HE.out.below HBZ.out)).mono ?_
              rintro e wz ⟨rfl, hb⟩
              have HBY := Lib.hid (HBZ.out.trans (hb.mono HBZ.out.size))
              clear hb
              go_wp2_with fail
              go_ret
              exact ⟨rfl, HBY.out⟩
        · as_aux_lemma =>
            clear hr HF
            obtain ⟨pr, cr, rfl, hsh⟩ : ∃ pr cr, v = .slice pr n cr ∧ (0 < n → ∃ R, pr = some ⟨R, 0, none⟩ ∧ ∀ i, i < n → w6.cell? ⟨R, i, none⟩ = some (.int .i64 (f i))) := by
              have hR : Row w6 v n (fun i => (f i : Int)) := ⟨⟨_, hrow⟩⟩
              obtain ⟨pr, cr, rfl, h⟩ := hR.shape
              refine ⟨pr, cr, rfl, fun h0 => ?_⟩
              obtain ⟨R, rfl, -⟩ := h h0
              exact ⟨R, rfl, fun i hi => hR.cell hi⟩
            have hFc : ∀ i, i < n → w6.cell? ⟨F, i, none⟩ = some (.int .i64 (f i)) := fun i hi => by
              have h5 : w5.cell? ⟨F, i, none⟩ = some (.int .i64 (f i)) := cellF hF i hi
              exact (HB56.out.cell (p := ⟨F, i, none⟩) (World.block_lt_of_cell? w5 _ h5)).trans h5
            have HS := Lib.hid (And.intro hsh hFc)
            clear hrow hsh hFc hF
            go_wp2_with fail
            go_loopw [13] (fun s13 wr => ∃ k : Nat, s13 = .int .i64 k ∧ k ≤ n ∧ Below w6.heap.size w6 wr) (fun s13 _ => n - (intOf s13).toNat)
            case atStart => exact ⟨0, rfl, Nat.zero_le _, Below.refl _ _⟩
            case round =>
              obtain ⟨k, rfl, hk, hb⟩ := hrel
              by_cases hlt : k < n
              · as_aux_lemma =>
                  have d1 : decide ((k : Int) < (n : Int)) = true := by simp; omega
                  have ek : (k : Int) < (n : Int) := by omega
                  obtain ⟨R, rfl, hRc⟩ := HS.out.1 (by omega)
                  have x1 := HS.out.2 k hlt
                  have x2 := hRc k hlt
                  have y1 := (hb.cell (p := ⟨F, k, none⟩) (World.block_lt_of_cell? w6 _ x1)).trans x1
                  have y2 := (hb.cell (p := ⟨R, k, none⟩) (World.block_lt_of_cell? w6 _ x2)).trans x2
                  obtain ⟨b, off, hp, k0, k1, k2, k3, k4, k5, k6, k7⟩ := (HI.out.below (HB6.out.trans (hb.mono HB6.out.size))).at hlt
                  subst hp
                  have HB := Lib.hid hb
                  clear hb x1 x2 hRc k0 k2 k3 k4 k5 k6 k7
                  go_wp2_with fail
                  first
                    | (go_region_held (fun w' => w'.cell? ⟨F, k, none⟩ = some (.int .i64 (f k)) ∧ w'.cell? ⟨R, k, none⟩ = some (.int .i64 (f k)) ∧ w'.cell? ⟨b, off + k * 8 + 1, none⟩ = some (.int .i64 (X k).op)) (go_keep) (first
                        | (go_at_call 15; refine (turned_any _ _).mono ?_; rintro e w9 ⟨rfl, rfl⟩)
                        | (go_at_call 16; refine (rturned_any _ _).mono ?_; rintro e w9 ⟨rfl, rfl⟩)))
                    | fail
                  all_goals
                    go_wp2_with fail
                    go_roundw
                    case rel => exact ⟨k + 1, by go_num, hlt, HB.out.drew⟩
                    case measure => simp [intOf]; omega
              · as_aux_lemma =>
                  have hz : k = n := by omega
                  subst hz
                  have d1 : decide ((k : Int) < (k : Int)) = false := by simp
                  have HBZ := Lib.hid (HB6.out.trans (hb.mono HB6.out.size))
                  clear hb
                  go_wp2_with fail
                  refine (awake_any _ (HE.out.below HBZ.out)).mono ?_
                  rintro e wz ⟨rfl, hb⟩
                  have HBY := Lib.hid (HBZ.out.trans (hb.mono HBZ.out.size))
                  clear hb
                  go_wp2_with fail
                  go_ret
                  exact ⟨rfl, HBY.out⟩
end Go.Proofs.YticleblhmkikaaaDoor
