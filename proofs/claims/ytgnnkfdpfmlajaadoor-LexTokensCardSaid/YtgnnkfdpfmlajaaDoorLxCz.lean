/- Contracts: LexTokens. Conditions: none. -/
import Derived.Test.YtgnnkfdpfmlajaaDoorLxCd
import Derived.Test.YtgnnkfdpfmlajaaDoorLxBr
import Derived.Lib.AppendZeros
import Derived.Deep.RegionHeld3
namespace Go.Proofs.YtgnnkfdpfmlajaaDoor
open Go.RowKit Bg Lx
set_option linter.unusedVariables false
set_option linter.unusedSimpArgs false

theorem keepD {w w' : World} (hb : Below w.drew.heap.size w.drew w') {a : Addr} {v : Value} (h : w.cell? a = some v) : w'.cell? a = some v := (hb.cell (show a.block < w.heap.size from World.block_lt_of_cell? w _ h)).trans h
/-- A copy of a source. -/
theorem app_copy {W : World} {p : Option Addr} {c : Nat} {l : List Int} (a : Arg .u8 (W.alloc (.cells #[] 5)) p c l) (hR : l.length ≤ 281474976710656) :
    ∃ p' c' w', (Builtin.append_ #[22, 22] 22 #[.slice (some ⟨W.heap.size, 0, none⟩) 0 0, .slice p l.length c]).run Tryd.prog (W.alloc (.cells #[] 5)) = .ok (.slice p' l.length c') w' ∧ Arg .u8 w' p' c' l ∧ Below W.heap.size W w' := by
  have b0 : Below W.heap.size W (W.alloc (.cells #[] 5)) := (Below.refl _ _).alloc (Nat.le_refl _) _
  have ho := own_lit W [] (by decide)
  simp only [List.map_nil, List.length_nil] at ho
  by_cases hs : l.length ≤ 1000000000
  · obtain ⟨v', w', hr, h1, -, h3⟩ := app_row kt8 ho a (by simpa using hs) b0.size
    rw [List.nil_append] at h1
    obtain ⟨p', c', rfl, h4, -⟩ := h1.arg
    exact ⟨p', c', w', hr, h4, b0.trans h3⟩
  · obtain ⟨i0, hi, hz0, hz1, hz2⟩ := kt8.info
    obtain ⟨g, off, rfl, hc⟩ := a.at (by omega)
    have hle := a.le
    have hr := run_append_grow (P := Tryd.prog) (w := W.alloc (.cells #[] 5)) 22 22 5 i0 (.int .u8 0) kt8.und hi hz0 ⟨W.heap.size, 0, none⟩ 0 0 [] (by simp) (fun j v h => by simp at h) ⟨g, off, none⟩ l.length c (l.map (Value.int .u8)) (by rw [List.length_map, hz1, Nat.mul_one]) (fun j u hu => by
      have hj : j < l.length := by
        have := (List.getElem?_eq_some_iff.1 hu).1
        rwa [List.length_map] at this
      rw [add_at, hc j hj, ← hu, row_get hj]) (by omega) (by omega) (by rw [Nat.zero_add, nextslicecap_zero (by omega), hz2]; omega)
    rw [Nat.zero_add] at hr
    obtain ⟨C, hC⟩ : ∃ C, C = grownCap (W.alloc (.cells #[] 5)) l.length 0 5 := ⟨_, rfl⟩
    have hge : l.length ≤ C := by rw [hC]; exact grownCap_ge _ _ _ _
    have hmx : C ≤ maxLen := by rw [hC]; exact grownCap_le_maxLen _ _ _ _ (by unfold maxLen; omega)
    rw [← hC] at hr
    refine ⟨_, C, _, hr, ?_, ?_⟩
    · refine ⟨fun h => (by cases h), hge, by unfold maxLen at hmx; exact hmx, fun i hi => ⟨_, 0, rfl, ?_⟩⟩
      have hx : ((W.alloc (.cells #[] 5)).drew.alloc (.cells (#[] ++ (l.map (Value.int .u8)).toArray ++ Builtin.zeroCells (Value.int .u8 0).cells (C - l.length)) 5)).heap[(W.alloc (.cells #[] 5)).heap.size]? = some (.cells (#[] ++ (l.map (Value.int .u8)).toArray ++ Builtin.zeroCells (Value.int .u8 0).cells (C - l.length)) 5) := heap_new (W.alloc (.cells #[] 5)).drew _
      rw [Nat.zero_add]
      refine (blk_cell hx i).trans ?_
      rw [← row_get hi, Array.getElem?_append_left (by simpa using hi)]
      simp
    · exact ((b0.drew).alloc (by exact b0.size) _)
set_option maxRecDepth 100000 in
set_option maxHeartbeats 32000000 in
theorem plex_long {w : World} {p : Option Addr} {c n : Nat} (h : 16777216 < n) : Calls Tryd.prog 9 #[.slice p n c] w fun e w' => e = .returned (.tuple #[.slice none 0 0, .agg #[.int .i64 3, .int .i64 0]]) ∧ Below w.heap.size w w' := by
  have d1 : decide ((16777216 : Int) < (n : Int)) = true := by rw [decide_eq_true_eq]; omega
  have d2 : (16777216 : Int) < (n : Int) := by omega
  have hx := heap_new w (.cells #[.int .i64 3, .int .i64 0] 27)
  have z0 := blk_cell hx 0
  have z1 := blk_cell hx 1
  simp only [List.getElem?_toArray, List.getElem?_cons_succ, List.getElem?_cons_zero] at z0 z1
  have HZ := Lib.hid (And.intro z0 z1)
  clear hx z0 z1
  go_enter Tryd.func9, Tryd.ntmps9
  go_wp2_with fail
  have z := HZ.out
  refine bodyPost_ret (v := (.tuple #[.slice none 0 0, .agg #[.int .i64 3, .int .i64 0]])) (by simp [results, Tryd.results9, go_sem, z.1, z.2]) rfl ?_
  exact ⟨rfl, (Below.refl _ _).alloc (Nat.le_refl _) _⟩
set_option maxRecDepth 100000 in
set_option maxHeartbeats 32000000 in
theorem rlex_long {w : World} {p : Option Addr} {c n : Nat} (h : 16777216 < n) : Calls Tryd.prog 10 #[.slice p n c] w fun e w' => e = .returned (.tuple #[.slice none 0 0, .int .i64 3, .int .i64 0]) ∧ Below w.heap.size w w' := by
  have d1 : decide ((16777216 : Int) < (n : Int)) = true := by rw [decide_eq_true_eq]; omega
  have d2 : (16777216 : Int) < (n : Int) := by omega
  go_enter Tryd.func10, Tryd.ntmps10
  go_wp2_with fail
  refine bodyPost_ret (v := (.tuple #[.slice none 0 0, .int .i64 3, .int .i64 0])) (by simp [results, Tryd.results10, go_sem]) rfl ?_
  exact ⟨rfl, Below.refl _ _⟩
set_option maxRecDepth 100000 in
set_option maxHeartbeats 32000000 in
theorem lextokens_any {w : World} {p : Option Addr} {c : Nat} {l : List Int} (a : Arg .u8 w p c l) (hb : Byts l) (ht : Tab w) (hR : l.length ≤ 281474976710656) :
    Calls Tryd.prog 3 #[.slice p l.length c] w fun e w' => e = .returned (.bool true) ∧ Below w.heap.size w w' := by
  by_cases hmid : 20000 < l.length ∧ l.length ≤ 16777216
  · have d1 : decide ((20000 : Int) < (l.length : Int)) = true := by rw [decide_eq_true_eq]; omega
    have d2 : (20000 : Int) < (l.length : Int) := by omega
    have d3 : decide ((l.length : Int) ≤ (16777216 : Int)) = true := by rw [decide_eq_true_eq]; omega
    have d4 : (l.length : Int) ≤ (16777216 : Int) := by omega
    have T := Lib.hid (awake_at ht)
    clear a hb ht hmid hR
    go_enter Tryd.func3, Tryd.ntmps3
    go_wp2_with (go_at_call 8; refine T.out.mono ?_; rintro e w' ⟨rfl, hb⟩; replace hb := Lib.hid hb)
    go_ret
    exact ⟨rfl, hb.out⟩
  obtain ⟨ts, x, y, hts, TP, TQ⟩ : ∃ (ts : List Tk) (x y : Int), ts.length ≤ 20000 ∧ (∀ (W : World) (p' : Option Addr) (c' : Nat), Below w.heap.size w W → Arg .u8 W p' c' l → Calls Tryd.prog 9 #[.slice p' l.length c'] W fun e w' => (∃ v, e = .returned (.tuple #[v, .agg #[.int .i64 x, .int .i64 y]]) ∧ TR W.heap.size w' v ts) ∧ Below W.heap.size W w') ∧ (∀ W : World, Below w.heap.size w W → Calls Tryd.prog 10 #[.slice p l.length c] W fun e w' => (∃ v, e = .returned (.tuple #[v, .int .i64 x, .int .i64 y]) ∧ TR W.heap.size w' v ts) ∧ Below W.heap.size W w') := by
    by_cases hs : l.length ≤ 20000
    · refine ⟨(lex 0 l).1, (lex 0 l).2.1, (lex 0 l).2.2, Nat.le_trans (lex_count _ 0 l hb (Nat.le_refl _)) hs, fun W p' c' h h' => ?_, fun W h => ?_⟩
      · have := plex_at h' hb (by omega) (ht.below h)
        unfold LexIs at this
        exact this
      · have := rlex_at (a.below h) hb (by omega)
        unfold RLexIs at this
        exact this
    · refine ⟨[], 3, 0, Nat.zero_le _, fun W p' c' h h' => ?_, fun W h => ?_⟩
      · exact (plex_long (by omega)).mono fun e w' h => ⟨⟨_, h.1, TR.nil _ _⟩, h.2⟩
      · exact (rlex_long (by omega)).mono fun e w' h => ⟨⟨_, h.1, TR.nil _ _⟩, h.2⟩
  have b0 : Below w.heap.size w (w.alloc (.cells #[] 5)) := (Below.refl _ _).alloc (Nat.le_refl _) _
  obtain ⟨p1, c1, w1, hr1, a1, b1⟩ := app_copy (a.below b0) hR
  have T9 := TP w1 p1 c1 b1 a1
  have HA := Lib.hid (And.intro ht (And.intro a a1))
  have hL : l.length ≤ 20000 ∨ 16777216 < l.length := by omega
  have HC := Lib.hid (fun W (h : Below w.heap.size w W) => conv_arg (a.below h))
  have HC1 := Lib.hid (fun W (h : Below w1.heap.size w1 W) => conv_arg (a1.below h))
  obtain ⟨S, hS⟩ : ∃ S, S = strOfNums l := ⟨_, rfl⟩
  rw [← hS] at HC HC1
  have hss : (S.toList == S.toList) = true := by simp
  obtain ⟨L, hLe⟩ : ∃ L, L = l.length := ⟨_, rfl⟩
  rw [← hLe] at hr1 T9 TQ hL HC HC1 ⊢
  have HR1 := Lib.hid (And.intro hr1 b1)
  replace T9 := Lib.hid T9
  have T10 := Lib.hid TQ
  clear a hb ht hR hmid TP TQ b0 hr1 a1 b1 hS hLe
  rcases hL with hL | hL
  · have d1 : decide ((20000 : Int) < (L : Int)) = false := by rw [decide_eq_false_iff_not]; omega
    have d2 : ¬ (20000 : Int) < (L : Int) := by omega
    go_enter Tryd.func3, Tryd.ntmps3
    go_upto_region 4 with (at_builtin; go_loud (refine Lib.wpList_append_run _ rfl _ _ 22 22 rfl (.slice (some ⟨w.heap.size, 0, none⟩) 0 0) (.slice p L c) rfl rfl (.slice p1 L c1) w1 HR1.out.1 ?_))
    go_wp2_with fail
    refine T9.out.mono ?_
    rintro e w5 ⟨⟨v5, rfl, r5⟩, b5⟩
    obtain ⟨q5, c5, rfl, -⟩ := r5.shape
    go_upto_region 5 with fail
    obtain ⟨W5, hW5⟩ : ∃ W, W = w5.alloc (.cells #[.int .i64 x, .int .i64 y] 27) := ⟨_, rfl⟩
    obtain ⟨N5, hN5⟩ : ∃ N, N = w5.heap.size := ⟨_, rfl⟩
    have HB5 := Lib.hid (show TR w1.heap.size W5 (.slice q5 ts.length c5) ts ∧ Below w1.heap.size w1 W5 ∧ W5.heap[N5]? = some (.cells #[.int .i64 x, .int .i64 y] 27) by
      have bb : Below w5.heap.size w5 W5 := by rw [hW5]; exact (Below.refl _ _).alloc (Nat.le_refl _) _
      exact ⟨r5.below bb, b5.trans (bb.mono b5.size), by rw [hW5, hN5]; exact heap_new _ _⟩)
    rw [← hW5, ← hN5]
    clear hW5 hN5 r5 b5
    go_wp2_with fail
    refine (T10.out _ (HR1.out.2.trans (HB5.out.2.1.mono HR1.out.2.size))).mono ?_
    rintro e w6 ⟨⟨v6, rfl, r6⟩, b6⟩
    obtain ⟨q6, c6, rfl, -⟩ := r6.shape
    have HB6 := Lib.hid (show TR w1.heap.size w6 (.slice q5 ts.length c5) ts ∧ TR w1.heap.size w6 (.slice q6 ts.length c6) ts ∧ Below w1.heap.size w1 w6 ∧ w6.heap[N5]? = some (.cells #[.int .i64 x, .int .i64 y] 27) from
      ⟨HB5.out.1.below b6, r6.base HB5.out.2.1.size, HB5.out.2.1.trans (b6.mono HB5.out.2.1.size), (b6.block _ (lt_block HB5.out.2.2)).trans HB5.out.2.2⟩)
    clear r6 b6
    have y0 := blk_cell HB6.out.2.2.2 0
    have y1 := blk_cell HB6.out.2.2.2 1
    simp only [List.getElem?_toArray, List.getElem?_cons_succ, List.getElem?_cons_zero] at y0 y1
    have cv1 := HC1.out w6 HB6.out.2.2.1
    have cv2 := HC.out w6 (HR1.out.2.trans (HB6.out.2.2.1.mono HR1.out.2.size))
    go_upto_region 8 with fail
    clear y0 y1 cv1 cv2
    go_wp2_with fail
    go_loopw [9] (fun v wr => ∃ i : Nat, v = .int .i64 i ∧ i ≤ ts.length ∧ Hid (Below w6.heap.size w6 wr)) (fun v _ => ts.length - (intOf v).toNat)
    case atStart => exact ⟨0, rfl, Nat.zero_le _, Lib.hid (Below.refl _ _)⟩
    case round =>
      obtain ⟨i, rfl, hi, HK⟩ := hrel
      by_cases hlt : i < ts.length
      · have f1 : (i : Int) < (ts.length : Int) := by omega
        have e1 : decide ((i : Int) < (ts.length : Int)) = true := by rw [decide_eq_true_eq]; exact f1
        have hws : IntKind.i64.wrap ((i : Int) + 1) = (i : Int) + 1 := by rw [wrap_small _ (by omega) (by omega)]
        obtain ⟨g1, d5, hv5, k0, k1, k2, k3, k4, k5, k6⟩ := (HB6.out.1.below HK.out).one_at hlt
        cases hv5
        obtain ⟨g2, d6, hv6, l0, l1, l2, l3, l4, l5, l6⟩ := (HB6.out.2.1.below HK.out).one_at hlt
        cases hv6
        obtain ⟨t, ht⟩ : ∃ t, t = ts[i] := ⟨_, rfl⟩
        rw [← ht] at k0 k1 k2 k3 k4 k6 l0 l1 l2 l3 l4 l6
        clear ht
        obtain ⟨kd, hkd⟩ : ∃ x, x = t.kind := ⟨_, rfl⟩
        obtain ⟨P, hP⟩ : ∃ x, x = t.pos := ⟨_, rfl⟩
        obtain ⟨dk, hdk⟩ : ∃ x, x = t.dk := ⟨_, rfl⟩
        obtain ⟨m, hm⟩ : ∃ x, x = t.n := ⟨_, rfl⟩
        obtain ⟨T, hT⟩ : ∃ x, x = strOfNums t.text := ⟨_, rfl⟩
        obtain ⟨D, hD⟩ : ∃ x, x = dpos t := ⟨_, rfl⟩
        rw [← hkd] at k0 l0
        rw [← hP] at k1 l1
        rw [← hdk] at k2 l2
        rw [← hm] at k3 l3
        rw [← hT] at k4 l4
        rw [← hD] at k6 l6
        clear hkd hP hdk hm hT hD
        have hSS : wr.cell? ⟨g1, i * 7, none⟩ = some (.int .i64 kd) ∧ wr.cell? ⟨g1, i * 7 + 1, none⟩ = some (.int .i64 P) ∧ wr.cell? ⟨g1, i * 7 + 2, none⟩ = some (.int .i64 dk) ∧ wr.cell? ⟨g1, i * 7 + 3, none⟩ = some (.int .i64 m) ∧ wr.cell? ⟨g1, i * 7 + 4, none⟩ = some (.string T) ∧ wr.cell? ⟨g1, i * 7 + 5, none⟩ = some (.slice none 0 0) ∧ wr.cell? ⟨g1, i * 7 + 6, none⟩ = some (.int .i64 D) ∧ wr.cell? ⟨g2, i * 7, none⟩ = some (.int .i64 kd) ∧ wr.cell? ⟨g2, i * 7 + 1, none⟩ = some (.int .i64 P) ∧ wr.cell? ⟨g2, i * 7 + 2, none⟩ = some (.int .i64 dk) ∧ wr.cell? ⟨g2, i * 7 + 3, none⟩ = some (.int .i64 m) ∧ wr.cell? ⟨g2, i * 7 + 4, none⟩ = some (.string T) ∧ wr.cell? ⟨g2, i * 7 + 5, none⟩ = some (.slice none 0 0) ∧ wr.cell? ⟨g2, i * 7 + 6, none⟩ = some (.int .i64 D) := ⟨k0, k1, k2, k3, k4, k5, k6, l0, l1, l2, l3, l4, l5, l6⟩
        go_upto_region 11 with fail
        go_region_held3 (fun w' => w'.cell? ⟨g1, i * 7, none⟩ = some (.int .i64 kd) ∧ w'.cell? ⟨g1, i * 7 + 1, none⟩ = some (.int .i64 P) ∧ w'.cell? ⟨g1, i * 7 + 2, none⟩ = some (.int .i64 dk) ∧ w'.cell? ⟨g1, i * 7 + 3, none⟩ = some (.int .i64 m) ∧ w'.cell? ⟨g1, i * 7 + 4, none⟩ = some (.string T) ∧ w'.cell? ⟨g1, i * 7 + 5, none⟩ = some (.slice none 0 0) ∧ w'.cell? ⟨g1, i * 7 + 6, none⟩ = some (.int .i64 D) ∧ w'.cell? ⟨g2, i * 7, none⟩ = some (.int .i64 kd) ∧ w'.cell? ⟨g2, i * 7 + 1, none⟩ = some (.int .i64 P) ∧ w'.cell? ⟨g2, i * 7 + 2, none⟩ = some (.int .i64 dk) ∧ w'.cell? ⟨g2, i * 7 + 3, none⟩ = some (.int .i64 m) ∧ w'.cell? ⟨g2, i * 7 + 4, none⟩ = some (.string T) ∧ w'.cell? ⟨g2, i * 7 + 5, none⟩ = some (.slice none 0 0) ∧ w'.cell? ⟨g2, i * 7 + 6, none⟩ = some (.int .i64 D)) (go_keep) ((go_at_call 11; refine (same_at _ _ _ _ _ _ _).mono ?_; rintro e w7 ⟨rfl, hb7⟩; have z0 := keepD hb7 k0; have z1 := keepD hb7 k1; have z2 := keepD hb7 k2; have z3 := keepD hb7 k3; have z4 := keepD hb7 k4; have z5 := keepD hb7 k5; have z6 := keepD hb7 k6; have q0 := keepD hb7 l0; have q1 := keepD hb7 l1; have q2 := keepD hb7 l2; have q3 := keepD hb7 l3; have q4 := keepD hb7 l4; have q5 := keepD hb7 l5; have q6 := keepD hb7 l6))
        have H7 := Lib.hid (show Below w6.heap.size w6 w7 from (HK.out.drew).trans (hb7.mono (show w6.heap.size ≤ wr.heap.size from HK.out.size)))
        clear hSS k0 k1 k2 k3 k4 k5 k6 l0 l1 l2 l3 l4 l5 l6 z0 z1 z2 z3 z4 z5 z6 q0 q1 q2 q3 q4 q5 q6 hb7
        go_wp2_with fail
        go_roundw
        case rel => exact ⟨i + 1, rfl, by omega, H7⟩
        case measure => (simp only [intOf]; omega)
      · have f1 : ¬ (i : Int) < (ts.length : Int) := by omega
        have e1 : decide ((i : Int) < (ts.length : Int)) = false := by rw [decide_eq_false_iff_not]; exact f1
        have B := (HR1.out.2.trans (HB6.out.2.2.1.mono HR1.out.2.size))
        have B2 := B.trans (HK.out.mono B.size)
        have T8 := Lib.hid (awake_at (HA.out.1.below B2))
        have HB := Lib.hid B2
        clear B B2
        go_wp2_with fail
        refine T8.out.mono ?_
        rintro e w9 ⟨rfl, hb9⟩
        have H9 := Lib.hid (HB.out.trans (hb9.mono HB.out.size))
        clear hb9
        go_wp2_with fail
        go_ret
        exact ⟨rfl, H9.out⟩
  · have d1 : decide ((20000 : Int) < (L : Int)) = true := by rw [decide_eq_true_eq]; omega
    have d2 : (20000 : Int) < (L : Int) := by omega
    have d3 : decide ((L : Int) ≤ (16777216 : Int)) = false := by rw [decide_eq_false_iff_not]; omega
    have d4 : ¬ (L : Int) ≤ (16777216 : Int) := by omega
    go_enter Tryd.func3, Tryd.ntmps3
    go_upto_region 4 with (at_builtin; go_loud (refine Lib.wpList_append_run _ rfl _ _ 22 22 rfl (.slice (some ⟨w.heap.size, 0, none⟩) 0 0) (.slice p L c) rfl rfl (.slice p1 L c1) w1 HR1.out.1 ?_))
    go_wp2_with fail
    refine T9.out.mono ?_
    rintro e w5 ⟨⟨v5, rfl, r5⟩, b5⟩
    obtain ⟨q5, c5, rfl, -⟩ := r5.shape
    go_upto_region 5 with fail
    obtain ⟨W5, hW5⟩ : ∃ W, W = w5.alloc (.cells #[.int .i64 x, .int .i64 y] 27) := ⟨_, rfl⟩
    obtain ⟨N5, hN5⟩ : ∃ N, N = w5.heap.size := ⟨_, rfl⟩
    have HB5 := Lib.hid (show TR w1.heap.size W5 (.slice q5 ts.length c5) ts ∧ Below w1.heap.size w1 W5 ∧ W5.heap[N5]? = some (.cells #[.int .i64 x, .int .i64 y] 27) by
      have bb : Below w5.heap.size w5 W5 := by rw [hW5]; exact (Below.refl _ _).alloc (Nat.le_refl _) _
      exact ⟨r5.below bb, b5.trans (bb.mono b5.size), by rw [hW5, hN5]; exact heap_new _ _⟩)
    rw [← hW5, ← hN5]
    clear hW5 hN5 r5 b5
    go_wp2_with fail
    refine (T10.out _ (HR1.out.2.trans (HB5.out.2.1.mono HR1.out.2.size))).mono ?_
    rintro e w6 ⟨⟨v6, rfl, r6⟩, b6⟩
    obtain ⟨q6, c6, rfl, -⟩ := r6.shape
    have HB6 := Lib.hid (show TR w1.heap.size w6 (.slice q5 ts.length c5) ts ∧ TR w1.heap.size w6 (.slice q6 ts.length c6) ts ∧ Below w1.heap.size w1 w6 ∧ w6.heap[N5]? = some (.cells #[.int .i64 x, .int .i64 y] 27) from
      ⟨HB5.out.1.below b6, r6.base HB5.out.2.1.size, HB5.out.2.1.trans (b6.mono HB5.out.2.1.size), (b6.block _ (lt_block HB5.out.2.2)).trans HB5.out.2.2⟩)
    clear r6 b6
    have y0 := blk_cell HB6.out.2.2.2 0
    have y1 := blk_cell HB6.out.2.2.2 1
    simp only [List.getElem?_toArray, List.getElem?_cons_succ, List.getElem?_cons_zero] at y0 y1
    have cv1 := HC1.out w6 HB6.out.2.2.1
    have cv2 := HC.out w6 (HR1.out.2.trans (HB6.out.2.2.1.mono HR1.out.2.size))
    go_upto_region 8 with fail
    clear y0 y1 cv1 cv2
    go_wp2_with fail
    go_loopw [9] (fun v wr => ∃ i : Nat, v = .int .i64 i ∧ i ≤ ts.length ∧ Hid (Below w6.heap.size w6 wr)) (fun v _ => ts.length - (intOf v).toNat)
    case atStart => exact ⟨0, rfl, Nat.zero_le _, Lib.hid (Below.refl _ _)⟩
    case round =>
      obtain ⟨i, rfl, hi, HK⟩ := hrel
      by_cases hlt : i < ts.length
      · have f1 : (i : Int) < (ts.length : Int) := by omega
        have e1 : decide ((i : Int) < (ts.length : Int)) = true := by rw [decide_eq_true_eq]; exact f1
        have hws : IntKind.i64.wrap ((i : Int) + 1) = (i : Int) + 1 := by rw [wrap_small _ (by omega) (by omega)]
        obtain ⟨g1, d5, hv5, k0, k1, k2, k3, k4, k5, k6⟩ := (HB6.out.1.below HK.out).one_at hlt
        cases hv5
        obtain ⟨g2, d6, hv6, l0, l1, l2, l3, l4, l5, l6⟩ := (HB6.out.2.1.below HK.out).one_at hlt
        cases hv6
        obtain ⟨t, ht⟩ : ∃ t, t = ts[i] := ⟨_, rfl⟩
        rw [← ht] at k0 k1 k2 k3 k4 k6 l0 l1 l2 l3 l4 l6
        clear ht
        obtain ⟨kd, hkd⟩ : ∃ x, x = t.kind := ⟨_, rfl⟩
        obtain ⟨P, hP⟩ : ∃ x, x = t.pos := ⟨_, rfl⟩
        obtain ⟨dk, hdk⟩ : ∃ x, x = t.dk := ⟨_, rfl⟩
        obtain ⟨m, hm⟩ : ∃ x, x = t.n := ⟨_, rfl⟩
        obtain ⟨T, hT⟩ : ∃ x, x = strOfNums t.text := ⟨_, rfl⟩
        obtain ⟨D, hD⟩ : ∃ x, x = dpos t := ⟨_, rfl⟩
        rw [← hkd] at k0 l0
        rw [← hP] at k1 l1
        rw [← hdk] at k2 l2
        rw [← hm] at k3 l3
        rw [← hT] at k4 l4
        rw [← hD] at k6 l6
        clear hkd hP hdk hm hT hD
        have hSS : wr.cell? ⟨g1, i * 7, none⟩ = some (.int .i64 kd) ∧ wr.cell? ⟨g1, i * 7 + 1, none⟩ = some (.int .i64 P) ∧ wr.cell? ⟨g1, i * 7 + 2, none⟩ = some (.int .i64 dk) ∧ wr.cell? ⟨g1, i * 7 + 3, none⟩ = some (.int .i64 m) ∧ wr.cell? ⟨g1, i * 7 + 4, none⟩ = some (.string T) ∧ wr.cell? ⟨g1, i * 7 + 5, none⟩ = some (.slice none 0 0) ∧ wr.cell? ⟨g1, i * 7 + 6, none⟩ = some (.int .i64 D) ∧ wr.cell? ⟨g2, i * 7, none⟩ = some (.int .i64 kd) ∧ wr.cell? ⟨g2, i * 7 + 1, none⟩ = some (.int .i64 P) ∧ wr.cell? ⟨g2, i * 7 + 2, none⟩ = some (.int .i64 dk) ∧ wr.cell? ⟨g2, i * 7 + 3, none⟩ = some (.int .i64 m) ∧ wr.cell? ⟨g2, i * 7 + 4, none⟩ = some (.string T) ∧ wr.cell? ⟨g2, i * 7 + 5, none⟩ = some (.slice none 0 0) ∧ wr.cell? ⟨g2, i * 7 + 6, none⟩ = some (.int .i64 D) := ⟨k0, k1, k2, k3, k4, k5, k6, l0, l1, l2, l3, l4, l5, l6⟩
        go_upto_region 11 with fail
        go_region_held3 (fun w' => w'.cell? ⟨g1, i * 7, none⟩ = some (.int .i64 kd) ∧ w'.cell? ⟨g1, i * 7 + 1, none⟩ = some (.int .i64 P) ∧ w'.cell? ⟨g1, i * 7 + 2, none⟩ = some (.int .i64 dk) ∧ w'.cell? ⟨g1, i * 7 + 3, none⟩ = some (.int .i64 m) ∧ w'.cell? ⟨g1, i * 7 + 4, none⟩ = some (.string T) ∧ w'.cell? ⟨g1, i * 7 + 5, none⟩ = some (.slice none 0 0) ∧ w'.cell? ⟨g1, i * 7 + 6, none⟩ = some (.int .i64 D) ∧ w'.cell? ⟨g2, i * 7, none⟩ = some (.int .i64 kd) ∧ w'.cell? ⟨g2, i * 7 + 1, none⟩ = some (.int .i64 P) ∧ w'.cell? ⟨g2, i * 7 + 2, none⟩ = some (.int .i64 dk) ∧ w'.cell? ⟨g2, i * 7 + 3, none⟩ = some (.int .i64 m) ∧ w'.cell? ⟨g2, i * 7 + 4, none⟩ = some (.string T) ∧ w'.cell? ⟨g2, i * 7 + 5, none⟩ = some (.slice none 0 0) ∧ w'.cell? ⟨g2, i * 7 + 6, none⟩ = some (.int .i64 D)) (go_keep) ((go_at_call 11; refine (same_at _ _ _ _ _ _ _).mono ?_; rintro e w7 ⟨rfl, hb7⟩; have z0 := keepD hb7 k0; have z1 := keepD hb7 k1; have z2 := keepD hb7 k2; have z3 := keepD hb7 k3; have z4 := keepD hb7 k4; have z5 := keepD hb7 k5; have z6 := keepD hb7 k6; have q0 := keepD hb7 l0; have q1 := keepD hb7 l1; have q2 := keepD hb7 l2; have q3 := keepD hb7 l3; have q4 := keepD hb7 l4; have q5 := keepD hb7 l5; have q6 := keepD hb7 l6))
        have H7 := Lib.hid (show Below w6.heap.size w6 w7 from (HK.out.drew).trans (hb7.mono (show w6.heap.size ≤ wr.heap.size from HK.out.size)))
        clear hSS k0 k1 k2 k3 k4 k5 k6 l0 l1 l2 l3 l4 l5 l6 z0 z1 z2 z3 z4 z5 z6 q0 q1 q2 q3 q4 q5 q6 hb7
        go_wp2_with fail
        go_roundw
        case rel => exact ⟨i + 1, rfl, by omega, H7⟩
        case measure => (simp only [intOf]; omega)
      · have f1 : ¬ (i : Int) < (ts.length : Int) := by omega
        have e1 : decide ((i : Int) < (ts.length : Int)) = false := by rw [decide_eq_false_iff_not]; exact f1
        have B := (HR1.out.2.trans (HB6.out.2.2.1.mono HR1.out.2.size))
        have B2 := B.trans (HK.out.mono B.size)
        have T8 := Lib.hid (awake_at (HA.out.1.below B2))
        have HB := Lib.hid B2
        clear B B2
        go_wp2_with fail
        refine T8.out.mono ?_
        rintro e w9 ⟨rfl, hb9⟩
        have H9 := Lib.hid (HB.out.trans (hb9.mono HB.out.size))
        clear hb9
        go_wp2_with fail
        go_ret
        exact ⟨rfl, H9.out⟩
end Go.Proofs.YtgnnkfdpfmlajaaDoor
