/- Contracts: LexAgain. Conditions: none. -/
import Derived.Test.YtgnnkfdpfmlajaaDoorLxBv
namespace Go.Proofs.YtgnnkfdpfmlajaaDoor
open Go.RowKit Bg Lx
set_option linter.unusedVariables false
set_option linter.unusedSimpArgs false

theorem keepC {w w' : World} (hb : Below w.drew.heap.size w.drew w') {a : Addr} {v : Value} (h : w.cell? a = some v) : w'.cell? a = some v := (hb.cell (show a.block < w.heap.size from World.block_lt_of_cell? w _ h)).trans h
def pl (x : Int) : Bool := decide (x ≠ 34 ∧ x ≠ 92)
theorem pl_step {l : List Int} {k : Nat} (h : k < l.length) : (l.take (k + 1)).all pl = ((l.take k).all pl && pl (l.getD k 0)) := by
  rw [List.take_succ_eq_append_getElem h, List.all_append, List.getD_eq_getElem?_getD, List.getElem?_eq_getElem h]
  simp
set_option maxRecDepth 100000 in
set_option maxHeartbeats 32000000 in
theorem again_any {w : World} {p : Option Addr} {c : Nat} {l : List Int} (a : Arg .u8 w p c l) (hb : Byts l) (ht : Tab w) :
    Calls Tryd.prog 7 #[.slice p l.length c] w fun e w' => e = .returned (.bool true) ∧ Below w.heap.size w w' := by
  by_cases hbig : 5000 < l.length
  · have d1 : decide ((5000 : Int) < (l.length : Int)) = true := by rw [decide_eq_true_eq]; omega
    have d2 : (5000 : Int) < (l.length : Int) := by omega
    have T := Lib.hid (awake_at ht)
    clear a hb ht hbig
    go_enter Tryd.func7, Tryd.ntmps7
    go_wp2_with (go_at_call 8; refine T.out.mono ?_; rintro e w' ⟨rfl, hb⟩; replace hb := Lib.hid hb)
    go_ret
    exact ⟨rfl, hb.out⟩
  have T := plex_at a hb (by omega) ht
  have hcnt := lex_count _ 0 l hb (Nat.le_refl _)
  have hag := fun t h => @lex_again 0 l hb t h
  have hok := lex_ok 0 l hb
  have htx := lex_text _ 0 l hb (Nat.le_refl _)
  unfold LexIs at T
  obtain ⟨ts, hts⟩ : ∃ ts, ts = (lex 0 l).1 := ⟨_, rfl⟩
  obtain ⟨x, hx⟩ : ∃ x, x = (lex 0 l).2.1 := ⟨_, rfl⟩
  obtain ⟨y, hy⟩ : ∃ y, y = (lex 0 l).2.2 := ⟨_, rfl⟩
  rw [← hts, ← hx, ← hy] at T
  rw [← hts] at hcnt hag hok htx
  obtain ⟨L, hL⟩ : ∃ L, L = l.length := ⟨_, rfl⟩
  rw [← hL] at T hbig hcnt htx ⊢
  have d1 : decide ((5000 : Int) < (L : Int)) = false := by rw [decide_eq_false_iff_not]; omega
  have d2 : ¬ (5000 : Int) < (L : Int) := by omega
  have HT := Lib.hid (And.intro ht (And.intro hag (And.intro hok htx)))
  replace T := Lib.hid T
  clear a hb ht hts hy hL hx hag hok htx
  go_enter Tryd.func7, Tryd.ntmps7
  go_wp2_with fail
  refine T.out.mono ?_
  rintro e w2 ⟨⟨v, rfl, hr⟩, hb2⟩
  obtain ⟨q, c2, rfl, -⟩ := hr.shape
  obtain ⟨w3, hw3⟩ : ∃ w3, w3 = w2.alloc (.cells #[.int .i64 x, .int .i64 y] 27) := ⟨_, rfl⟩
  have b3 : Below w2.heap.size w2 w3 := by rw [hw3]; exact (Below.refl _ _).alloc (Nat.le_refl _) _
  have HR := Lib.hid (And.intro (hr.below b3) (hb2.trans (b3.mono hb2.size)))
  clear hr hb2 b3
  go_upto_region 4 with fail
  rw [← hw3]
  clear hw3
  go_wp2_with fail
  go_loopw [5, 6, 7, 8, 9, 10] (fun v _ _ _ _ _ wr => ∃ i : Nat, v = .int .i64 i ∧ i ≤ ts.length ∧ Hid (Below w3.heap.size w3 wr)) (fun v _ _ _ _ _ _ => ts.length - (intOf v).toNat)
  case atStart => exact ⟨0, rfl, Nat.zero_le _, Lib.hid (Below.refl _ _)⟩
  case round =>
    obtain ⟨i, rfl, hi, HK⟩ := hrel
    by_cases hlt : i < ts.length ∧ i < 200
    · obtain ⟨hlt, h200⟩ := hlt
      have f1 : (i : Int) < (ts.length : Int) := by omega
      have e1 : decide ((i : Int) < (ts.length : Int)) = true := by rw [decide_eq_true_eq]; exact f1
      have f2 : (i : Int) < 200 := by omega
      have e2 : decide ((i : Int) < 200) = true := by rw [decide_eq_true_eq]; exact f2
      have hws : IntKind.i64.wrap ((i : Int) + 1) = (i : Int) + 1 := by rw [wrap_small _ (by omega) (by omega)]
      obtain ⟨g, c3, hv, k0, k1, k2, k3, k4, k5, k6⟩ := (HR.out.1.below HK.out).one_at hlt
      obtain ⟨ha1, ha2, ha3⟩ := HT.out.2.1 _ (List.getElem_mem hlt)
      have hok := HT.out.2.2.1 _ (List.getElem_mem hlt)
      have htl := HT.out.2.2.2 _ (List.getElem_mem hlt)
      cases hv
      obtain ⟨t, hte⟩ : ∃ t, t = ts[i] := ⟨_, rfl⟩
      rw [← hte] at k2 k3 k4 k6 ha1 ha2 ha3 hok htl
      have hsz := str_size t.text
      have hby : t.dk = 2 ∨ t.dk = 4 ∨ t.dk = 5 → strOfNums t.text = strOfNums t.text := fun _ => rfl
      clear hby
      obtain ⟨S, hS⟩ : ∃ S, S = strOfNums t.text := ⟨_, rfl⟩
      rw [← hS] at k4 hsz
      obtain ⟨n, hn⟩ : ∃ n, n = t.n := ⟨_, rfl⟩
      obtain ⟨D, hD⟩ : ∃ D, D = dpos t := ⟨_, rfl⟩
      rw [← hn] at k3 ha1 ha2 ha3
      rw [← hD] at k6
      have HB0 := Lib.hid (HR.out.2.trans (HK.out.mono HR.out.2.size))
      have HS := Lib.hid (And.intro hS (And.intro hok hn))
      clear k0 k1 hte hD hn hS
      rcases (show t.dk = 2 ∨ t.dk = 5 ∨ t.dk = 1 ∨ t.dk = 4 ∨ (t.dk = 0 ∨ t.dk = 3) by
        rcases HS.out.2.1 with ⟨h1, h2⟩ | ⟨h1, h2⟩
        · omega
        · rcases h2 with ⟨h2, h3, h4⟩ | ⟨h2, h3, s, h4⟩ | ⟨h2, h3⟩ | ⟨h2, h3, cs, h4, h5⟩ | ⟨h2, h3, h4, h5, h6, h7⟩ <;> omega) with hd | hd | hd | hd | hd
      · have hlB : Byts t.text := ok_byts HS.out.2.1 (Or.inl hd)
        rw [hd] at k2
        have hlx := ha1 (Or.inl hd)
        have T4 := fun W (h : Below w.heap.size w W) => tokens_at (w := W) (l := t.text) hlB (by omega) (HT.out.1.below h)
        rw [← HS.out.1] at T4
        unfold TokIs at T4
        rw [hlx] at T4
        have HA := Lib.hid T4
        clear hlx T4 ha1 ha2 ha3 hok
        go_upto_region 8 with fail
        obtain ⟨W5, hW5⟩ : ∃ W, W = wr.alloc (.cells #[.int .i64 2, .int .i64 n, .string S, .slice none 0 0, .int .i64 D] 35) := ⟨_, rfl⟩
        have b5 : Below wr.heap.size wr W5 := by rw [hW5]; exact (Below.refl _ _).alloc (Nat.le_refl _) _
        have hx5 : W5.heap[wr.heap.size]? = some (.cells #[.int .i64 2, .int .i64 n, .string S, .slice none 0 0, .int .i64 D] 35) := by rw [hW5]; exact heap_new _ _
        obtain ⟨N, hN⟩ : ∃ N, N = wr.heap.size := ⟨_, rfl⟩
        rw [← hW5, ← hN]
        rw [← hN] at hx5
        have v0 := blk_cell hx5 0
        have v1 := blk_cell hx5 1
        have v2 := blk_cell hx5 2
        simp only [List.getElem?_toArray, List.getElem?_cons_succ, List.getElem?_cons_zero] at v0 v1 v2
        have H5 := Lib.hid (And.intro hx5 (And.intro (HK.out.trans (b5.mono HK.out.size)) (HB0.out.trans (b5.mono HB0.out.size))))
        clear hW5 hN b5 hx5 k2 k3 k4 k5 k6
        clear hlB
        go_wp2_with fail
        clear v0 v1 v2
        refine (HA.out _ H5.out.2.2).mono ?_
        rintro e w6 ⟨⟨v6, rfl, hr6⟩, hb6⟩
        obtain ⟨g6, c6, rfl, hc6, hm6⟩ := hr6.some_at (by simp)
        have R6 := row_cells hr6 0 0 (by simp) rfl
        have y0 : w6.cell? ⟨g6, 0, none⟩ = some (.int .i64 7) := R6.1
        have y1 : w6.cell? ⟨g6, 1, none⟩ = some (.int .i64 0) := R6.2.1
        have y2 : w6.cell? ⟨g6, 2, none⟩ = some (.int .i64 2) := by have := R6.2.2.1; rwa [show (([⟨7, 0, t.dk, n, t.text⟩] : List Tk)[0]).dk = 2 from hd] at this
        have y3 : w6.cell? ⟨g6, 3, none⟩ = some (.int .i64 n) := R6.2.2.2.1
        have y4 : w6.cell? ⟨g6, 4, none⟩ = some (.string S) := by rw [HS.out.1]; exact R6.2.2.2.2.1
        have y5 : w6.cell? ⟨g6, 5, none⟩ = some (.slice none 0 0) := R6.2.2.2.2.2.1
        have y6 : w6.cell? ⟨g6, 6, none⟩ = some (.int .i64 0) := R6.2.2.2.2.2.2
        have hx6 := (hb6.block _ (lt_block H5.out.1)).trans H5.out.1
        have z0 := blk_cell hx6 0
        have z1 := blk_cell hx6 1
        have z2 := blk_cell hx6 2
        simp only [List.getElem?_toArray, List.getElem?_cons_succ, List.getElem?_cons_zero] at z0 z1 z2
        simp only [List.length_cons, List.length_nil, Nat.zero_add] at hc6 ⊢
        have H6 := Lib.hid (H5.out.2.1.trans (hb6.mono H5.out.2.1.size))
        have hSS : w6.cell? ⟨g6, 0, none⟩ = some (.int .i64 7) ∧ w6.cell? ⟨g6, 1, none⟩ = some (.int .i64 0) ∧ w6.cell? ⟨g6, 2, none⟩ = some (.int .i64 2) ∧ w6.cell? ⟨g6, 3, none⟩ = some (.int .i64 n) ∧ w6.cell? ⟨g6, 4, none⟩ = some (.string S) ∧ w6.cell? ⟨g6, 5, none⟩ = some (.slice none 0 0) ∧ w6.cell? ⟨g6, 6, none⟩ = some (.int .i64 0) ∧ w6.cell? ⟨N, 0, none⟩ = some (.int .i64 2) ∧ w6.cell? ⟨N, 1, none⟩ = some (.int .i64 n) ∧ w6.cell? ⟨N, 2, none⟩ = some (.string S) := ⟨y0, y1, y2, y3, y4, y5, y6, z0, z1, z2⟩
        have HX := Lib.hid (fun W => dat_true 0 2 n S W)
        clear R6 hr6 hb6 hx6 hc6
        go_upto_region 25 with fail
        go_region_held3 (fun w' => w'.cell? ⟨g6, 0, none⟩ = some (.int .i64 7) ∧ w'.cell? ⟨g6, 1, none⟩ = some (.int .i64 0) ∧ w'.cell? ⟨g6, 2, none⟩ = some (.int .i64 2) ∧ w'.cell? ⟨g6, 3, none⟩ = some (.int .i64 n) ∧ w'.cell? ⟨g6, 4, none⟩ = some (.string S) ∧ w'.cell? ⟨g6, 5, none⟩ = some (.slice none 0 0) ∧ w'.cell? ⟨g6, 6, none⟩ = some (.int .i64 0) ∧ w'.cell? ⟨N, 0, none⟩ = some (.int .i64 2) ∧ w'.cell? ⟨N, 1, none⟩ = some (.int .i64 n) ∧ w'.cell? ⟨N, 2, none⟩ = some (.string S)) (go_keep) ((go_at_call 14; refine (HX.out _).mono ?_; rintro e w7 ⟨rfl, hb7⟩; have q0 := keepC hb7 y0; have q1 := keepC hb7 y1; have q2 := keepC hb7 y2; have q3 := keepC hb7 y3; have q4 := keepC hb7 y4; have q5 := keepC hb7 y5; have q6 := keepC hb7 y6; have q7 := keepC hb7 z0; have q8 := keepC hb7 z1; have q9 := keepC hb7 z2))
        have H7 := Lib.hid (show Below w3.heap.size w3 w7 from (H6.out.drew).trans (hb7.mono (show w3.heap.size ≤ w6.heap.size from H6.out.size)))
        clear hSS y0 y1 y2 y3 y4 y5 y6 z0 z1 z2 q0 q1 q2 q3 q4 q5 q6 q7 q8 q9 hb7
        go_wp2_with fail
        go_roundw
        case rel => exact ⟨i + 1, rfl, by omega, H7⟩
        case measure => (simp only [intOf]; omega)
      · have hlB : Byts t.text := ok_byts HS.out.2.1 (Or.inr (Or.inr hd))
        rw [hd] at k2
        have hlx := ha1 (Or.inr hd)
        have T4 := fun W (h : Below w.heap.size w W) => tokens_at (w := W) (l := t.text) hlB (by omega) (HT.out.1.below h)
        rw [← HS.out.1] at T4
        unfold TokIs at T4
        rw [hlx] at T4
        have HA := Lib.hid T4
        clear hlx T4 ha1 ha2 ha3 hok
        go_upto_region 8 with fail
        obtain ⟨W5, hW5⟩ : ∃ W, W = wr.alloc (.cells #[.int .i64 5, .int .i64 n, .string S, .slice none 0 0, .int .i64 D] 35) := ⟨_, rfl⟩
        have b5 : Below wr.heap.size wr W5 := by rw [hW5]; exact (Below.refl _ _).alloc (Nat.le_refl _) _
        have hx5 : W5.heap[wr.heap.size]? = some (.cells #[.int .i64 5, .int .i64 n, .string S, .slice none 0 0, .int .i64 D] 35) := by rw [hW5]; exact heap_new _ _
        obtain ⟨N, hN⟩ : ∃ N, N = wr.heap.size := ⟨_, rfl⟩
        rw [← hW5, ← hN]
        rw [← hN] at hx5
        have v0 := blk_cell hx5 0
        have v1 := blk_cell hx5 1
        have v2 := blk_cell hx5 2
        simp only [List.getElem?_toArray, List.getElem?_cons_succ, List.getElem?_cons_zero] at v0 v1 v2
        have H5 := Lib.hid (And.intro hx5 (And.intro (HK.out.trans (b5.mono HK.out.size)) (HB0.out.trans (b5.mono HB0.out.size))))
        clear hW5 hN b5 hx5 k2 k3 k4 k5 k6
        clear hlB
        go_wp2_with fail
        clear v0 v1 v2
        refine (HA.out _ H5.out.2.2).mono ?_
        rintro e w6 ⟨⟨v6, rfl, hr6⟩, hb6⟩
        obtain ⟨g6, c6, rfl, hc6, hm6⟩ := hr6.some_at (by simp)
        have R6 := row_cells hr6 0 0 (by simp) rfl
        have y0 : w6.cell? ⟨g6, 0, none⟩ = some (.int .i64 7) := R6.1
        have y1 : w6.cell? ⟨g6, 1, none⟩ = some (.int .i64 0) := R6.2.1
        have y2 : w6.cell? ⟨g6, 2, none⟩ = some (.int .i64 5) := by have := R6.2.2.1; rwa [show (([⟨7, 0, t.dk, n, t.text⟩] : List Tk)[0]).dk = 5 from hd] at this
        have y3 : w6.cell? ⟨g6, 3, none⟩ = some (.int .i64 n) := R6.2.2.2.1
        have y4 : w6.cell? ⟨g6, 4, none⟩ = some (.string S) := by rw [HS.out.1]; exact R6.2.2.2.2.1
        have y5 : w6.cell? ⟨g6, 5, none⟩ = some (.slice none 0 0) := R6.2.2.2.2.2.1
        have y6 : w6.cell? ⟨g6, 6, none⟩ = some (.int .i64 0) := R6.2.2.2.2.2.2
        have hx6 := (hb6.block _ (lt_block H5.out.1)).trans H5.out.1
        have z0 := blk_cell hx6 0
        have z1 := blk_cell hx6 1
        have z2 := blk_cell hx6 2
        simp only [List.getElem?_toArray, List.getElem?_cons_succ, List.getElem?_cons_zero] at z0 z1 z2
        simp only [List.length_cons, List.length_nil, Nat.zero_add] at hc6 ⊢
        have H6 := Lib.hid (H5.out.2.1.trans (hb6.mono H5.out.2.1.size))
        have hSS : w6.cell? ⟨g6, 0, none⟩ = some (.int .i64 7) ∧ w6.cell? ⟨g6, 1, none⟩ = some (.int .i64 0) ∧ w6.cell? ⟨g6, 2, none⟩ = some (.int .i64 5) ∧ w6.cell? ⟨g6, 3, none⟩ = some (.int .i64 n) ∧ w6.cell? ⟨g6, 4, none⟩ = some (.string S) ∧ w6.cell? ⟨g6, 5, none⟩ = some (.slice none 0 0) ∧ w6.cell? ⟨g6, 6, none⟩ = some (.int .i64 0) ∧ w6.cell? ⟨N, 0, none⟩ = some (.int .i64 5) ∧ w6.cell? ⟨N, 1, none⟩ = some (.int .i64 n) ∧ w6.cell? ⟨N, 2, none⟩ = some (.string S) := ⟨y0, y1, y2, y3, y4, y5, y6, z0, z1, z2⟩
        have HX := Lib.hid (fun W => dat_true 0 5 n S W)
        clear R6 hr6 hb6 hx6 hc6
        go_upto_region 25 with fail
        go_region_held3 (fun w' => w'.cell? ⟨g6, 0, none⟩ = some (.int .i64 7) ∧ w'.cell? ⟨g6, 1, none⟩ = some (.int .i64 0) ∧ w'.cell? ⟨g6, 2, none⟩ = some (.int .i64 5) ∧ w'.cell? ⟨g6, 3, none⟩ = some (.int .i64 n) ∧ w'.cell? ⟨g6, 4, none⟩ = some (.string S) ∧ w'.cell? ⟨g6, 5, none⟩ = some (.slice none 0 0) ∧ w'.cell? ⟨g6, 6, none⟩ = some (.int .i64 0) ∧ w'.cell? ⟨N, 0, none⟩ = some (.int .i64 5) ∧ w'.cell? ⟨N, 1, none⟩ = some (.int .i64 n) ∧ w'.cell? ⟨N, 2, none⟩ = some (.string S)) (go_keep) ((go_at_call 14; refine (HX.out _).mono ?_; rintro e w7 ⟨rfl, hb7⟩; have q0 := keepC hb7 y0; have q1 := keepC hb7 y1; have q2 := keepC hb7 y2; have q3 := keepC hb7 y3; have q4 := keepC hb7 y4; have q5 := keepC hb7 y5; have q6 := keepC hb7 y6; have q7 := keepC hb7 z0; have q8 := keepC hb7 z1; have q9 := keepC hb7 z2))
        have H7 := Lib.hid (show Below w3.heap.size w3 w7 from (H6.out.drew).trans (hb7.mono (show w3.heap.size ≤ w6.heap.size from H6.out.size)))
        clear hSS y0 y1 y2 y3 y4 y5 y6 z0 z1 z2 q0 q1 q2 q3 q4 q5 q6 q7 q8 q9 hb7
        go_wp2_with fail
        go_roundw
        case rel => exact ⟨i + 1, rfl, by omega, H7⟩
        case measure => (simp only [intOf]; omega)
      · have hn01 : n = 0 ∨ n = 1 := by
          have hnn := HS.out.2.2
          rcases HS.out.2.1 with ⟨h1, h2⟩ | ⟨h1, h2⟩
          · omega
          · rcases h2 with ⟨h2, h3, h4⟩ | ⟨h2, h3, s, h4⟩ | ⟨h2, h3⟩ | ⟨h2, h3, cs, h4, h5⟩ | ⟨h2, h3, h4, h5, h6, h7⟩ <;> omega
        rw [hd] at k2
        have hla := ha2 hd
        rcases hn01 with h01 | h01
        · rw [if_neg (by omega)] at hla
          have g01 : ((n : Int) == 1) = false := by rw [beq_eq_false_iff_ne]; omega
          have g02 : ¬ n = 1 := by omega
          have hlx := hla
          have T4 := fun W (h : Below w.heap.size w W) => tokens_at (w := W) (l := [35, 102]) (lit_byts (by decide)) (by decide) (HT.out.1.below h)
          rw [show strOfNums [35, 102] = ({ data := #[35, 102] } : ByteArray) from rfl] at T4
          unfold TokIs at T4
          rw [hlx] at T4
          have HA := Lib.hid T4
          clear hlx hla h01 T4 ha1 ha2 ha3 hok
          go_upto_region 8 with fail
          obtain ⟨W5, hW5⟩ : ∃ W, W = wr.alloc (.cells #[.int .i64 1, .int .i64 n, .string S, .slice none 0 0, .int .i64 D] 35) := ⟨_, rfl⟩
          have b5 : Below wr.heap.size wr W5 := by rw [hW5]; exact (Below.refl _ _).alloc (Nat.le_refl _) _
          have hx5 : W5.heap[wr.heap.size]? = some (.cells #[.int .i64 1, .int .i64 n, .string S, .slice none 0 0, .int .i64 D] 35) := by rw [hW5]; exact heap_new _ _
          obtain ⟨N, hN⟩ : ∃ N, N = wr.heap.size := ⟨_, rfl⟩
          rw [← hW5, ← hN]
          rw [← hN] at hx5
          have v0 := blk_cell hx5 0
          have v1 := blk_cell hx5 1
          have v2 := blk_cell hx5 2
          simp only [List.getElem?_toArray, List.getElem?_cons_succ, List.getElem?_cons_zero] at v0 v1 v2
          have H5 := Lib.hid (And.intro hx5 (And.intro (HK.out.trans (b5.mono HK.out.size)) (HB0.out.trans (b5.mono HB0.out.size))))
          clear hW5 hN b5 hx5 k2 k3 k4 k5 k6
          go_wp2_with fail
          clear v0 v1 v2 g01 g02
          refine (HA.out _ H5.out.2.2).mono ?_
          rintro e w6 ⟨⟨v6, rfl, hr6⟩, hb6⟩
          obtain ⟨g6, c6, rfl, hc6, hm6⟩ := hr6.some_at (by simp)
          have R6 := row_cells hr6 0 0 (by simp) rfl
          have y0 : w6.cell? ⟨g6, 0, none⟩ = some (.int .i64 7) := R6.1
          have y1 : w6.cell? ⟨g6, 1, none⟩ = some (.int .i64 0) := R6.2.1
          have y2 : w6.cell? ⟨g6, 2, none⟩ = some (.int .i64 1) := by have := R6.2.2.1; rwa [show (([⟨7, 0, t.dk, n, t.text⟩] : List Tk)[0]).dk = 1 from hd] at this
          have y3 : w6.cell? ⟨g6, 3, none⟩ = some (.int .i64 n) := R6.2.2.2.1
          have y4 : w6.cell? ⟨g6, 4, none⟩ = some (.string S) := by rw [HS.out.1]; exact R6.2.2.2.2.1
          have y5 : w6.cell? ⟨g6, 5, none⟩ = some (.slice none 0 0) := R6.2.2.2.2.2.1
          have y6 : w6.cell? ⟨g6, 6, none⟩ = some (.int .i64 0) := R6.2.2.2.2.2.2
          have hx6 := (hb6.block _ (lt_block H5.out.1)).trans H5.out.1
          have z0 := blk_cell hx6 0
          have z1 := blk_cell hx6 1
          have z2 := blk_cell hx6 2
          simp only [List.getElem?_toArray, List.getElem?_cons_succ, List.getElem?_cons_zero] at z0 z1 z2
          simp only [List.length_cons, List.length_nil, Nat.zero_add] at hc6 ⊢
          have H6 := Lib.hid (H5.out.2.1.trans (hb6.mono H5.out.2.1.size))
          have hSS : w6.cell? ⟨g6, 0, none⟩ = some (.int .i64 7) ∧ w6.cell? ⟨g6, 1, none⟩ = some (.int .i64 0) ∧ w6.cell? ⟨g6, 2, none⟩ = some (.int .i64 1) ∧ w6.cell? ⟨g6, 3, none⟩ = some (.int .i64 n) ∧ w6.cell? ⟨g6, 4, none⟩ = some (.string S) ∧ w6.cell? ⟨g6, 5, none⟩ = some (.slice none 0 0) ∧ w6.cell? ⟨g6, 6, none⟩ = some (.int .i64 0) ∧ w6.cell? ⟨N, 0, none⟩ = some (.int .i64 1) ∧ w6.cell? ⟨N, 1, none⟩ = some (.int .i64 n) ∧ w6.cell? ⟨N, 2, none⟩ = some (.string S) := ⟨y0, y1, y2, y3, y4, y5, y6, z0, z1, z2⟩
          have HX := Lib.hid (fun W => dat_true 0 1 n S W)
          clear R6 hr6 hb6 hx6 hc6
          go_upto_region 25 with fail
          go_region_held3 (fun w' => w'.cell? ⟨g6, 0, none⟩ = some (.int .i64 7) ∧ w'.cell? ⟨g6, 1, none⟩ = some (.int .i64 0) ∧ w'.cell? ⟨g6, 2, none⟩ = some (.int .i64 1) ∧ w'.cell? ⟨g6, 3, none⟩ = some (.int .i64 n) ∧ w'.cell? ⟨g6, 4, none⟩ = some (.string S) ∧ w'.cell? ⟨g6, 5, none⟩ = some (.slice none 0 0) ∧ w'.cell? ⟨g6, 6, none⟩ = some (.int .i64 0) ∧ w'.cell? ⟨N, 0, none⟩ = some (.int .i64 1) ∧ w'.cell? ⟨N, 1, none⟩ = some (.int .i64 n) ∧ w'.cell? ⟨N, 2, none⟩ = some (.string S)) (go_keep) ((go_at_call 14; refine (HX.out _).mono ?_; rintro e w7 ⟨rfl, hb7⟩; have q0 := keepC hb7 y0; have q1 := keepC hb7 y1; have q2 := keepC hb7 y2; have q3 := keepC hb7 y3; have q4 := keepC hb7 y4; have q5 := keepC hb7 y5; have q6 := keepC hb7 y6; have q7 := keepC hb7 z0; have q8 := keepC hb7 z1; have q9 := keepC hb7 z2))
          have H7 := Lib.hid (show Below w3.heap.size w3 w7 from (H6.out.drew).trans (hb7.mono (show w3.heap.size ≤ w6.heap.size from H6.out.size)))
          clear hSS y0 y1 y2 y3 y4 y5 y6 z0 z1 z2 q0 q1 q2 q3 q4 q5 q6 q7 q8 q9 hb7
          go_wp2_with fail
          go_roundw
          case rel => exact ⟨i + 1, rfl, by omega, H7⟩
          case measure => (simp only [intOf]; omega)
        · rw [if_pos h01] at hla
          have g01 : ((n : Int) == 1) = true := by rw [beq_iff_eq]; exact h01
          have hlx := hla
          have T4 := fun W (h : Below w.heap.size w W) => tokens_at (w := W) (l := [35, 116]) (lit_byts (by decide)) (by decide) (HT.out.1.below h)
          rw [show strOfNums [35, 116] = ({ data := #[35, 116] } : ByteArray) from rfl] at T4
          unfold TokIs at T4
          rw [hlx] at T4
          have HA := Lib.hid T4
          clear hlx hla h01 T4 ha1 ha2 ha3 hok
          go_upto_region 8 with fail
          obtain ⟨W5, hW5⟩ : ∃ W, W = wr.alloc (.cells #[.int .i64 1, .int .i64 n, .string S, .slice none 0 0, .int .i64 D] 35) := ⟨_, rfl⟩
          have b5 : Below wr.heap.size wr W5 := by rw [hW5]; exact (Below.refl _ _).alloc (Nat.le_refl _) _
          have hx5 : W5.heap[wr.heap.size]? = some (.cells #[.int .i64 1, .int .i64 n, .string S, .slice none 0 0, .int .i64 D] 35) := by rw [hW5]; exact heap_new _ _
          obtain ⟨N, hN⟩ : ∃ N, N = wr.heap.size := ⟨_, rfl⟩
          rw [← hW5, ← hN]
          rw [← hN] at hx5
          have v0 := blk_cell hx5 0
          have v1 := blk_cell hx5 1
          have v2 := blk_cell hx5 2
          simp only [List.getElem?_toArray, List.getElem?_cons_succ, List.getElem?_cons_zero] at v0 v1 v2
          have H5 := Lib.hid (And.intro hx5 (And.intro (HK.out.trans (b5.mono HK.out.size)) (HB0.out.trans (b5.mono HB0.out.size))))
          clear hW5 hN b5 hx5 k2 k3 k4 k5 k6
          go_wp2_with fail
          clear v0 v1 v2 g01
          refine (HA.out _ H5.out.2.2).mono ?_
          rintro e w6 ⟨⟨v6, rfl, hr6⟩, hb6⟩
          obtain ⟨g6, c6, rfl, hc6, hm6⟩ := hr6.some_at (by simp)
          have R6 := row_cells hr6 0 0 (by simp) rfl
          have y0 : w6.cell? ⟨g6, 0, none⟩ = some (.int .i64 7) := R6.1
          have y1 : w6.cell? ⟨g6, 1, none⟩ = some (.int .i64 0) := R6.2.1
          have y2 : w6.cell? ⟨g6, 2, none⟩ = some (.int .i64 1) := by have := R6.2.2.1; rwa [show (([⟨7, 0, t.dk, n, t.text⟩] : List Tk)[0]).dk = 1 from hd] at this
          have y3 : w6.cell? ⟨g6, 3, none⟩ = some (.int .i64 n) := R6.2.2.2.1
          have y4 : w6.cell? ⟨g6, 4, none⟩ = some (.string S) := by rw [HS.out.1]; exact R6.2.2.2.2.1
          have y5 : w6.cell? ⟨g6, 5, none⟩ = some (.slice none 0 0) := R6.2.2.2.2.2.1
          have y6 : w6.cell? ⟨g6, 6, none⟩ = some (.int .i64 0) := R6.2.2.2.2.2.2
          have hx6 := (hb6.block _ (lt_block H5.out.1)).trans H5.out.1
          have z0 := blk_cell hx6 0
          have z1 := blk_cell hx6 1
          have z2 := blk_cell hx6 2
          simp only [List.getElem?_toArray, List.getElem?_cons_succ, List.getElem?_cons_zero] at z0 z1 z2
          simp only [List.length_cons, List.length_nil, Nat.zero_add] at hc6 ⊢
          have H6 := Lib.hid (H5.out.2.1.trans (hb6.mono H5.out.2.1.size))
          have hSS : w6.cell? ⟨g6, 0, none⟩ = some (.int .i64 7) ∧ w6.cell? ⟨g6, 1, none⟩ = some (.int .i64 0) ∧ w6.cell? ⟨g6, 2, none⟩ = some (.int .i64 1) ∧ w6.cell? ⟨g6, 3, none⟩ = some (.int .i64 n) ∧ w6.cell? ⟨g6, 4, none⟩ = some (.string S) ∧ w6.cell? ⟨g6, 5, none⟩ = some (.slice none 0 0) ∧ w6.cell? ⟨g6, 6, none⟩ = some (.int .i64 0) ∧ w6.cell? ⟨N, 0, none⟩ = some (.int .i64 1) ∧ w6.cell? ⟨N, 1, none⟩ = some (.int .i64 n) ∧ w6.cell? ⟨N, 2, none⟩ = some (.string S) := ⟨y0, y1, y2, y3, y4, y5, y6, z0, z1, z2⟩
          have HX := Lib.hid (fun W => dat_true 0 1 n S W)
          clear R6 hr6 hb6 hx6 hc6
          go_upto_region 25 with fail
          go_region_held3 (fun w' => w'.cell? ⟨g6, 0, none⟩ = some (.int .i64 7) ∧ w'.cell? ⟨g6, 1, none⟩ = some (.int .i64 0) ∧ w'.cell? ⟨g6, 2, none⟩ = some (.int .i64 1) ∧ w'.cell? ⟨g6, 3, none⟩ = some (.int .i64 n) ∧ w'.cell? ⟨g6, 4, none⟩ = some (.string S) ∧ w'.cell? ⟨g6, 5, none⟩ = some (.slice none 0 0) ∧ w'.cell? ⟨g6, 6, none⟩ = some (.int .i64 0) ∧ w'.cell? ⟨N, 0, none⟩ = some (.int .i64 1) ∧ w'.cell? ⟨N, 1, none⟩ = some (.int .i64 n) ∧ w'.cell? ⟨N, 2, none⟩ = some (.string S)) (go_keep) ((go_at_call 14; refine (HX.out _).mono ?_; rintro e w7 ⟨rfl, hb7⟩; have q0 := keepC hb7 y0; have q1 := keepC hb7 y1; have q2 := keepC hb7 y2; have q3 := keepC hb7 y3; have q4 := keepC hb7 y4; have q5 := keepC hb7 y5; have q6 := keepC hb7 y6; have q7 := keepC hb7 z0; have q8 := keepC hb7 z1; have q9 := keepC hb7 z2))
          have H7 := Lib.hid (show Below w3.heap.size w3 w7 from (H6.out.drew).trans (hb7.mono (show w3.heap.size ≤ w6.heap.size from H6.out.size)))
          clear hSS y0 y1 y2 y3 y4 y5 y6 z0 z1 z2 q0 q1 q2 q3 q4 q5 q6 q7 q8 q9 hb7
          go_wp2_with fail
          go_roundw
          case rel => exact ⟨i + 1, rfl, by omega, H7⟩
          case measure => (simp only [intOf]; omega)
      · have hlB : Byts t.text := ok_byts HS.out.2.1 (Or.inr (Or.inl hd))
        have hSb : byL S = t.text := by rw [HS.out.1]; exact byL_str hlB
        rw [hd] at k2
        have hla := ha3 hd
        have HB4 := Lib.hid (And.intro hlB (And.intro hSb hla))
        clear hlB hSb hla ha1 ha2 ha3 hok
        go_upto_region 8 with fail
        obtain ⟨W5, hW5⟩ : ∃ W, W = wr.alloc (.cells #[.int .i64 4, .int .i64 n, .string S, .slice none 0 0, .int .i64 D] 35) := ⟨_, rfl⟩
        have b5 : Below wr.heap.size wr W5 := by rw [hW5]; exact (Below.refl _ _).alloc (Nat.le_refl _) _
        have hx5 : W5.heap[wr.heap.size]? = some (.cells #[.int .i64 4, .int .i64 n, .string S, .slice none 0 0, .int .i64 D] 35) := by rw [hW5]; exact heap_new _ _
        obtain ⟨N, hN⟩ : ∃ N, N = wr.heap.size := ⟨_, rfl⟩
        rw [← hW5, ← hN]
        rw [← hN] at hx5
        have v0 := blk_cell hx5 0
        have v1 := blk_cell hx5 1
        have v2 := blk_cell hx5 2
        simp only [List.getElem?_toArray, List.getElem?_cons_succ, List.getElem?_cons_zero] at v0 v1 v2
        have H5 := Lib.hid (And.intro hx5 (And.intro (HK.out.trans (b5.mono HK.out.size)) (HB0.out.trans (b5.mono HB0.out.size))))
        clear hW5 hN b5 hx5 k2 k3 k4 k5 k6
        go_wp2_with fail
        go_loop [8, 9] (fun u v => ∃ k : Nat, v = .int .i64 k ∧ k ≤ S.size ∧ u = .bool ((t.text.take k).all pl)) (fun _ v => S.size - (intOf v).toNat)
        case atStart => exact ⟨0, rfl, Nat.zero_le _, rfl⟩
        case round =>
          obtain ⟨k, rfl, hk, rfl⟩ := hrel
          by_cases hks : k < S.size
          · have j1 : (k : Int) < (S.size : Int) := by omega
            have j2 : decide ((k : Int) < (S.size : Int)) = true := by rw [decide_eq_true_eq]; exact j1
            have hgk := byL_get S hks
            rw [HB4.out.2.1] at hgk
            have hst := pl_step (l := t.text) (k := k) (by omega)
            rw [hgk] at hst
            have hws2 : IntKind.i64.wrap ((k : Int) + 1) = (k : Int) + 1 := by rw [wrap_small _ (by omega) (by omega)]
            obtain ⟨z, hz⟩ : ∃ z, z = S[k].toNat := ⟨_, rfl⟩
            have hz' : S[k].toNat = z := hz.symm
            rw [← hz] at hst
            obtain ⟨b0, hb0⟩ : ∃ b0, b0 = (t.text.take k).all pl := ⟨_, rfl⟩
            rw [← hb0] at hst ⊢
            have HST := Lib.hid hst
            clear hz hgk hst hb0
            have step : ∀ b1 : Bool, b1 = (b0 && pl (z : Int)) → (∃ k2 : Nat, (Value.int .i64 ((k : Int) + 1)) = .int .i64 k2 ∧ k2 ≤ S.size ∧ (Value.bool b1) = .bool ((t.text.take k2).all pl)) := fun b1 e => ⟨k + 1, rfl, by omega, by rw [HST.out, e]⟩
            have HSTEP := Lib.hid step
            clear step
            cases b0 with
            | false =>
              go_wp2_with fail
              go_round
              case rel => exact HSTEP.out _ (by simp)
              case measure => (simp only [intOf]; omega)
            | true =>
              by_cases z34 : z = 34
              · subst z34
                go_wp2_with fail
                go_round
                case rel => exact HSTEP.out _ (by decide)
                case measure => (simp only [intOf]; omega)
              · have e34 : ((z : Int) == 34) = false := by rw [beq_eq_false_iff_ne]; omega
                have e35 : ¬ (z : Int) = 34 := by omega
                by_cases z92 : z = 92
                · subst z92
                  go_wp2_with fail
                  go_round
                  case rel => exact HSTEP.out _ (by decide)
                  case measure => (simp only [intOf]; omega)
                · have e92 : ((z : Int) == 92) = false := by rw [beq_eq_false_iff_ne]; omega
                  have e93 : ¬ (z : Int) = 92 := by omega
                  go_wp2_with fail
                  go_round
                  case rel => exact HSTEP.out _ (by have hp : pl (z : Int) = true := decide_eq_true (⟨e35, e93⟩ : (z : Int) ≠ 34 ∧ (z : Int) ≠ 92); rw [hp]; simp [bne, e34, e92])
                  case measure => (simp only [intOf]; omega)
          · have j1 : ¬ (k : Int) < (S.size : Int) := by omega
            have j2 : decide ((k : Int) < (S.size : Int)) = false := by rw [decide_eq_false_iff_not]; exact j1
            rw [List.take_of_length_le (by omega)]
            cases hall : t.text.all pl with
            | false =>
              clear hall
              go_wp2_with fail
              go_roundw
              case rel => exact ⟨i + 1, rfl, by omega, Lib.hid H5.out.2.1⟩
              case measure => (simp only [intOf]; omega)
            | true =>
              have hpl : ∀ x ∈ t.text, x ≠ 34 ∧ x ≠ 92 := fun x hx => by have := List.all_eq_true.1 hall x hx; unfold pl at this; simpa using this
              have hlx := HB4.out.2.2 hpl
              have T4 := fun W (h : Below w.heap.size w W) => tokens_at (w := W) (l := 34 :: (t.text ++ [34])) ((show Byts [34] from lit_byts (by decide)).app (HB4.out.1.app (lit_byts (by decide)))) (by simp; omega) (HT.out.1.below h)
              rw [show strOfNums (34 :: (t.text ++ [34])) = ({ data := #[34] } : ByteArray) ++ S ++ ({ data := #[34] } : ByteArray) by rw [HS.out.1]; rw [show ({ data := #[34] } : ByteArray) = strOfNums [34] from rfl, str_app, str_app]; simp] at T4
              unfold TokIs at T4
              rw [hlx] at T4
              have HA := Lib.hid T4
              clear hlx T4 hall hpl
              have s1 : ¬ 9223372036854775807 < 1 + S.size := by omega
              have s2 : ¬ 9223372036854775807 < 1 + S.size + 1 := by omega
              go_wp2_with fail
              clear v0 v1 v2
              refine (HA.out _ H5.out.2.2).mono ?_
              rintro e w6 ⟨⟨v6, rfl, hr6⟩, hb6⟩
              obtain ⟨g6, c6, rfl, hc6, hm6⟩ := hr6.some_at (by simp)
              have R6 := row_cells hr6 0 0 (by simp) rfl
              have y0 : w6.cell? ⟨g6, 0, none⟩ = some (.int .i64 7) := R6.1
              have y1 : w6.cell? ⟨g6, 1, none⟩ = some (.int .i64 0) := R6.2.1
              have y2 : w6.cell? ⟨g6, 2, none⟩ = some (.int .i64 4) := by have := R6.2.2.1; rwa [show (([⟨7, 0, t.dk, n, t.text⟩] : List Tk)[0]).dk = 4 from hd] at this
              have y3 : w6.cell? ⟨g6, 3, none⟩ = some (.int .i64 n) := R6.2.2.2.1
              have y4 : w6.cell? ⟨g6, 4, none⟩ = some (.string S) := by rw [HS.out.1]; exact R6.2.2.2.2.1
              have y5 : w6.cell? ⟨g6, 5, none⟩ = some (.slice none 0 0) := R6.2.2.2.2.2.1
              have y6 : w6.cell? ⟨g6, 6, none⟩ = some (.int .i64 0) := R6.2.2.2.2.2.2
              have hx6 := (hb6.block _ (lt_block H5.out.1)).trans H5.out.1
              have z0 := blk_cell hx6 0
              have z1 := blk_cell hx6 1
              have z2 := blk_cell hx6 2
              simp only [List.getElem?_toArray, List.getElem?_cons_succ, List.getElem?_cons_zero] at z0 z1 z2
              simp only [List.length_cons, List.length_nil, Nat.zero_add] at hc6 ⊢
              have H6 := Lib.hid (H5.out.2.1.trans (hb6.mono H5.out.2.1.size))
              have hSS : w6.cell? ⟨g6, 0, none⟩ = some (.int .i64 7) ∧ w6.cell? ⟨g6, 1, none⟩ = some (.int .i64 0) ∧ w6.cell? ⟨g6, 2, none⟩ = some (.int .i64 4) ∧ w6.cell? ⟨g6, 3, none⟩ = some (.int .i64 n) ∧ w6.cell? ⟨g6, 4, none⟩ = some (.string S) ∧ w6.cell? ⟨g6, 5, none⟩ = some (.slice none 0 0) ∧ w6.cell? ⟨g6, 6, none⟩ = some (.int .i64 0) ∧ w6.cell? ⟨N, 0, none⟩ = some (.int .i64 4) ∧ w6.cell? ⟨N, 1, none⟩ = some (.int .i64 n) ∧ w6.cell? ⟨N, 2, none⟩ = some (.string S) := ⟨y0, y1, y2, y3, y4, y5, y6, z0, z1, z2⟩
              have HX := Lib.hid (fun W => dat_true 0 4 n S W)
              clear R6 hr6 hb6 hx6 hc6
              go_upto_region 25 with fail
              go_region_held3 (fun w' => w'.cell? ⟨g6, 0, none⟩ = some (.int .i64 7) ∧ w'.cell? ⟨g6, 1, none⟩ = some (.int .i64 0) ∧ w'.cell? ⟨g6, 2, none⟩ = some (.int .i64 4) ∧ w'.cell? ⟨g6, 3, none⟩ = some (.int .i64 n) ∧ w'.cell? ⟨g6, 4, none⟩ = some (.string S) ∧ w'.cell? ⟨g6, 5, none⟩ = some (.slice none 0 0) ∧ w'.cell? ⟨g6, 6, none⟩ = some (.int .i64 0) ∧ w'.cell? ⟨N, 0, none⟩ = some (.int .i64 4) ∧ w'.cell? ⟨N, 1, none⟩ = some (.int .i64 n) ∧ w'.cell? ⟨N, 2, none⟩ = some (.string S)) (go_keep) ((go_at_call 14; refine (HX.out _).mono ?_; rintro e w7 ⟨rfl, hb7⟩; have q0 := keepC hb7 y0; have q1 := keepC hb7 y1; have q2 := keepC hb7 y2; have q3 := keepC hb7 y3; have q4 := keepC hb7 y4; have q5 := keepC hb7 y5; have q6 := keepC hb7 y6; have q7 := keepC hb7 z0; have q8 := keepC hb7 z1; have q9 := keepC hb7 z2))
              have H7 := Lib.hid (show Below w3.heap.size w3 w7 from (H6.out.drew).trans (hb7.mono (show w3.heap.size ≤ w6.heap.size from H6.out.size)))
              clear hSS y0 y1 y2 y3 y4 y5 y6 z0 z1 z2 q0 q1 q2 q3 q4 q5 q6 q7 q8 q9 hb7
              go_wp2_with fail
              go_roundw
              case rel => exact ⟨i + 1, rfl, by omega, H7⟩
              case measure => (simp only [intOf]; omega)
      · have hdd : t.dk = 0 ∨ t.dk = 3 := hd
        rcases hdd with hd | hd
        · rw [hd] at k2
          go_upto_region 8 with fail
          obtain ⟨W5, hW5⟩ : ∃ W, W = wr.alloc (.cells #[.int .i64 0, .int .i64 n, .string S, .slice none 0 0, .int .i64 D] 35) := ⟨_, rfl⟩
          have b5 : Below wr.heap.size wr W5 := by rw [hW5]; exact (Below.refl _ _).alloc (Nat.le_refl _) _
          have hx5 : W5.heap[wr.heap.size]? = some (.cells #[.int .i64 0, .int .i64 n, .string S, .slice none 0 0, .int .i64 D] 35) := by rw [hW5]; exact heap_new _ _
          obtain ⟨N, hN⟩ : ∃ N, N = wr.heap.size := ⟨_, rfl⟩
          rw [← hW5, ← hN]
          rw [← hN] at hx5
          have v0 := blk_cell hx5 0
          have v1 := blk_cell hx5 1
          have v2 := blk_cell hx5 2
          simp only [List.getElem?_toArray, List.getElem?_cons_succ, List.getElem?_cons_zero] at v0 v1 v2
          have H5 := Lib.hid (And.intro hx5 (And.intro (HK.out.trans (b5.mono HK.out.size)) (HB0.out.trans (b5.mono HB0.out.size))))
          clear hW5 hN b5 hx5 k2 k3 k4 k5 k6
          go_wp2_with fail
          go_roundw
          case rel => exact ⟨i + 1, rfl, by omega, Lib.hid H5.out.2.1⟩
          case measure => (simp only [intOf]; omega)
        · rw [hd] at k2
          go_upto_region 8 with fail
          obtain ⟨W5, hW5⟩ : ∃ W, W = wr.alloc (.cells #[.int .i64 3, .int .i64 n, .string S, .slice none 0 0, .int .i64 D] 35) := ⟨_, rfl⟩
          have b5 : Below wr.heap.size wr W5 := by rw [hW5]; exact (Below.refl _ _).alloc (Nat.le_refl _) _
          have hx5 : W5.heap[wr.heap.size]? = some (.cells #[.int .i64 3, .int .i64 n, .string S, .slice none 0 0, .int .i64 D] 35) := by rw [hW5]; exact heap_new _ _
          obtain ⟨N, hN⟩ : ∃ N, N = wr.heap.size := ⟨_, rfl⟩
          rw [← hW5, ← hN]
          rw [← hN] at hx5
          have v0 := blk_cell hx5 0
          have v1 := blk_cell hx5 1
          have v2 := blk_cell hx5 2
          simp only [List.getElem?_toArray, List.getElem?_cons_succ, List.getElem?_cons_zero] at v0 v1 v2
          have H5 := Lib.hid (And.intro hx5 (And.intro (HK.out.trans (b5.mono HK.out.size)) (HB0.out.trans (b5.mono HB0.out.size))))
          clear hW5 hN b5 hx5 k2 k3 k4 k5 k6
          go_wp2_with fail
          go_roundw
          case rel => exact ⟨i + 1, rfl, by omega, Lib.hid H5.out.2.1⟩
          case measure => (simp only [intOf]; omega)
    · have T9 := Lib.hid (awake_at (HT.out.1.below (HR.out.2.trans (HK.out.mono HR.out.2.size))))
      have HB := Lib.hid (HR.out.2.trans (HK.out.mono HR.out.2.size))
      by_cases hl2 : i < ts.length
      · have f1 : (i : Int) < (ts.length : Int) := by omega
        have e1 : decide ((i : Int) < (ts.length : Int)) = true := by rw [decide_eq_true_eq]; exact f1
        have f2 : ¬ (i : Int) < 200 := by have h3 : ¬ i < 200 := fun h => hlt ⟨hl2, h⟩; omega
        have e2 : decide ((i : Int) < 200) = false := by rw [decide_eq_false_iff_not]; exact f2
        go_wp2_with fail
        refine T9.out.mono ?_
        rintro e w9 ⟨rfl, hb9⟩
        have H9 := Lib.hid (HB.out.trans (hb9.mono HB.out.size))
        clear hb9
        go_wp2_with fail
        go_ret
        exact ⟨rfl, H9.out⟩
      · have f1 : ¬ (i : Int) < (ts.length : Int) := by omega
        have e1 : decide ((i : Int) < (ts.length : Int)) = false := by rw [decide_eq_false_iff_not]; exact f1
        go_wp2_with fail
        refine T9.out.mono ?_
        rintro e w9 ⟨rfl, hb9⟩
        have H9 := Lib.hid (HB.out.trans (hb9.mono HB.out.size))
        clear hb9
        go_wp2_with fail
        go_ret
        exact ⟨rfl, H9.out⟩
end Go.Proofs.YtgnnkfdpfmlajaaDoor
