/- Contracts: the document's tokens of a run, a datum, their sameness. Conditions: none. -/
import Derived.Test.YtgnnkfdpfmlajaaDoorLxBt
import Derived.Test.YtgnnkfdpfmlajaaDoorLxZb
import Derived.BigRegion
import Derived.Deep.RegionHeld3
import Derived.Laws.Rows
namespace Go.Proofs.YtgnnkfdpfmlajaaDoor
open Go.RowKit Bg Lx
set_option linter.unusedVariables false
set_option linter.unusedSimpArgs false

/-- A token's block. -/
def tkO (t : Tk) : Obj := .cells #[.int .i64 t.kind, .int .i64 t.pos, .int .i64 t.dk, .int .i64 t.n, .string (strOfNums t.text), .slice none 0 0, .int .i64 (dpos t)] 37
theorem seven {w : World} {N : Nat} {a0 a1 a2 a3 a4 a5 a6 : Value} (h : w.heap[N]? = some (.cells #[a0, a1, a2, a3, a4, a5, a6] 37)) : (w.cell? ⟨N, 0, none⟩ = some a0 ∧ w.cell? ⟨N, 1, none⟩ = some a1 ∧ w.cell? ⟨N, 2, none⟩ = some a2 ∧ w.cell? ⟨N, 3, none⟩ = some a3 ∧ w.cell? ⟨N, 4, none⟩ = some a4 ∧ w.cell? ⟨N, 5, none⟩ = some a5 ∧ w.cell? ⟨N, 6, none⟩ = some a6) ∧ (w.frozen? ⟨N, 0, none⟩ = false ∧ w.frozen? ⟨N, 1, none⟩ = false ∧ w.frozen? ⟨N, 2, none⟩ = false ∧ w.frozen? ⟨N, 3, none⟩ = false ∧ w.frozen? ⟨N, 4, none⟩ = false ∧ w.frozen? ⟨N, 5, none⟩ = false ∧ w.frozen? ⟨N, 6, none⟩ = false) :=
  ⟨⟨blk_cell h 0, blk_cell h 1, blk_cell h 2, blk_cell h 3, blk_cell h 4, blk_cell h 5, blk_cell h 6⟩, blk_free h 0, blk_free h 1, blk_free h 2, blk_free h 3, blk_free h 4, blk_free h 5, blk_free h 6⟩
/-- Seven stores into a token's block. -/
def set7 (w : World) (N : Nat) (a0 a1 a2 a3 a4 a5 a6 : Value) : World := ((((((w.setCell ⟨N, 0, none⟩ a0).setCell ⟨N, 1, none⟩ a1).setCell ⟨N, 2, none⟩ a2).setCell ⟨N, 3, none⟩ a3).setCell ⟨N, 4, none⟩ a4).setCell ⟨N, 5, none⟩ a5).setCell ⟨N, 6, none⟩ a6
theorem set7_heap {w : World} {N : Nat} {z0 z1 z2 z3 z4 z5 z6 : Value} (h : w.heap[N]? = some (.cells #[z0, z1, z2, z3, z4, z5, z6] 37)) (a0 a1 a2 a3 a4 a5 a6 : Value) : (set7 w N a0 a1 a2 a3 a4 a5 a6).heap[N]? = some (.cells #[a0, a1, a2, a3, a4, a5, a6] 37) := by
  have h1 : (w.setCell ⟨N, 0, none⟩ a0).heap[N]? = some (.cells #[a0, z1, z2, z3, z4, z5, z6] 37) := by simpa using blk_set (x := a0) h (show 0 < 7 by decide)
  have h2 : ((w.setCell ⟨N, 0, none⟩ a0).setCell ⟨N, 1, none⟩ a1).heap[N]? = some (.cells #[a0, a1, z2, z3, z4, z5, z6] 37) := by simpa using blk_set (x := a1) h1 (show 1 < 7 by decide)
  have h3 := (show ∀ W : World, W.heap[N]? = some (.cells #[a0, a1, z2, z3, z4, z5, z6] 37) → (W.setCell ⟨N, 2, none⟩ a2).heap[N]? = some (.cells #[a0, a1, a2, z3, z4, z5, z6] 37) from fun W hW => by simpa using blk_set (x := a2) hW (show 2 < 7 by decide)) _ h2
  have h4 := (show ∀ W : World, W.heap[N]? = some (.cells #[a0, a1, a2, z3, z4, z5, z6] 37) → (W.setCell ⟨N, 3, none⟩ a3).heap[N]? = some (.cells #[a0, a1, a2, a3, z4, z5, z6] 37) from fun W hW => by simpa using blk_set (x := a3) hW (show 3 < 7 by decide)) _ h3
  have h5 := (show ∀ W : World, W.heap[N]? = some (.cells #[a0, a1, a2, a3, z4, z5, z6] 37) → (W.setCell ⟨N, 4, none⟩ a4).heap[N]? = some (.cells #[a0, a1, a2, a3, a4, z5, z6] 37) from fun W hW => by simpa using blk_set (x := a4) hW (show 4 < 7 by decide)) _ h4
  have h6 := (show ∀ W : World, W.heap[N]? = some (.cells #[a0, a1, a2, a3, a4, z5, z6] 37) → (W.setCell ⟨N, 5, none⟩ a5).heap[N]? = some (.cells #[a0, a1, a2, a3, a4, a5, z6] 37) from fun W hW => by simpa using blk_set (x := a5) hW (show 5 < 7 by decide)) _ h5
  exact (show ∀ W : World, W.heap[N]? = some (.cells #[a0, a1, a2, a3, a4, a5, z6] 37) → (W.setCell ⟨N, 6, none⟩ a6).heap[N]? = some (.cells #[a0, a1, a2, a3, a4, a5, a6] 37) from fun W hW => by simpa using blk_set (x := a6) hW (show 6 < 7 by decide)) _ h6
theorem set7_below {B : Nat} {w0 w : World} {N : Nat} (h : Below B w0 w) (hN : B ≤ N) (a0 a1 a2 a3 a4 a5 a6 : Value) : Below B w0 (set7 w N a0 a1 a2 a3 a4 a5 a6) := ((((((h.setCell hN _).setCell hN _).setCell hN _).setCell hN _).setCell hN _).setCell hN _).setCell hN _
theorem tkV_datum (k n p : Int) (t : List Int) : tkV (datum k n t p) = .agg #[.int .i64 7, .int .i64 p, .int .i64 k, .int .i64 n, .string (strOfNums t), .slice none 0 0, .int .i64 p] := rfl
set_option maxRecDepth 100000 in
set_option maxHeartbeats 8000000 in
theorem rdat_at (k n p : Int) (s : ByteArray) (w : World) : Calls Tryd.prog 23 #[.int .i64 k, .int .i64 n, .string s, .int .i64 p] w fun e w' => e = .returned (.agg #[.int .i64 7, .int .i64 p, .int .i64 k, .int .i64 n, .string s, .slice none 0 0, .int .i64 p]) ∧ Below w.heap.size w w' := by
  have z := (seven (heap_new w (.cells #[.int .i64 7, .int .i64 p, .int .i64 k, .int .i64 n, .string s, .slice none 0 0, .int .i64 p] 37))).1
  have HZ := Lib.hid z
  clear z
  go_enter Tryd.func23, Tryd.ntmps23
  go_wp2_with fail
  have z := HZ.out
  refine bodyPost_ret (v := (.agg #[.int .i64 7, .int .i64 p, .int .i64 k, .int .i64 n, .string s, .slice none 0 0, .int .i64 p])) (by simp [results, Tryd.results23, go_sem, z.1, z.2.1, z.2.2.1, z.2.2.2.1, z.2.2.2.2.1, z.2.2.2.2.2.1, z.2.2.2.2.2.2]) rfl ?_
  exact ⟨rfl, (Below.refl _ _).alloc (Nat.le_refl _) _⟩
set_option maxRecDepth 100000 in
set_option maxHeartbeats 8000000 in
theorem same_at (k p dk n dp : Int) (s : ByteArray) (w : World) : Calls Tryd.prog 11 #[.agg #[.int .i64 k, .int .i64 p, .int .i64 dk, .int .i64 n, .string s, .slice none 0 0, .int .i64 dp], .agg #[.int .i64 k, .int .i64 p, .int .i64 dk, .int .i64 n, .string s, .slice none 0 0, .int .i64 dp]] w fun e w' => e = .returned (.bool true) ∧ Below w.heap.size w w' := by
  have hss : (s.toList == s.toList) = true := by simp
  obtain ⟨O1, hO1⟩ : ∃ O1 : Obj, O1 = .cells #[.int .i64 k, .int .i64 p, .int .i64 dk, .int .i64 n, .string s, .slice none 0 0, .int .i64 dp] 37 := ⟨_, rfl⟩
  obtain ⟨W2, hW2⟩ : ∃ W, W = (w.alloc O1).alloc O1 := ⟨_, rfl⟩
  have HB2 := Lib.hid (show Below w.heap.size w W2 by rw [hW2]; exact ((Below.refl _ _).alloc (Nat.le_refl _) _).alloc (by simp) _)
  have x0 : W2.heap[w.heap.size]? = some O1 := by rw [hW2]; exact heap_alloc2_old _ _ _
  have x1 : W2.heap[w.heap.size + 1]? = some O1 := by rw [hW2]; exact heap_alloc2_new _ _ _
  rw [hO1] at x0 x1 hW2
  have z0 := (seven x0).1
  have z1 := (seven x1).1
  obtain ⟨y00, y01, y02, y03, y04, y05, y06⟩ := z0
  obtain ⟨y10, y11, y12, y13, y14, y15, y16⟩ := z1
  have HW := Lib.hid hW2
  clear x0 x1 hW2 hO1
  go_enter Tryd.func11, Tryd.ntmps11
  go_upto_region 1 with fail
  rw [← HW.out]
  have hSS : W2.cell? ⟨w.heap.size, 2, none⟩ = some (.int .i64 dk) ∧ W2.cell? ⟨w.heap.size, 3, none⟩ = some (.int .i64 n) ∧ W2.cell? ⟨w.heap.size, 4, none⟩ = some (.string s) ∧ W2.cell? ⟨w.heap.size, 5, none⟩ = some (.slice none 0 0) ∧ W2.cell? ⟨w.heap.size, 6, none⟩ = some (.int .i64 dp) ∧ W2.cell? ⟨w.heap.size + 1, 2, none⟩ = some (.int .i64 dk) ∧ W2.cell? ⟨w.heap.size + 1, 3, none⟩ = some (.int .i64 n) ∧ W2.cell? ⟨w.heap.size + 1, 4, none⟩ = some (.string s) ∧ W2.cell? ⟨w.heap.size + 1, 5, none⟩ = some (.slice none 0 0) ∧ W2.cell? ⟨w.heap.size + 1, 6, none⟩ = some (.int .i64 dp) := ⟨y02, y03, y04, y05, y06, y12, y13, y14, y15, y16⟩
  go_region_held3 (fun w' => w'.cell? ⟨w.heap.size, 2, none⟩ = some (.int .i64 dk) ∧ w'.cell? ⟨w.heap.size, 3, none⟩ = some (.int .i64 n) ∧ w'.cell? ⟨w.heap.size, 4, none⟩ = some (.string s) ∧ w'.cell? ⟨w.heap.size, 5, none⟩ = some (.slice none 0 0) ∧ w'.cell? ⟨w.heap.size, 6, none⟩ = some (.int .i64 dp) ∧ w'.cell? ⟨w.heap.size + 1, 2, none⟩ = some (.int .i64 dk) ∧ w'.cell? ⟨w.heap.size + 1, 3, none⟩ = some (.int .i64 n) ∧ w'.cell? ⟨w.heap.size + 1, 4, none⟩ = some (.string s) ∧ w'.cell? ⟨w.heap.size + 1, 5, none⟩ = some (.slice none 0 0) ∧ w'.cell? ⟨w.heap.size + 1, 6, none⟩ = some (.int .i64 dp)) (go_keep) (fail)
  all_goals
    obtain ⟨W3, hW3⟩ : ∃ W, W = (W2.alloc (.cells #[.int .i64 dk, .int .i64 n, .string s, .slice none 0 0, .int .i64 dp] 35)).alloc (.cells #[.int .i64 dk, .int .i64 n, .string s, .slice none 0 0, .int .i64 dp] 35) := ⟨_, rfl⟩
    rw [← hW3]
    have b3 : Below W2.heap.size W2 W3 := by rw [hW3]; exact ((Below.refl _ _).alloc (Nat.le_refl _) _).alloc (by simp) _
    have x2 : W3.heap[W2.heap.size]? = some (.cells #[.int .i64 dk, .int .i64 n, .string s, .slice none 0 0, .int .i64 dp] 35) := by rw [hW3]; exact heap_alloc2_old _ _ _
    have x3 : W3.heap[W2.heap.size + 1]? = some (.cells #[.int .i64 dk, .int .i64 n, .string s, .slice none 0 0, .int .i64 dp] 35) := by rw [hW3]; exact heap_alloc2_new _ _ _
    have c20 : W3.cell? ⟨W2.heap.size, 0, none⟩ = some (.int .i64 dk) := blk_cell x2 0
    have c21 : W3.cell? ⟨W2.heap.size, 1, none⟩ = some (.int .i64 n) := blk_cell x2 1
    have c22 : W3.cell? ⟨W2.heap.size, 2, none⟩ = some (.string s) := blk_cell x2 2
    have c23 : W3.cell? ⟨W2.heap.size, 3, none⟩ = some (.slice none 0 0) := blk_cell x2 3
    have c24 : W3.cell? ⟨W2.heap.size, 4, none⟩ = some (.int .i64 dp) := blk_cell x2 4
    have c30 : W3.cell? ⟨W2.heap.size + 1, 0, none⟩ = some (.int .i64 dk) := blk_cell x3 0
    have c31 : W3.cell? ⟨W2.heap.size + 1, 1, none⟩ = some (.int .i64 n) := blk_cell x3 1
    have c32 : W3.cell? ⟨W2.heap.size + 1, 2, none⟩ = some (.string s) := blk_cell x3 2
    have c33 : W3.cell? ⟨W2.heap.size + 1, 3, none⟩ = some (.slice none 0 0) := blk_cell x3 3
    have c34 : W3.cell? ⟨W2.heap.size + 1, 4, none⟩ = some (.int .i64 dp) := blk_cell x3 4
    replace y00 := (b3.cell (World.block_lt_of_cell? W2 _ y00)).trans y00
    replace y01 := (b3.cell (World.block_lt_of_cell? W2 _ y01)).trans y01
    replace y10 := (b3.cell (World.block_lt_of_cell? W2 _ y10)).trans y10
    replace y11 := (b3.cell (World.block_lt_of_cell? W2 _ y11)).trans y11
    have HB3 := Lib.hid (HB2.out.trans (b3.mono HB2.out.size)).drew
    clear hW3 x2 x3 b3 hSS y02 y03 y04 y05 y06 y12 y13 y14 y15 y16 HW
    go_wp2_with fail
    go_ret
    exact ⟨retB (by simp), HB3.out⟩
set_option maxRecDepth 100000 in
set_option maxHeartbeats 8000000 in
theorem rrun_at (s : ByteArray) (hs : s.size ≤ 1000000) (h0 : 0 < s.size) (p : Int) (w : World) : Calls Tryd.prog 27 #[.string s, .int .i64 p] w fun e w' => e = .returned (tkV (runTk (byL s) p)) ∧ Below w.heap.size w w' := by
  have TI := Lib.hid (fun W => integer_at s hs h0 W)
  have TD := Lib.hid (fun k n t W => rdat_at k n p t W)
  have t1 : (s.toList == ([46] : List UInt8)) = decide (byL s = [46]) := by
    have := beq_bytes (byL_byts s) (b := [46]) (lit_byts (by decide))
    rw [str_byL] at this
    rw [← this, show (strOfNums [46]).toList = ([46] : List UInt8) by rw [ByteArray.toList_eq]; rfl]
  have hx := heap_new w (.cells #[.int .i64 0, .int .i64 0, .int .i64 0, .int .i64 0, .string { data := #[] }, .slice none 0 0, .int .i64 0] 37)
  have HX := Lib.hid hx
  clear hx
  by_cases hd : byL s = [46]
  · rw [decide_eq_true hd] at t1
    have e : runTk (byL s) p = plainTk 6 p := by unfold runTk; rw [if_pos hd]
    rw [e]
    clear hd e
    have z := (seven (heap_new w (.cells #[.int .i64 6, .int .i64 p, .int .i64 0, .int .i64 0, .string { data := #[] }, .slice none 0 0, .int .i64 0] 37))).1
    go_enter Tryd.func27, Tryd.ntmps27
    go_wp2_with fail
    refine bodyPost_ret (v := (.agg #[.int .i64 6, .int .i64 p, .int .i64 0, .int .i64 0, .string { data := #[] }, .slice none 0 0, .int .i64 0])) (by simp [results, Tryd.results27, go_sem, z.1, z.2.1, z.2.2.1, z.2.2.2.1, z.2.2.2.2.1, z.2.2.2.2.2.1, z.2.2.2.2.2.2]) rfl ?_
    exact ⟨rfl, (Below.refl _ _).alloc (Nat.le_refl _) _⟩
  · rw [decide_eq_false hd] at t1
    cases hi : int (byL s) with
    | none =>
      have e : runTk (byL s) p = datum 5 0 (byL s) p := by unfold runTk; rw [if_neg hd, hi]
      rw [e]
      have TI2 := Lib.hid (fun W => by have := TI.out W; unfold InRet at this; rw [hi] at this; exact this)
      clear hd e TI
      have HI := Lib.hid hi
      clear hi
      go_enter Tryd.func27, Tryd.ntmps27
      go_upto_region 6 with (go_at_call 36; refine (TI2.out _).mono ?_; rintro e w' ⟨⟨t, b, rfl, hb⟩, rfl⟩; have hb2 : b = false := hb; subst hb2; clear hb)
      go_wp2_with fail
      refine (TD.out _ _ _ _).mono ?_
      rintro e w' ⟨rfl, hb⟩
      have hx' := (hb.block _ (lt_block HX.out)).trans HX.out
      obtain ⟨⟨c0, c1, c2, c3, c4, c5, c6⟩, d0, d1, d2, d3, d4, d5, d6⟩ := seven hx'
      have H7 := Lib.hid (And.intro hx' hb)
      clear hx' hb
      go_wp2_with fail
      have hz := set7_heap H7.out.1 (.int .i64 7) (.int .i64 p) (.int .i64 5) (.int .i64 0) (.string s) (.slice none 0 0) (.int .i64 p)
      obtain ⟨WZ, hWZ⟩ : ∃ W, W = set7 w' w.heap.size (.int .i64 7) (.int .i64 p) (.int .i64 5) (.int .i64 0) (.string s) (.slice none 0 0) (.int .i64 p) := ⟨_, rfl⟩
      rw [← hWZ] at hz
      have z := (seven hz).1
      have hWZ' := hWZ
      unfold set7 at hWZ'
      rw [← hWZ']
      refine bodyPost_ret (v := (.agg #[.int .i64 7, .int .i64 p, .int .i64 5, .int .i64 0, .string s, .slice none 0 0, .int .i64 p])) (by simp [results, Tryd.results27, go_sem, z.1, z.2.1, z.2.2.1, z.2.2.2.1, z.2.2.2.2.1, z.2.2.2.2.2.1, z.2.2.2.2.2.2]) rfl ?_
      refine ⟨by rw [tkV_datum, str_byL], ?_⟩
      rw [hWZ]
      have b0 : Below w.heap.size w (w.alloc (.cells #[.int .i64 0, .int .i64 0, .int .i64 0, .int .i64 0, .string { data := #[] }, .slice none 0 0, .int .i64 0] 37)) := (Below.refl _ _).alloc (Nat.le_refl _) _
      exact set7_below (b0.trans (H7.out.2.mono b0.size)) (Nat.le_refl _) _ _ _ _ _ _ _
    | some x =>
      have e : runTk (byL s) p = datum 2 0 x p := by unfold runTk; rw [if_neg hd, hi]
      rw [e]
      have TI2 := Lib.hid (fun W => by have := TI.out W; unfold InRet at this; rw [hi] at this; exact this)
      clear hd e TI
      have HI := Lib.hid hi
      clear hi
      go_enter Tryd.func27, Tryd.ntmps27
      go_wp2_with (go_at_call 36; refine (TI2.out _).mono ?_; rintro e w' ⟨⟨t, b, rfl, hb⟩, rfl⟩; obtain ⟨hb2, hb3⟩ : b = true ∧ byL t = x := hb; subst hb2; replace hb3 := Lib.hid hb3)
      refine (TD.out _ _ _ _).mono ?_
      rintro e w' ⟨rfl, hb⟩
      have hx' := (hb.block _ (lt_block HX.out)).trans HX.out
      obtain ⟨⟨c0, c1, c2, c3, c4, c5, c6⟩, d0, d1, d2, d3, d4, d5, d6⟩ := seven hx'
      have H7 := Lib.hid (And.intro hx' hb)
      clear hx' hb
      go_wp2_with fail
      have hz := set7_heap H7.out.1 (.int .i64 7) (.int .i64 p) (.int .i64 2) (.int .i64 0) (.string t) (.slice none 0 0) (.int .i64 p)
      obtain ⟨WZ, hWZ⟩ : ∃ W, W = set7 w' w.heap.size (.int .i64 7) (.int .i64 p) (.int .i64 2) (.int .i64 0) (.string t) (.slice none 0 0) (.int .i64 p) := ⟨_, rfl⟩
      rw [← hWZ] at hz
      have z := (seven hz).1
      have hWZ' := hWZ
      unfold set7 at hWZ'
      rw [← hWZ']
      refine bodyPost_ret (v := (.agg #[.int .i64 7, .int .i64 p, .int .i64 2, .int .i64 0, .string t, .slice none 0 0, .int .i64 p])) (by simp [results, Tryd.results27, go_sem, z.1, z.2.1, z.2.2.1, z.2.2.2.1, z.2.2.2.2.1, z.2.2.2.2.2.1, z.2.2.2.2.2.2]) rfl ?_
      refine ⟨by rw [tkV_datum, ← hb3.out, str_byL], ?_⟩
      rw [hWZ]
      have b0 : Below w.heap.size w (w.alloc (.cells #[.int .i64 0, .int .i64 0, .int .i64 0, .int .i64 0, .string { data := #[] }, .slice none 0 0, .int .i64 0] 37)) := (Below.refl _ _).alloc (Nat.le_refl _) _
      exact set7_below (b0.trans (H7.out.2.mono b0.size)) (Nat.le_refl _) _ _ _ _ _ _ _
end Go.Proofs.YtgnnkfdpfmlajaaDoor
