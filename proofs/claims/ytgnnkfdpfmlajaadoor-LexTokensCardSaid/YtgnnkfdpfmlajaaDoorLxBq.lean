/- Contracts: tokens of given texts. Conditions: none. -/
import Derived.Test.YtgnnkfdpfmlajaaDoorLxBp
namespace Go.Proofs.YtgnnkfdpfmlajaaDoor
open Go.RowKit Bg Lx
set_option linter.unusedVariables false
set_option linter.unusedSimpArgs false

theorem row_cells {B : Nat} {w : World} {g n c : Nat} {ts : List Tk} (h : TR B w (.slice (some ⟨g, 0, none⟩) n c) ts) (i o : Nat) (hi : i < ts.length) (ho : o = i * 7) :
    w.cell? ⟨g, o, none⟩ = some (.int .i64 (ts[i]).kind) ∧ w.cell? ⟨g, o + 1, none⟩ = some (.int .i64 (ts[i]).pos) ∧ w.cell? ⟨g, o + 2, none⟩ = some (.int .i64 (ts[i]).dk) ∧ w.cell? ⟨g, o + 3, none⟩ = some (.int .i64 (ts[i]).n) ∧ w.cell? ⟨g, o + 4, none⟩ = some (.string (strOfNums (ts[i]).text)) ∧ w.cell? ⟨g, o + 5, none⟩ = some (.slice none 0 0) ∧ w.cell? ⟨g, o + 6, none⟩ = some (.int .i64 (dpos ts[i])) := by
  subst ho
  have hn : n = ts.length := by
    rcases h.2 with ⟨h0, h1⟩ | ⟨g', cap, cur, hv, -⟩
    · cases h0
    · cases hv; rfl
  subst hn
  have e : ∀ j, j < 7 → w.cell? ⟨g, i * 7 + j, none⟩ = (tkC ts[i])[j]? := fun j hj => by
    rw [World.ownsRow.cellAt h (i * 7 + j) (by omega)]
    exact tkCs_get ts i j hi hj
  exact ⟨e 0 (by decide), e 1 (by decide), e 2 (by decide), e 3 (by decide), e 4 (by decide), e 5 (by decide), e 6 (by decide)⟩
theorem TR.some_at {B : Nat} {w : World} {v : Value} {ts : List Tk} (h : TR B w v ts) (h0 : 0 < ts.length) : ∃ g c, v = .slice (some ⟨g, 0, none⟩) ts.length c ∧ ts.length ≤ c ∧ c ≤ 9223372036854775807 := by
  rcases h.2 with ⟨rfl, h1⟩ | ⟨g, cap, cur, rfl, hB, hg, hcap, hmax, hcs, htake⟩
  · omega
  · exact ⟨g, cap, rfl, hcap, by unfold maxLen at hmax; omega⟩
theorem is_true (k p dk n dp : Int) (s : ByteArray) (w : World) : Calls Tryd.prog 13 #[.agg #[.int .i64 k, .int .i64 p, .int .i64 dk, .int .i64 n, .string s, .slice none 0 0, .int .i64 dp], .int .i64 k, .int .i64 p] w fun e w' => e = .returned (.bool true) ∧ Below w.heap.size w w' := by
  go_enter Tryd.func13, Tryd.ntmps13
  go_wp2_with fail
  go_ret
  exact ⟨retB (by simp), (Below.refl _ _).alloc (Nat.le_refl _) _⟩
theorem dat_true (p dk n : Int) (s : ByteArray) (w : World) : Calls Tryd.prog 14 #[.agg #[.int .i64 7, .int .i64 p, .int .i64 dk, .int .i64 n, .string s, .slice none 0 0, .int .i64 p], .int .i64 dk, .int .i64 n, .string s, .int .i64 p] w fun e w' => e = .returned (.bool true) ∧ Below w.heap.size w w' := by
  have T := Lib.hid (fun W => is_true 7 p dk n p s W)
  have hss : (s.toList == s.toList) = true := by simp
  have hx : ((w.alloc (.cells #[.int .i64 7, .int .i64 p, .int .i64 dk, .int .i64 n, .string s, .slice none 0 0, .int .i64 p] 37)).alloc (.cells #[.int .i64 dk, .int .i64 n, .string s, .slice none 0 0, .int .i64 p] 35)).heap[w.heap.size + 1]? = some (.cells #[.int .i64 dk, .int .i64 n, .string s, .slice none 0 0, .int .i64 p] 35) := by
    have := heap_new (w.alloc (.cells #[.int .i64 7, .int .i64 p, .int .i64 dk, .int .i64 n, .string s, .slice none 0 0, .int .i64 p] 37)) (.cells #[.int .i64 dk, .int .i64 n, .string s, .slice none 0 0, .int .i64 p] 35)
    simpa using this
  have hb0 : Below w.heap.size w ((w.alloc (.cells #[.int .i64 7, .int .i64 p, .int .i64 dk, .int .i64 n, .string s, .slice none 0 0, .int .i64 p] 37)).alloc (.cells #[.int .i64 dk, .int .i64 n, .string s, .slice none 0 0, .int .i64 p] 35)) := ((Below.refl _ _).alloc (Nat.le_refl _) _).alloc (by simp) _
  have HH := Lib.hid (And.intro hx hb0)
  clear hx hb0
  go_enter Tryd.func14, Tryd.ntmps14
  go_wp2_with fail
  refine (T.out _).mono ?_
  rintro e w1 ⟨rfl, hb⟩
  have hx1 := (hb.block _ (lt_block HH.out.1)).trans HH.out.1
  have y0 := blk_cell hx1 0
  have y1 := blk_cell hx1 1
  have y2 := blk_cell hx1 2
  have y3 := blk_cell hx1 3
  have y4 := blk_cell hx1 4
  simp only [List.getElem?_toArray, List.getElem?_cons_succ, List.getElem?_cons_zero] at y0 y1 y2 y3 y4
  have HB := Lib.hid (HH.out.2.trans (hb.mono HH.out.2.size))
  clear hb hx1
  go_wp2_with fail
  go_ret
  exact ⟨retB (by simp), HB.out⟩
end Go.Proofs.YtgnnkfdpfmlajaaDoor
