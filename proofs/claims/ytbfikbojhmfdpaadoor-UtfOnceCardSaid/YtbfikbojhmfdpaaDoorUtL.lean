/- Contracts: the program's All. Conditions: the tables of Go's library lie. -/
import Derived.Test.YtbfikbojhmfdpaaDoorUtK
namespace Go.Proofs.YtbfikbojhmfdpaaDoor
open Go.RowKit Bg
set_option linter.unusedVariables false
set_option linter.unusedSimpArgs false


theorem CR.iter {E : TypeId} {B : Nat} {w : World} {v : Value} {l : List Int} (h : CR E B w v l) {j : Nat} (hj : j < B) (s : ByteArray) (pos : Nat) : CR E B (w.iterAt j s pos) v l := by
  rcases h.2 with h0 | ⟨g, cap, cur, hv, hB, hg, hr⟩
  · exact ⟨h.1, Or.inl h0⟩
  · exact ⟨h.1, Or.inr ⟨g, cap, cur, hv, hB, (Lib.iterAt_other w j g s pos (by omega)).trans hg, hr⟩⟩
theorem CR.base {E : TypeId} {B B' : Nat} {w : World} {v : Value} {l : List Int} (h : CR E B w v l) (hB : B' ≤ B) : CR E B' w v l := by
  rcases h.2 with h0 | ⟨g, cap, cur, hv, hBg, hr⟩
  · exact ⟨h.1, Or.inl h0⟩
  · exact ⟨h.1, Or.inr ⟨g, cap, cur, hv, Nat.le_trans hB hBg, hr⟩⟩
theorem CR.other {E : TypeId} {B : Nat} {w : World} {v : Value} {l : List Int} (h : CR E B w v l) {a : Addr} (u : Value) (hne : a.block < B) : CR E B (w.setCell a u) v l := by
  rcases h.2 with h0 | ⟨g, cap, cur, hv, hBg, hg, hr⟩
  · exact ⟨h.1, Or.inl h0⟩
  · exact ⟨h.1, Or.inr ⟨g, cap, cur, hv, hBg, by rw [Below.heap_setCell _ _ _ _ (by omega)]; exact hg, hr⟩⟩
theorem two_cells {w : World} {B : Nat} {x y : Value} (u v : Value) (h0 : w.cell? ⟨B, 0, none⟩ = some x) (h1 : w.cell? ⟨B, 1, none⟩ = some y) :
    ((w.setCell ⟨B, 0, none⟩ u).setCell ⟨B, 1, none⟩ v).cell? ⟨B, 0, none⟩ = some u ∧ ((w.setCell ⟨B, 0, none⟩ u).setCell ⟨B, 1, none⟩ v).cell? ⟨B, 1, none⟩ = some v := by
  constructor
  · rw [World.cell?_setCell_other _ _ _ _ (by intro h; cases h)]
    exact World.cell?_setCell_same _ _ _ h0
  · refine World.cell?_setCell_same (u := y) _ _ _ ?_
    rw [World.cell?_setCell_other _ _ _ _ (by intro h; cases h)]
    exact h1
set_option maxRecDepth 100000 in
set_option maxHeartbeats 20000000 in
theorem all_at {w : World} {p : Option Addr} {c : Nat} {l : List Int} (a : Arg .u8 w p c l) (hb : Byts l) (hl : l.length ≤ 2000) :
    Calls Tryd.prog 17 #[.slice p l.length c] w fun e w' => ∃ v x y, e = .returned (.tuple #[v, .agg #[.int .i64 x, .int .i64 y]]) ∧ AllIs 46 w.heap.size w' l v x y ∧ Below w.heap.size w w' := by
  have hsz : (strOfNums l).size = l.length := str_size l
  have HB := Lib.hid (And.intro hb hl)
  obtain ⟨W, hW⟩ : ∃ W, W = w.alloc (.cells #[.int .i64 0, .int .i64 0] 39) := ⟨_, rfl⟩
  have bW : Below w.heap.size w W := by rw [hW]; exact (Below.refl _ _).alloc (Nat.le_refl _) _
  have hcv := conv_arg (a.below bW)
  have hc0 : W.cell? ⟨w.heap.size, 0, none⟩ = some (.int .i64 0) := by rw [hW]; unfold World.cell?; rw [heap_new]; rfl
  have hc1 : W.cell? ⟨w.heap.size, 1, none⟩ = some (.int .i64 0) := by rw [hW]; unfold World.cell?; rw [heap_new]; rfl
  have hf0 : W.frozen? ⟨w.heap.size, 0, none⟩ = false := by rw [hW]; simp
  have hf1 : W.frozen? ⟨w.heap.size, 1, none⟩ = false := by rw [hW]; simp
  have hWs : W.heap.size = w.heap.size + 1 := by rw [hW]; simp
  obtain ⟨s, hs⟩ : ∃ s, s = strOfNums l := ⟨_, rfl⟩
  rw [← hs] at hsz hcv
  have HS := Lib.hid (And.intro hs hsz)
  obtain ⟨L, hL⟩ : ∃ L, L = l.length := ⟨_, rfl⟩
  rw [← hL] at hcv ⊢
  obtain ⟨B, hB⟩ : ∃ B, B = w.heap.size := ⟨_, rfl⟩
  rw [← hB] at hc0 hc1 hf0 hf1 bW hWs
  have HBB := Lib.hid (And.intro hB (And.intro bW (And.intro hc0 (And.intro hc1 (And.intro hf0 (And.intro hf1 hWs))))))
  clear hb hsz hs hL a bW hc0 hc1 hf0 hf1 hWs
  go_enter Tryd.func17, Tryd.ntmps17
  go_upto_region 1 with fail
  rw [← hW, ← hB]
  clear hW hB
  go_wp2_with fail
  rw [HBB.out.2.2.2.2.2.2]
  go_loopw [5] (fun v wr => ∃ (k : Nat) (cs : List Int), Hid (wr.heap[B + 1]? = some (.stringIter s k) ∧ Below (B + 1) W wr ∧ CR 46 (B + 2) wr v cs ∧ AllC cs ∧ k = (flat cs).length ∧ k ≤ l.length ∧ l = flat cs ++ l.drop k)) (fun _ wr => s.size - wr.iterPos (B + 1))
  case atStart =>
    have hWs := HBB.out.2.2.2.2.2.2
    refine ⟨0, [], Lib.hid ⟨?_, ?_, CR.nil _ _ _, fun c hc => (by cases hc), rfl, Nat.zero_le _, rfl⟩⟩
    · rw [← hWs]; exact World.iter_heap W s 0
    · rw [← hWs]; exact (Below.refl _ _).alloc (Nat.le_refl _) _
  case round =>
    obtain ⟨k, cs, HI⟩ := hrel
    by_cases hlt : k < s.size
    · have hR0 : l.drop k ≠ [] := fun h => by
        have := congrArg List.length h
        rw [List.length_drop, ← HS.out.2] at this
        simp at this
        omega
      have hnx : ∀ ty, (Instr.next (.pointer (some ⟨B + 1, 0, none⟩)) true ty).run Tryd.prog wr = _ := fun ty => Lib.run_next_any_at wr (B + 1) s k ty HI.out.1 hlt
      have hdec : Utf8.decode s k = decZ (l.drop k) := by rw [HS.out.1]; exact decode_str HB.out.1 k
      have hbr := bad_rune (HB.out.1.drop k) hR0
      have hch := chr_dec hR0
      obtain ⟨r, hr⟩ : ∃ r, r = (decZ (l.drop k)).1 := ⟨_, rfl⟩
      obtain ⟨n, hn⟩ : ∃ n, n = (decZ (l.drop k)).2 := ⟨_, rfl⟩
      rw [← hr] at hbr hch
      rw [← hn] at hch
      have hd2 : Utf8.decode s k = (r, n) := by rw [hdec, hr, hn]
      rw [hd2] at hnx
      obtain ⟨w1, hw1⟩ : ∃ w1, w1 = wr.iterAt (B + 1) s (k + n) := ⟨_, rfl⟩
      have h1 : w1.heap[B + 1]? = some (.stringIter s (k + n)) := by rw [hw1]; exact Lib.iterAt_heap wr (B + 1) s k (k + n) HI.out.1
      have h2 : Below (B + 1) W w1 := by rw [hw1]; exact Lib.below_iterAt HI.out.2.1 (Nat.le_refl _) s _
      have h3 : CR 46 (B + 2) w1 u5 cs := by rw [hw1]; exact HI.out.2.2.1.iter (Nat.lt_succ_self _) s _
      have hex : s.extract k s.size = strOfNums (l.drop k) := by rw [HS.out.2, HS.out.1]; exact ext_str k
      have T := Lib.hid (invalid_at (HB.out.1.drop k) (r : Int) w1)
      simp only [← hw1] at hnx
      have HN := Lib.hid (And.intro h1 (And.intro h2 (And.intro h3 hw1)))
      clear h1 h2 h3 hw1 hd2 hdec hr hn hR0
      have f1 : (k : Int) < (s.size : Int) := by omega
      have f2 : k ≤ s.size := by omega
      have f3 : (k : Int) ≤ (s.size : Int) := by omega
      obtain ⟨z, hz⟩ : ∃ z, z = strOfNums (l.drop k) := ⟨_, rfl⟩
      rw [← hz] at hex T
      obtain ⟨bad, hbad⟩ : ∃ b, b = (decide ((r : Int) = 65533) && !(pre (l.drop k))) := ⟨_, rfl⟩
      rw [← hbad] at T hbr
      have HBR := Lib.hid (And.intro hbr hch)
      clear hz hbad hbr hch
      cases bad with
      | true =>
        have b0 : w1.cell? ⟨B, 0, none⟩ = some (.int .i64 0) := (HN.out.2.1.cell (p := ⟨B, 0, none⟩) (Nat.lt_succ_self B)).trans HBB.out.2.2.1
        have b1 : w1.cell? ⟨B, 1, none⟩ = some (.int .i64 0) := (HN.out.2.1.cell (p := ⟨B, 1, none⟩) (Nat.lt_succ_self B)).trans HBB.out.2.2.2.1
        have b2 : w1.frozen? ⟨B, 0, none⟩ = false := (HN.out.2.1.frozen (p := ⟨B, 0, none⟩) (Nat.lt_succ_self B)).trans HBB.out.2.2.2.2.1
        have b3 : w1.frozen? ⟨B, 1, none⟩ = false := (HN.out.2.1.frozen (p := ⟨B, 1, none⟩) (Nat.lt_succ_self B)).trans HBB.out.2.2.2.2.2.1
        go_wp2_with (go_at_call 27; refine T.out.mono ?_; rintro e w' ⟨rfl, rfl⟩)
        obtain ⟨wz, hwz⟩ : ∃ wz, wz = (w1.setCell ⟨B, 0, none⟩ (.int .i64 4)).setCell ⟨B, 1, none⟩ (.int .i64 k) := ⟨_, rfl⟩
        have z0 : wz.cell? ⟨B, 0, none⟩ = some (.int .i64 4) := by rw [hwz]; exact (two_cells _ _ b0 b1).1
        have z1 : wz.cell? ⟨B, 1, none⟩ = some (.int .i64 k) := by rw [hwz]; exact (two_cells _ _ b0 b1).2
        have zb : Below B w wz := by
          rw [hwz]
          exact ((HBB.out.2.1.trans (HN.out.2.1.mono (by omega))).setCell (Nat.le_refl _) _).setCell (Nat.le_refl _) _
        have zr : ∀ v cs, CR 46 (B + 2) w1 v cs → CR 46 (B + 2) wz v cs := fun v cs h => by
          rw [hwz]
          exact (h.other _ (by show B < B + 2; omega)).other _ (by show B < B + 2; omega)
        rw [← hwz]
        clear hwz
        refine bodyPost_ret (v := .tuple #[.slice none 0 0, .agg #[.int .i64 4, .int .i64 k]]) (by simp [results, Tryd.results17, go_sem, z0, z1]) rfl ?_
        have hrn : l.drop k ≠ [] := fun h => by
          have := congrArg List.length h
          rw [List.length_drop, ← HS.out.2] at this
          simp at this
          omega
        refine ⟨_, _, _, rfl, ⟨cs, l.drop k, ⟨HI.out.2.2.2.1, HI.out.2.2.2.2.2.2, by have := HBR.out.1; rw [eq_comm, Option.isNone_iff_eq_none] at this; exact this⟩, by unfold aE; rw [if_neg hrn], ?_, ?_⟩, by rw [← HBB.out.1]; exact zb⟩
        · unfold aP
          rw [if_neg hrn, List.length_drop]
          congr 1
          have := HI.out.2.2.2.2.2.1
          omega
        · unfold aL
          rw [if_neg hrn]
          exact CR.nil _ _ _
      | false =>
        have hchs : chr (l.drop k) = some ((r : Int), n) := by
          rcases HBR.out.2 with h | h
          · have := HBR.out.1
            rw [h.1] at this
            cases this
          · exact h.1
        have HC := Lib.hid hchs
        have hn := chr_lt (HB.out.1.drop k) hchs
        rw [List.length_drop, ← HS.out.2] at hn
        have hrb : (r : Int) ≤ 1114111 := by have := isC_iff.1 (chr_some (HB.out.1.drop k) hchs).1; omega
        have hw64 : wrap64 (r : Int) = (r : Int) := by unfold wrap64; omega
        clear hchs
        have hcl : cs.length ≤ 2000 := by have := (flat_len cs).1; have := HI.out.2.2.2.2.1; have := HI.out.2.2.2.2.2.1; have := HB.out.2; omega
        obtain ⟨v2, w2, hr2, ho2, hb2⟩ := app_char (c := (r : Int)) Tryd.underlying37 infC46 HN.out.2.2.1 (by omega) (lt_block HN.out.1)
        rw [← HI.out.2.2.2.2.1] at hr2
        have HR := Lib.hid (And.intro hr2 (And.intro ho2 hb2))
        clear hr2 ho2 hb2
        go_wp2_with fail
        refine T.out.mono ?_
        rintro e w' ⟨rfl, rfl⟩
        go_wp2_with (at_builtin; go_loud (refine Lib.wpList_append_run _ rfl _ _ 37 37 rfl u5 (.slice (some ⟨w1.heap.size, 0, none⟩) 1 1) rfl rfl v2 w2 HR.out.1 ?_))
        go_roundw
        case rel =>
          obtain ⟨e1, e2, e3⟩ := chr_some (HB.out.1.drop k) HC.out
          have hkn : (flat (cs ++ [(r : Int)])).length = k + n := by rw [flat_snoc, List.length_append, ← HI.out.2.2.2.2.1, e2]
          refine ⟨k + n, cs ++ [(r : Int)], Lib.hid ⟨?_, HN.out.2.1.trans (HR.out.2.2.mono (by omega)), HR.out.2.1, allc_snoc HI.out.2.2.2.1 e1, hkn.symm, by have := HS.out.2; omega, ?_⟩⟩
          · rw [HR.out.2.2.block (B + 1) (by omega)]; exact HN.out.1
          · rw [flat_snoc, List.append_assoc, ← List.drop_drop, e3]
            exact HI.out.2.2.2.2.2.2
        case measure =>
          have hB2 : w2.heap[B + 1]? = some (.stringIter s (k + n)) := by rw [HR.out.2.2.block (B + 1) (by omega)]; exact HN.out.1
          simp only [World.iterPos, hB2, HI.out.1]
          omega
    · have hnx : ∀ ty, (Instr.next (.pointer (some ⟨B + 1, 0, none⟩)) true ty).run Tryd.prog wr = _ := fun ty => Lib.run_next_end_at wr (B + 1) s k ty HI.out.1 hlt
      have b0 : wr.cell? ⟨B, 0, none⟩ = some (.int .i64 0) := (HI.out.2.1.cell (p := ⟨B, 0, none⟩) (Nat.lt_succ_self B)).trans HBB.out.2.2.1
      have b1 : wr.cell? ⟨B, 1, none⟩ = some (.int .i64 0) := (HI.out.2.1.cell (p := ⟨B, 1, none⟩) (Nat.lt_succ_self B)).trans HBB.out.2.2.2.1
      have b2 : wr.frozen? ⟨B, 0, none⟩ = false := (HI.out.2.1.frozen (p := ⟨B, 0, none⟩) (Nat.lt_succ_self B)).trans HBB.out.2.2.2.2.1
      have b3 : wr.frozen? ⟨B, 1, none⟩ = false := (HI.out.2.1.frozen (p := ⟨B, 1, none⟩) (Nat.lt_succ_self B)).trans HBB.out.2.2.2.2.2.1
      go_wp2_with fail
      obtain ⟨wz, hwz⟩ : ∃ wz, wz = (wr.setCell ⟨B, 0, none⟩ (.int .i64 0)).setCell ⟨B, 1, none⟩ (.int .i64 0) := ⟨_, rfl⟩
      have z0 : wz.cell? ⟨B, 0, none⟩ = some (.int .i64 0) := by rw [hwz]; exact (two_cells _ _ b0 b1).1
      have z1 : wz.cell? ⟨B, 1, none⟩ = some (.int .i64 0) := by rw [hwz]; exact (two_cells _ _ b0 b1).2
      have zb : Below B w wz := by
        rw [hwz]
        exact ((HBB.out.2.1.trans (HI.out.2.1.mono (by omega))).setCell (Nat.le_refl _) _).setCell (Nat.le_refl _) _
      have zr : ∀ v cs, CR 46 (B + 2) wr v cs → CR 46 (B + 2) wz v cs := fun v cs h => by
        rw [hwz]
        exact (h.other _ (by show B < B + 2; omega)).other _ (by show B < B + 2; omega)
      rw [← hwz]
      clear hwz
      refine bodyPost_ret (v := .tuple #[u5, .agg #[.int .i64 0, .int .i64 0]]) (by simp [results, Tryd.results17, go_sem, z0, z1]) rfl ?_
      have h0 : l.drop k = [] := List.drop_eq_nil_of_le (by rw [← HS.out.2]; omega)
      refine ⟨_, _, _, rfl, ⟨cs, [], ⟨HI.out.2.2.2.1, by have := HI.out.2.2.2.2.2.2; rwa [h0] at this, chr_nil⟩, by simp [aE], by simp [aP], ?_⟩, by rw [← HBB.out.1]; exact zb⟩
      unfold aL
      rw [if_pos rfl, ← HBB.out.1]
      exact (zr _ _ HI.out.2.2.1).base (by omega)
end Go.Proofs.YtbfikbojhmfdpaaDoor
