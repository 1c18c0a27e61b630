/- Contracts: a new memory. Conditions: the words read as told; the memory has one page at most. -/
import Derived.Test.YtknnmacmohpanaaDoorMaJ
import Derived.Test.YtknnmacmohpanaaDoorMaL
import Derived.Laws.CopyOwn
namespace Go.Proofs.YtknnmacmohpanaaDoor
open Go.RowKit

def byW (l : List Int) : List Value := l.map (Value.int .u32)
theorem byW_len (l : List Int) : (byW l).length = l.length := by unfold byW; simp
theorem one_byW (l : List Int) : ∀ u ∈ byW l, u.oneCell' = true := by
  intro u hu
  unfold byW at hu
  obtain ⟨x, -, rfl⟩ := List.mem_map.1 hu
  rfl
theorem mk1 (w : World) : (Instr.makeSlice 62 (.int .i64 1) (.int .i64 1)).run Tryd.prog w = .ok (.slice (some ⟨w.heap.size, 0, none⟩) 1 1) (w.alloc (.cells #[.pointer none] 105)) := by kernel_rfl
theorem size38 : (Tryd.prog.info? 38).map (·.size) = some 1 := by kernel_rfl
/-- What a new memory is. -/
structure NMem (W w : World) (G : Nat) (pg : Option Nat) (ws : List Int) : Prop where
  below : Below W.heap.size W w
  dir : w.heap[G]? = some (.cells #[ptr pg] 105 (0, 0))
  leG : W.heap.size ≤ G
  leP : ∀ P, pg = some P → W.heap.size ≤ P
  nop : pg = none → ws = []
  pag : ∀ P, pg = some P → w.heap[P]? = some (.cells (cellsF 1025 (fun i => if i < 1024 then .int .u32 (ws.getD i 0) else .pointer none)) 109 (0, 0))

theorem page_of {P : Nat} {w : World} {ws : List Int} (hl : ws.length ≤ 1024) (h : w.heap[P]? = some (.cells (splice Tryd.zeroCells109.toList 0 (byW ws)).toArray 109 (0, 0))) :
    w.heap[P]? = some (.cells (cellsF 1025 (fun i => if i < 1024 then .int .u32 (ws.getD i 0) else .pointer none)) 109 (0, 0)) := by
  refine h.trans (congrArg (fun cs => some (Obj.cells cs 109 (0, 0))) ?_)
  apply Array.ext_getElem?
  intro i
  have hz : ∀ i, Tryd.zeroCells109.toList[i]? = if i < 1025 then some (if i < 1024 then .int .u32 0 else .pointer none) else none := by
    intro i
    have := zero109 ⟨0, 0, none, none, .bool true, .bool true⟩ ⟨fun _ => 0, 0, fun _ => 0, 0, 0, 0, 0, 0, [], []⟩ (fun _ => rfl) rfl
    rw [this, Array.getElem?_toList]
    by_cases hi : i < 1025
    · rw [cellsF_get hi, if_pos hi]; rfl
    · rw [if_neg hi, Array.getElem?_eq_none (by rw [cellsF_size]; omega)]
  unfold splice
  rw [List.take_zero, List.nil_append, Nat.zero_add, byW_len, List.getElem?_toArray]
  by_cases hi : i < 1025
  · rw [cellsF_get hi]
    by_cases hw : i < ws.length
    · rw [List.getElem?_append_left (by rw [byW_len]; exact hw), if_pos (by omega)]
      unfold byW
      rw [List.getElem?_map, List.getElem?_eq_getElem hw]
      simp [List.getD, List.getElem?_eq_getElem hw]
    · rw [List.getElem?_append_right (by rw [byW_len]; omega), byW_len, List.getElem?_drop, show ws.length + (i - ws.length) = i by omega, hz i, if_pos hi]
      have : ws.getD i 0 = 0 := by simp [List.getD, List.getElem?_eq_none (show ws.length ≤ i by omega)]
      rw [this]
  · rw [Array.getElem?_eq_none (by rw [cellsF_size]; omega), List.getElem?_append_right (by rw [byW_len]; omega), byW_len, List.getElem?_drop, show ws.length + (i - ws.length) = i by omega, hz i, if_neg hi]

theorem cells2 {w : World} {b t : Nat} {v0 v1 : Value} {fr : Nat × Nat} (h : w.heap[b]? = some (.cells #[v0, v1] t fr)) : w.cell? ⟨b, 0, none⟩ = some v0 ∧ w.cell? ⟨b, 1, none⟩ = some v1 := by
  simp [World.cell?, h]
theorem setTwo {w : World} {b t : Nat} {y0 y1 : Value} (h : w.heap[b]? = some (.cells #[y0, y1] t (0, 0))) (x0 x1 : Value) :
    ((w.setCell ⟨b, 0, none⟩ x0).setCell ⟨b, 1, none⟩ x1).heap[b]? = some (.cells #[x0, x1] t (0, 0)) ∧ Chg (fun k => k = b) w ((w.setCell ⟨b, 0, none⟩ x0).setCell ⟨b, 1, none⟩ x1) :=
  ⟨set_block (i := 1) (set_block (i := 0) h (by simp)) (by simp), ((Chg.refl (fun k => k = b) w).setCell ⟨b, 0, none⟩ x0 (Or.inl rfl)).setCell ⟨b, 1, none⟩ x1 (Or.inl rfl)⟩
theorem two_new (w : World) (A B C : Obj) : (((w.alloc A).alloc B).alloc C).heap[w.heap.size + 1]? = some B := by
  rw [Below.heap_alloc _ _ _ (by simp)]
  have := heap_new (w.alloc A) B
  rwa [World.size_alloc] at this
theorem three_below (w : World) (A B C : Obj) : Below w.heap.size w (((w.alloc A).alloc B).alloc C) := (((Below.refl _ _).alloc (Nat.le_refl _) _).alloc (by simp) _).alloc (by simp <;> omega) _

set_option maxRecDepth 100000 in
set_option maxHeartbeats 4000000 in
theorem newMem_nil (p : Option Addr) (c n : Nat) (w : World) (hn : n ≤ 1024) (h1 : 1 ≤ n) :
    Calls Tryd.prog 49 #[.slice p 0 c, .int .i64 n] w fun e w' => e = .returned (.agg #[.int .u32 n, .slice (some ⟨w.heap.size + 1, 0, none⟩) 1 1]) ∧ NMem w w' (w.heap.size + 1) none [] := by
  have e1 : ((n : Int) + 1024 - 1) / 1024 = 1 := by omega
  have e3 : (n : Int) % 4294967296 = n := by omega
  have hm := mk1
  go_enter Tryd.func49, Tryd.ntmps49
  go_wp2_with fail
  refine wp_loop_rounds 1 ?_
  rw [rounds_succ]
  go_wp2_with fail
  refine bodyPost_ret (v := .agg #[.int .u32 n, .slice (some ⟨w.heap.size + 1, 0, none⟩) 1 1]) (by simp [results, Tryd.results49, go_sem]) rfl ⟨rfl, ?_⟩
  exact ⟨three_below _ _ _ _, two_new _ _ _ _, Nat.le_succ _, fun _ h => (by cases h), fun _ => rfl, fun _ h => (by cases h)⟩

set_option maxRecDepth 100000 in
set_option maxHeartbeats 4000000 in
theorem newMem_some (ad : Addr) (c n : Nat) (ws : List Int) (w : World) (hne : ws ≠ []) (hkn : ws.length ≤ n) (hn : n ≤ 1024) (h1 : 1 ≤ n) (hc : ws.length ≤ c) (hcm : c ≤ 9223372036854775807) (hw : ∀ j u, (byW ws)[j]? = some u → w.cell? (ad.add j) = some u) :
    Calls Tryd.prog 49 #[.slice (some ad) ws.length c, .int .i64 n] w fun e w' => e = .returned (.agg #[.int .u32 n, .slice (some ⟨w.heap.size + 1, 0, none⟩) 1 1]) ∧ NMem w w' (w.heap.size + 1) (some (w.heap.size + 3)) ws := by
  have e1 : ((n : Int) + 1024 - 1) / 1024 = 1 := by omega
  have e3 : (n : Int) % 4294967296 = n := by omega
  obtain ⟨k, hk⟩ : ∃ k, k = ws.length := ⟨_, rfl⟩
  have hk0 : 0 < k := by rw [hk]; exact List.length_pos_iff.2 hne
  rw [← hk] at hkn hc ⊢
  have HW := Lib.hid (And.intro hw (And.intro hk hne))
  have hm := mk1
  clear hw hk hne
  go_enter Tryd.func49, Tryd.ntmps49
  go_wp2_with fail
  refine wp_loop_rounds 2 ?_
  rw [rounds_succ]
  go_upto_region 6 with fail
  obtain ⟨w4, hw4⟩ : ∃ w4, w4 = ((((w.alloc (.cells #[.int .u32 0, .slice none 0 0] 64)).alloc (.cells #[.pointer (some ⟨w.heap.size + 1 + 1 + 1, 0, none⟩)] 105)).alloc (.cells #[.int .u32 n, .slice (some ⟨w.heap.size + 1, 0, none⟩) 1 1] 64)).alloc (.cells Tryd.zeroCells109 109)) := ⟨_, rfl⟩
  have hB : Below w.heap.size w w4 := by rw [hw4]; exact (three_below _ _ _ _).alloc (by simp <;> omega) _
  have bR : w4.heap[w.heap.size]? = some (.cells #[.int .u32 0, .slice none 0 0] 64 (0, 0)) := by
    rw [hw4, Below.heap_alloc _ _ _ (by simp <;> omega), Below.heap_alloc _ _ _ (by simp <;> omega), Below.heap_alloc _ _ _ (by simp), heap_new]
  have bG : w4.heap[w.heap.size + 1]? = some (.cells #[.pointer (some ⟨w.heap.size + 1 + 1 + 1, 0, none⟩)] 105 (0, 0)) := by
    rw [hw4, Below.heap_alloc _ _ _ (by simp <;> omega)]; exact two_new _ _ _ _
  have bX : w4.heap[w.heap.size + 1 + 1]? = some (.cells #[.int .u32 n, .slice (some ⟨w.heap.size + 1, 0, none⟩) 1 1] 64 (0, 0)) := by
    rw [hw4, Below.heap_alloc _ _ _ (by simp)]
    have := heap_new ((w.alloc (.cells #[.int .u32 0, .slice none 0 0] 64)).alloc (.cells #[.pointer (some ⟨w.heap.size + 1 + 1 + 1, 0, none⟩)] 105)) (.cells #[.int .u32 n, .slice (some ⟨w.heap.size + 1, 0, none⟩) 1 1] 64)
    simpa using this
  have bP : w4.heap[w.heap.size + 1 + 1 + 1]? = some (.cells Tryd.zeroCells109 109 (0, 0)) := by
    rw [hw4]
    have := heap_new (((w.alloc (.cells #[.int .u32 0, .slice none 0 0] 64)).alloc (.cells #[.pointer (some ⟨w.heap.size + 1 + 1 + 1, 0, none⟩)] 105)).alloc (.cells #[.int .u32 n, .slice (some ⟨w.heap.size + 1, 0, none⟩) 1 1] 64)) (.cells Tryd.zeroCells109 109)
    simpa using this
  rw [← hw4]
  clear hw4
  obtain ⟨R, hR⟩ : ∃ R, R = w.heap.size := ⟨_, rfl⟩
  have HR := Lib.hid hR
  rw [← hR] at bR bG bX bP ⊢
  clear hR
  obtain ⟨q0, q1⟩ := cells2 bX
  have qG := cell_of_one bG
  have HB := Lib.hid (And.intro hB (And.intro bR (And.intro bG (And.intro bX bP))))
  have hbl : (byW ws).length = k := by rw [byW_len, HW.out.2.1]
  have HG : Hid (w4.heap[R + 1 + 1 + 1]? = some (.cells Tryd.zeroCells109.toList.toArray 109 (0, 0)) ∧ (byW ws).length = Nat.min k 1024 ∧ (∀ j v, (byW ws)[j]? = some v → w4.cell? (ad.add j) = some v) ∧ 0 + (byW ws).length ≤ Tryd.zeroCells109.toList.length) := by
    refine ⟨by simpa using bP, by rw [hbl]; exact (Nat.min_eq_left (by omega)).symm, fun j v hj => ?_, ?_⟩
    · exact (hB.cell (World.block_lt_of_cell? w _ (HW.out.1 j v hj))).trans (HW.out.1 j v hj)
    · rw [hbl, Array.length_toList, show Tryd.zeroCells109.size = 1025 from Tryd.zeroCells109_size]; omega
  clear hB bR bG bX bP
  by_cases hck : c = k
  · have hck2 := hck.symm
    subst hck2
    clear hck
    go_wp2_with (first
      | (refine wpList_copy_splice (o := ⟨some 35, _, _, _, _, _⟩) rfl (.tmp 33) (.tmp 34) 22 22 rfl 38 Tryd.underlying22 size38 _ _ 1024 1024 k _ rfl rfl (R + 1 + 1 + 1) 0 Tryd.zeroCells109.toList 109 HG.out.1 (byW ws) HG.out.2.1 (fun _ => ⟨rfl, ad, rfl, HG.out.2.2.1⟩) HG.out.2.2.2 (one_byW ws) (R + 1 + 1 + 1) w4 (Below.refl _ _) (Nat.le_refl _) ?_)
      | fail)
    intro w5 hg5 hb5
    obtain ⟨hB, bR, bG, bX, bP⟩ := HB.out
    have bR5 := (hb5.block R (by omega)).trans bR
    have bG5 := (hb5.block (R + 1) (by omega)).trans bG
    have bX5 := (hb5.block (R + 1 + 1) (by omega)).trans bX
    obtain ⟨x0, x1⟩ := cells2 bX5
    obtain ⟨y0, y1⟩ := cells2 bR5
    have f0 := freeF bR5 0
    have f1 := freeF bR5 1
    have H5 := Lib.hid (And.intro hg5 (And.intro hb5 (And.intro bR5 bG5)))
    clear hB bR bG bX bP hg5 hb5 bR5 bG5 bX5 q0 q1 qG
    go_wp2_with fail
    rw [rounds_succ]
    go_wp2_with fail
    obtain ⟨hg5, hb5, bR5, bG5⟩ := H5.out
    have hw := HR.out
    have hk := HW.out.2.1
    have hs := setTwo bR5 (.int .u32 n) (.slice (some ⟨R + 1, 0, none⟩) 1 1)
    obtain ⟨wz, hwz⟩ : ∃ wz, wz = (w5.setCell ⟨R, 0, none⟩ (.int .u32 n)).setCell ⟨R, 1, none⟩ (.slice (some ⟨R + 1, 0, none⟩) 1 1) := ⟨_, rfl⟩
    rw [← hwz] at hs ⊢
    obtain ⟨z0, z1⟩ := cells2 hs.1
    refine bodyPost_ret (v := .agg #[.int .u32 n, .slice (some ⟨R + 1, 0, none⟩) 1 1]) (by simp [results, Tryd.results49, go_sem, z0, z1]) rfl ⟨by rw [HR.out], ?_⟩
    rw [show w.heap.size + 1 = R + 1 by omega, show w.heap.size + 3 = R + 1 + 1 + 1 by omega]
    refine ⟨?_, ?_, by omega, ?_, ?_, ?_⟩
    · have hB := HB.out.1
      exact hs.2.below (by have := hB.size; have := hb5.size; omega) (fun i e => by omega) |> fun h => (hB.trans (hb5.mono (by omega))).trans (h.mono (Nat.le_refl _))
    · exact (hs.2.same bG5 (by omega))
    · intro P hP; cases hP; omega
    · intro hn; cases hn
    · intro P hP
      cases hP
      exact page_of (by omega) (hs.2.same hg5.out (by omega))
  · have hck' : k < c := by omega
    clear hck
    go_wp2_with (first
      | (refine wpList_copy_splice (o := ⟨some 35, _, _, _, _, _⟩) rfl (.tmp 33) (.tmp 34) 22 22 rfl 38 Tryd.underlying22 size38 _ _ 1024 1024 k _ rfl rfl (R + 1 + 1 + 1) 0 Tryd.zeroCells109.toList 109 HG.out.1 (byW ws) HG.out.2.1 (fun _ => ⟨rfl, ad, rfl, HG.out.2.2.1⟩) HG.out.2.2.2 (one_byW ws) (R + 1 + 1 + 1) w4 (Below.refl _ _) (Nat.le_refl _) ?_)
      | fail)
    intro w5 hg5 hb5
    obtain ⟨hB, bR, bG, bX, bP⟩ := HB.out
    have bR5 := (hb5.block R (by omega)).trans bR
    have bG5 := (hb5.block (R + 1) (by omega)).trans bG
    have bX5 := (hb5.block (R + 1 + 1) (by omega)).trans bX
    obtain ⟨x0, x1⟩ := cells2 bX5
    obtain ⟨y0, y1⟩ := cells2 bR5
    have f0 := freeF bR5 0
    have f1 := freeF bR5 1
    have H5 := Lib.hid (And.intro hg5 (And.intro hb5 (And.intro bR5 bG5)))
    clear hB bR bG bX bP hg5 hb5 bR5 bG5 bX5 q0 q1 qG
    go_wp2_with fail
    rw [rounds_succ]
    go_wp2_with fail
    obtain ⟨hg5, hb5, bR5, bG5⟩ := H5.out
    have hw := HR.out
    have hk := HW.out.2.1
    have hs := setTwo bR5 (.int .u32 n) (.slice (some ⟨R + 1, 0, none⟩) 1 1)
    obtain ⟨wz, hwz⟩ : ∃ wz, wz = (w5.setCell ⟨R, 0, none⟩ (.int .u32 n)).setCell ⟨R, 1, none⟩ (.slice (some ⟨R + 1, 0, none⟩) 1 1) := ⟨_, rfl⟩
    rw [← hwz] at hs ⊢
    obtain ⟨z0, z1⟩ := cells2 hs.1
    refine bodyPost_ret (v := .agg #[.int .u32 n, .slice (some ⟨R + 1, 0, none⟩) 1 1]) (by simp [results, Tryd.results49, go_sem, z0, z1]) rfl ⟨by rw [HR.out], ?_⟩
    rw [show w.heap.size + 1 = R + 1 by omega, show w.heap.size + 3 = R + 1 + 1 + 1 by omega]
    refine ⟨?_, ?_, by omega, ?_, ?_, ?_⟩
    · have hB := HB.out.1
      exact hs.2.below (by have := hB.size; have := hb5.size; omega) (fun i e => by omega) |> fun h => (hB.trans (hb5.mono (by omega))).trans (h.mono (Nat.le_refl _))
    · exact (hs.2.same bG5 (by omega))
    · intro P hP; cases hP; omega
    · intro hn; cases hn
    · intro P hP
      cases hP
      exact page_of (by omega) (hs.2.same hg5.out (by omega))
end Go.Proofs.YtknnmacmohpanaaDoor
