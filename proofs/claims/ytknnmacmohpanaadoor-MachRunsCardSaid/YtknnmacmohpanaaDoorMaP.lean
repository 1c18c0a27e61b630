/- Contracts: a copy of a memory. Conditions: the memory lies as told. -/
import Derived.Test.YtknnmacmohpanaaDoorMaN
import Derived.Deep.RegionHeld3
import Derived.Deep.MidRow
namespace Go.Proofs.YtknnmacmohpanaaDoor
open Go.RowKit

theorem fold_set (off : Nat) : ∀ (cs : List Value) (k : Nat) (A : Array Value) (i : Nat), ((cs.zipIdx k).foldl (fun a x => a.setIfInBounds (off + x.2) x.1) A)[i]? = if off + k ≤ i ∧ i < off + k + cs.length ∧ i < A.size then cs[i - (off + k)]? else A[i]?
  | [], k, A, i => by
    simp only [List.zipIdx_nil, List.foldl_nil, List.length_nil]
    rw [if_neg (by omega)]
  | c :: r, k, A, i => by
    rw [List.zipIdx_cons, List.foldl_cons, fold_set off r (k + 1)]
    simp only [Array.size_setIfInBounds, List.length_cons]
    by_cases h : off + (k + 1) ≤ i ∧ i < off + (k + 1) + r.length ∧ i < A.size
    · rw [if_pos h, if_pos (by omega), show i - (off + k) = (i - (off + (k + 1))) + 1 by omega, List.getElem?_cons_succ]
    · rw [if_neg h, Array.getElem?_setIfInBounds]
      by_cases hi : off + k = i
      · subst hi
        rw [if_pos rfl]
        by_cases hz : off + k < A.size
        · rw [if_pos hz, if_pos (by omega), Nat.sub_self]; rfl
        · rw [if_neg hz, if_neg (by omega), Array.getElem?_eq_none (by omega)]
      · rw [if_neg hi, if_neg (by omega)]
theorem places109 : (match Tryd.prog.underlying 109 with | some (.struct fields) => fields.toList.mapM (fun f => (Tryd.prog.info? f.type).map fun i => (f.offset, i.size)) | _ => none) = some [(0, 1024), (1024, 1)] := by kernel_rfl
theorem zcells109 : ((Tryd.prog.info? 109).bind (·.zero)).map (·.cells) = some Tryd.zeroCells109 := by kernel_rfl
/-- A page's cells: the words, no instructions. -/
def pageOf (cs : List Value) : Array Value := (cs ++ [Value.pointer none]).toArray
theorem zlast109 : Tryd.zeroCells109[1024]? = some (.pointer none) := by
  rw [zero109 ⟨0, 0, none, none, .bool true, .bool true⟩ ⟨fun _ => 0, 0, fun _ => 0, 0, 0, 0, 0, 0, [], []⟩ (fun _ => rfl) rfl, cellsF_get (by decide)]
  rfl
theorem fold_page (cs : List Value) (Z : Array Value) (h : cs.length = 1024) (hs : Z.size = 1025) (hl : Z[1024]? = some (.pointer none)) :
    List.foldl (fun (a : Array Value) x => a.setIfInBounds x.2 x.1) Z cs.zipIdx = pageOf cs := by
  apply Array.ext_getElem?
  intro i
  have hf := fold_set 0 cs 0 Z i
  simp only [Nat.zero_add] at hf
  rw [hf]
  unfold pageOf
  have e1 : (cs ++ [Value.pointer none]).toArray[i]? = (cs ++ [Value.pointer none])[i]? := by simp
  rw [e1]
  simp only [Nat.zero_le, true_and, Nat.sub_zero]
  by_cases hi1 : i < cs.length
  · rw [if_pos ⟨hi1, by omega⟩, List.getElem?_append_left hi1]
  · rw [if_neg (by omega), List.getElem?_append_right (by omega)]
    by_cases hi2 : i = 1024
    · subst hi2; rw [hl, h, Nat.sub_self]; rfl
    · rw [Array.getElem?_eq_none (by omega), List.getElem?_eq_none (by simp; omega)]
theorem built109 (cs : List Value) (h : cs.length = 1024) : Tryd.prog.built 109 [(0, .agg cs.toArray)] = some (pageOf cs) := by
  have hp := places109
  have hz := zcells109
  unfold Program.built
  cases hi : Tryd.prog.info? 109 with
  | none => rw [hi] at hz; cases hz
  | some it =>
    rw [hi] at hz
    cases hu : Tryd.prog.underlying 109 with
    | none => rw [hu] at hp; cases hp
    | some d =>
      rw [hu] at hp
      cases d with
      | struct fields =>
        simp only at hp
        cases hzz : it.zero with
        | none => simp [hzz] at hz
        | some z =>
          have hz' : z.cells = Tryd.zeroCells109 := by simpa [hzz] using hz
          have hs : z.cells.size = 1025 := by rw [hz']; exact Tryd.zeroCells109_size
          have hl : z.cells[1024]? = some (.pointer none) := by rw [hz']; exact zlast109
          clear hz' hz
          simp only [hp, hzz]
          generalize z.cells = Z at hs hl ⊢
          unfold Instr.fill
          have hc : (Value.agg cs.toArray).cells = cs.toArray := rfl
          simp only [hc, List.getElem?_toArray, List.getElem?_cons_zero]
          rw [if_neg (by simp [h, hs])]
          unfold Instr.fill
          refine congrArg some ?_
          rw [← Array.foldl_toList, Array.toList_zipIdx]
          simp only [Nat.zero_add]
          exact fold_page cs Z h hs hl
      | _ => cases hp
/-- What a copied memory is. -/
structure CMem (W w : World) (G : Nat) (pg : Option Nat) (cs : List Value) : Prop where
  below : Below W.heap.size W w
  dir : w.heap[G]? = some (.cells #[ptr pg] 105 (0, 0))
  leG : W.heap.size ≤ G
  leP : ∀ P, pg = some P → W.heap.size ≤ P
  pag : ∀ P, pg = some P → w.heap[P]? = some (.cells (pageOf cs) 109 (0, 0))
def Cpd (W : World) (n : Nat) (has : Bool) (cs : List Value) (e : Ending) (w' : World) : Prop :=
  ∃ G pg, e = .returned (.agg #[.int .u32 n, .slice (some ⟨G, 0, none⟩) 1 1]) ∧ pg.isSome = has ∧ CMem W w' G pg cs
/-- Behind the first statement of copied. -/
def CutC (W : World) (n : Nat) (u : Value) (wx : World) : Prop :=
  ∃ X G, u = .pointer (some ⟨X, 0, none⟩) ∧ wx.heap[X]? = some (.cells #[.int .u32 n, .slice (some ⟨G, 0, none⟩) 1 1] 64 (0, 0)) ∧ wx.heap[G]? = some (.cells #[.pointer none] 105 (0, 0)) ∧
    wx.heap[W.heap.size]? = some (.cells #[.int .u32 0, .slice none 0 0] 64 (0, 0)) ∧ Below W.heap.size W wx ∧ W.heap.size < X ∧ W.heap.size < G

set_option maxRecDepth 100000 in
set_option maxHeartbeats 4000000 in
theorem copied_some (M G P n : Nat) (cs : List Value) (w : World) (i106 : (Tryd.prog.info? 106).map (·.size) = some cs.length) (hlen : cs.length = 1024) (c33 : w.cell? ⟨M, 33, none⟩ = some (.int .u32 n)) (c34 : w.cell? ⟨M, 34, none⟩ = some (.slice (some ⟨G, 0, none⟩) 1 1)) (hM : M < w.heap.size) (hG : G < w.heap.size) 
   (cG : w.cell? ⟨G, 0, none⟩ = some (.pointer (some ⟨P, 0, none⟩))) (hP : P < w.heap.size) (hr : w.rangeAt P 0 cs) :
    Calls Tryd.prog 40 #[.pointer (some ⟨M, 33, none⟩)] w (Cpd w n true cs) := by
  have hm := mk1
  obtain ⟨pc, hpc⟩ : ∃ pc, pc = pageOf cs := ⟨_, rfl⟩
  have HPC : Hid (∀ w, (Instr.build 109 #[(0, .agg cs.toArray)]).run Tryd.prog w = .ok (.agg pc) w) := by
    rw [hpc]; exact fun w => run_build w 109 _ _ (built109 cs hlen)
  have HP := Lib.hid (And.intro hpc hlen)
  clear hpc hlen
  have HH := Lib.hid (And.intro c34 (And.intro cG hr))
  clear cG hr
  go_enter Tryd.func40, Tryd.ntmps40
  go_upto_region 1 with fail
  go_cut [3] (fun u wx => CutC w n u wx)
  case first =>
    obtain ⟨w1, hw1⟩ : ∃ w1, w1 = w.alloc (.cells #[.int .u32 0, .slice none 0 0] 64) := ⟨_, rfl⟩
    have d33 : w1.cell? ⟨M, 33, none⟩ = some (.int .u32 n) := by rw [hw1]; exact (World.cell?_alloc_lt _ _ _ hM).trans c33
    have d34 : w1.cell? ⟨M, 34, none⟩ = some (.slice (some ⟨G, 0, none⟩) 1 1) := by rw [hw1]; exact (World.cell?_alloc_lt _ _ _ hM).trans c34
    have hM1 : M < w1.heap.size := by rw [hw1]; simp; omega
    have HW : Hid (w1.heap.size = w.heap.size + 1 ∧ Below w.heap.size w w1 ∧ w1.heap[w.heap.size]? = some (.cells #[.int .u32 0, .slice none 0 0] 64 (0, 0))) := by
      unfold Hid
      rw [hw1]
      exact ⟨by simp, (Below.refl _ _).alloc (Nat.le_refl _) _, heap_new _ _⟩
    rw [← hw1]
    clear hw1 c33 c34
    go_region_held3 (fun w' => w'.cell? ⟨M, 33, none⟩ = some (.int .u32 n) ∧ w'.cell? ⟨M, 34, none⟩ = some (.slice (some ⟨G, 0, none⟩) 1 1))
      (first | exact ⟨d33, d34⟩ | go_keep)
      (first | fail)
    · go_wp2_with fail
      go_meet
      case rel =>
        obtain ⟨hz, hb, hR⟩ := HW.out
        have h2 := heap_new (w1.alloc (.cells #[.pointer none] 105)) (.cells #[.int .u32 n, .slice (some ⟨w1.heap.size, 0, none⟩) 1 1] 64)
        rw [World.size_alloc] at h2
        exact ⟨w1.heap.size + 1, w1.heap.size, rfl, h2, (Below.heap_alloc _ _ _ (by simp)).trans (heap_new _ _), (Below.heap_alloc _ _ _ (by simp; omega)).trans ((Below.heap_alloc _ _ _ (by omega)).trans hR),
          ((hb.alloc (by omega) _).alloc (by simp; omega) _).drew, by omega, by omega⟩
    · go_wp2_with fail
      go_meet
      case rel =>
        obtain ⟨hz, hb, hR⟩ := HW.out
        have h2 := heap_new (w1.alloc (.cells #[.int .u32 n, .slice (some ⟨w1.heap.size + 1, 0, none⟩) 1 1] 64)) (.cells #[.pointer none] 105)
        rw [World.size_alloc] at h2
        exact ⟨w1.heap.size, w1.heap.size + 1, rfl, (Below.heap_alloc _ _ _ (by simp)).trans (heap_new _ _), h2, (Below.heap_alloc _ _ _ (by simp; omega)).trans ((Below.heap_alloc _ _ _ (by omega)).trans hR),
          ((hb.alloc (by omega) _).alloc (by simp; omega) _).drew, by omega, by omega⟩
  case rest =>
    obtain ⟨X, G2, rfl, bX, bG, bR, hB, hX, hG2⟩ := hcut
    have d34 := (hB.cell (p := ⟨M, 34, none⟩) hM).trans HH.out.1
    have dG := (hB.cell (p := ⟨G, 0, none⟩) hG).trans HH.out.2.1
    obtain ⟨x0, x1⟩ := cells2 bX
    have g0 := cell_of_one bG
    have fG := free_of_one bG
    have hd : wc.rangeAt P 0 cs := fun j v hv => (hB.cell (p := ⟨P, 0 + j, none⟩) hP).trans (HH.out.2.2 j v hv)
    have HB := Lib.hid (And.intro bX (And.intro bG (And.intro bR hB)))
    clear bX bG bR hB c33 c34
    go_wp2_with fail
    refine wp_loop_rounds 2 ?_
    rw [rounds_succ]
    go_upto_region 6 with fail
    have u106 := Tryd.underlying106
    have hlen := HP.out.2
    have hXz := lt_of_block HB.out.1
    have hGz := lt_of_block HB.out.2.1
    have hPz : P < wc.heap.size := Nat.lt_of_lt_of_le hP HB.out.2.2.2.size
    have hXG : X ≠ G2 := ne_kind HB.out.1 HB.out.2.1 (by decide)
    have hPG : P ≠ G2 := by omega
    have kC : ∀ O, (wc.alloc O).drew.cell? ⟨X, 1, none⟩ = some (.slice (some ⟨G2, 0, none⟩) 1 1) := fun O => (World.cell?_alloc_lt (a := ⟨X, 1, none⟩) _ _ hXz).trans x1
    have kR : ∀ O, (wc.alloc O).drew.rangeAt P 0 cs := fun O j v hv => (World.cell?_alloc_lt (a := ⟨P, 0 + j, none⟩) _ _ hPz).trans (hd j v hv)
    have hsz : ∀ v, (wc.setCell ⟨G2, 0, none⟩ v).heap.size = wc.heap.size := fun v => by simp [World.setCell]
    have k2C : ∀ v O, ((wc.setCell ⟨G2, 0, none⟩ v).alloc O).drew.cell? ⟨X, 1, none⟩ = some (.slice (some ⟨G2, 0, none⟩) 1 1) := fun v O =>
      (World.cell?_alloc_lt (a := ⟨X, 1, none⟩) _ _ (by rw [hsz]; exact hXz)).trans ((World.cell?_of_block (a := ⟨X, 1, none⟩) (Below.heap_setCell _ _ _ _ hXG)).trans x1)
    have k2R : ∀ v O, ((wc.setCell ⟨G2, 0, none⟩ v).alloc O).drew.rangeAt P 0 cs := fun v O j u hv =>
      (World.cell?_alloc_lt (a := ⟨P, 0 + j, none⟩) _ _ (by rw [hsz]; exact hPz)).trans ((World.cell?_of_block (a := ⟨P, 0 + j, none⟩) (Below.heap_setCell _ _ _ _ hPG)).trans (hd j u hv))
    have KK := Lib.hid (And.intro kC (And.intro kR (And.intro k2C k2R)))
    clear kC kR k2C k2R hsz
    go_region_held3 (fun w' => w'.cell? ⟨X, 1, none⟩ = some (.slice (some ⟨G2, 0, none⟩) 1 1) ∧ w'.rangeAt P 0 cs)
      (first | exact ⟨x1, hd⟩ | exact ⟨KK.out.1 _, KK.out.2.1 _⟩ | exact ⟨KK.out.2.2.1 _ _, KK.out.2.2.2 _ _⟩)
      (first | fail)
    obtain ⟨bX, bG, bR, hB⟩ := HB.out
    obtain ⟨O, hO⟩ : ∃ O, O = Obj.cells (List.foldl (fun (a : Array Value) x => a.setIfInBounds x.2 x.1) Tryd.zeroCells109 cs.zipIdx) 109 := ⟨_, rfl⟩
    obtain ⟨w6, hw6⟩ : ∃ w6, w6 = ((wc.setCell ⟨G2, 0, none⟩ (.pointer (some ⟨wc.heap.size, 0, none⟩))).alloc O).drew := ⟨_, rfl⟩
    have hc6 : Chg (fun k => k = G2) wc w6 := by rw [hw6]; exact (((Chg.refl (fun k => k = G2) wc).setCell ⟨G2, 0, none⟩ _ (Or.inl rfl)).alloc O).drew
    have bX6 := hc6.same bX hXG
    have hRG : w.heap.size ≠ G2 := by omega
    have bR6 := hc6.same bR hRG
    have bG6 : w6.heap[G2]? = some (.cells #[.pointer (some ⟨wc.heap.size, 0, none⟩)] 105 (0, 0)) := by
      rw [hw6]
      exact (Below.heap_alloc (wc.setCell ⟨G2, 0, none⟩ (.pointer (some ⟨wc.heap.size, 0, none⟩))) O G2 (by rw [show (wc.setCell ⟨G2, 0, none⟩ (.pointer (some ⟨wc.heap.size, 0, none⟩))).heap.size = wc.heap.size by simp [World.setCell]]; exact hGz)).trans (one_setCell bG)
    have bP6 : w6.heap[wc.heap.size]? = some (.cells (pageOf cs) 109 (0, 0)) := by
      have := heap_new (wc.setCell ⟨G2, 0, none⟩ (.pointer (some ⟨wc.heap.size, 0, none⟩))) O
      rw [show (wc.setCell ⟨G2, 0, none⟩ (.pointer (some ⟨wc.heap.size, 0, none⟩))).heap.size = wc.heap.size by simp [World.setCell]] at this
      rw [hw6]
      refine Eq.trans this ?_
      rw [hO, fold_page cs _ hlen Tryd.zeroCells109_size zlast109]
    have hB6 : Below w.heap.size w w6 := hB.trans ((hc6.below hB.size (fun i e => by omega)))
    rw [← hO, ← hw6]
    clear hO hw6 hc6 x0 x1 g0 fG hd d34 dG KK
    obtain ⟨x0, x1⟩ := cells2 bX6
    obtain ⟨r0, r1⟩ := cells2 bR6
    have f0 := freeF bR6 0
    have f1 := freeF bR6 1
    have H6 := Lib.hid (And.intro bX6 (And.intro bR6 (And.intro bG6 (And.intro bP6 hB6))))
    have hq := Lib.hid hB.size
    clear bX6 bR6 bG6 bP6 hB6 bX bG bR hB hlen u106
    go_wp2_with fail
    rw [rounds_succ]
    go_wp2_with fail
    obtain ⟨bX6, bR6, bG6, bP6, hB6⟩ := H6.out
    have hs := setTwo bR6 (.int .u32 n) (.slice (some ⟨G2, 0, none⟩) 1 1)
    obtain ⟨wz, hwz⟩ : ∃ wz, wz = (w6.setCell ⟨w.heap.size, 0, none⟩ (.int .u32 n)).setCell ⟨w.heap.size, 1, none⟩ (.slice (some ⟨G2, 0, none⟩) 1 1) := ⟨_, rfl⟩
    rw [← hwz] at hs ⊢
    obtain ⟨z0, z1⟩ := cells2 hs.1
    refine bodyPost_ret (v := .agg #[.int .u32 n, .slice (some ⟨G2, 0, none⟩) 1 1]) (by simp [results, Tryd.results40, go_sem, z0, z1]) rfl ?_
    refine ⟨G2, some wc.heap.size, rfl, rfl, hB6.trans (hs.2.below hB6.size (fun i e => by omega)), hs.2.same bG6 (by omega), by omega, ?_, ?_⟩
    · intro P hP; cases hP; exact hq.out
    · intro P hP; cases hP; exact hs.2.same bP6 (by have := hq.out; have := lt_of_block HB.out.2.2.1; omega)

set_option maxRecDepth 100000 in
set_option maxHeartbeats 4000000 in
theorem copied_none (M G n : Nat) (cs : List Value) (w : World) (c33 : w.cell? ⟨M, 33, none⟩ = some (.int .u32 n)) (c34 : w.cell? ⟨M, 34, none⟩ = some (.slice (some ⟨G, 0, none⟩) 1 1)) (hM : M < w.heap.size) (hG : G < w.heap.size)
   (cG : w.cell? ⟨G, 0, none⟩ = some (.pointer none)) :
    Calls Tryd.prog 40 #[.pointer (some ⟨M, 33, none⟩)] w (Cpd w n false cs) := by
  have hm := mk1
  have HH := Lib.hid (And.intro c34 cG)
  clear cG
  go_enter Tryd.func40, Tryd.ntmps40
  go_upto_region 1 with fail
  go_cut [3] (fun u wx => CutC w n u wx)
  case first =>
    obtain ⟨w1, hw1⟩ : ∃ w1, w1 = w.alloc (.cells #[.int .u32 0, .slice none 0 0] 64) := ⟨_, rfl⟩
    have d33 : w1.cell? ⟨M, 33, none⟩ = some (.int .u32 n) := by rw [hw1]; exact (World.cell?_alloc_lt _ _ _ hM).trans c33
    have d34 : w1.cell? ⟨M, 34, none⟩ = some (.slice (some ⟨G, 0, none⟩) 1 1) := by rw [hw1]; exact (World.cell?_alloc_lt _ _ _ hM).trans c34
    have hM1 : M < w1.heap.size := by rw [hw1]; simp; omega
    have HW : Hid (w1.heap.size = w.heap.size + 1 ∧ Below w.heap.size w w1 ∧ w1.heap[w.heap.size]? = some (.cells #[.int .u32 0, .slice none 0 0] 64 (0, 0))) := by
      unfold Hid
      rw [hw1]
      exact ⟨by simp, (Below.refl _ _).alloc (Nat.le_refl _) _, heap_new _ _⟩
    rw [← hw1]
    clear hw1 c33 c34
    go_region_held3 (fun w' => w'.cell? ⟨M, 33, none⟩ = some (.int .u32 n) ∧ w'.cell? ⟨M, 34, none⟩ = some (.slice (some ⟨G, 0, none⟩) 1 1))
      (first | exact ⟨d33, d34⟩ | go_keep)
      (first | fail)
    · go_wp2_with fail
      go_meet
      case rel =>
        obtain ⟨hz, hb, hR⟩ := HW.out
        have h2 := heap_new (w1.alloc (.cells #[.pointer none] 105)) (.cells #[.int .u32 n, .slice (some ⟨w1.heap.size, 0, none⟩) 1 1] 64)
        rw [World.size_alloc] at h2
        exact ⟨w1.heap.size + 1, w1.heap.size, rfl, h2, (Below.heap_alloc _ _ _ (by simp)).trans (heap_new _ _), (Below.heap_alloc _ _ _ (by simp; omega)).trans ((Below.heap_alloc _ _ _ (by omega)).trans hR),
          ((hb.alloc (by omega) _).alloc (by simp; omega) _).drew, by omega, by omega⟩
    · go_wp2_with fail
      go_meet
      case rel =>
        obtain ⟨hz, hb, hR⟩ := HW.out
        have h2 := heap_new (w1.alloc (.cells #[.int .u32 n, .slice (some ⟨w1.heap.size + 1, 0, none⟩) 1 1] 64)) (.cells #[.pointer none] 105)
        rw [World.size_alloc] at h2
        exact ⟨w1.heap.size, w1.heap.size + 1, rfl, (Below.heap_alloc _ _ _ (by simp)).trans (heap_new _ _), h2, (Below.heap_alloc _ _ _ (by simp; omega)).trans ((Below.heap_alloc _ _ _ (by omega)).trans hR),
          ((hb.alloc (by omega) _).alloc (by simp; omega) _).drew, by omega, by omega⟩
  case rest =>
    obtain ⟨X, G2, rfl, bX, bG, bR, hB, hX, hG2⟩ := hcut
    have d34 := (hB.cell (p := ⟨M, 34, none⟩) hM).trans HH.out.1
    have dG := (hB.cell (p := ⟨G, 0, none⟩) hG).trans HH.out.2
    obtain ⟨x0, x1⟩ := cells2 bX
    obtain ⟨r0, r1⟩ := cells2 bR
    have f0 := freeF bR 0
    have f1 := freeF bR 1
    have HB := Lib.hid (And.intro bX (And.intro bG (And.intro bR hB)))
    clear bX bG bR hB c33 c34
    go_wp2_with fail
    refine wp_loop_rounds 2 ?_
    rw [rounds_succ]
    go_wp2_with fail
    rw [rounds_succ]
    go_wp2_with fail
    obtain ⟨bX, bG, bR, hB⟩ := HB.out
    have hs := setTwo bR (.int .u32 n) (.slice (some ⟨G2, 0, none⟩) 1 1)
    obtain ⟨wz, hwz⟩ : ∃ wz, wz = (wc.setCell ⟨w.heap.size, 0, none⟩ (.int .u32 n)).setCell ⟨w.heap.size, 1, none⟩ (.slice (some ⟨G2, 0, none⟩) 1 1) := ⟨_, rfl⟩
    rw [← hwz] at hs ⊢
    obtain ⟨z0, z1⟩ := cells2 hs.1
    refine bodyPost_ret (v := .agg #[.int .u32 n, .slice (some ⟨G2, 0, none⟩) 1 1]) (by simp [results, Tryd.results40, go_sem, z0, z1]) rfl ?_
    refine ⟨G2, none, rfl, rfl, hB.trans (hs.2.below hB.size (fun i e => by omega)), hs.2.same bG (by omega), by omega, ?_, ?_⟩
    · intro P hP; cases hP
    · intro P hP; cases hP
end Go.Proofs.YtknnmacmohpanaaDoor
