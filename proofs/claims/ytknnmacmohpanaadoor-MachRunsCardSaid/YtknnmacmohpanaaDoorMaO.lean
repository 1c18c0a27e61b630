/- Contracts: New. Conditions: words and input read as told; the memory has one page at most. -/
import Derived.Test.YtknnmacmohpanaaDoorMaN
namespace Go.Proofs.YtknnmacmohpanaaDoor
open Go.RowKit

/-- A machine that is new. -/
def MS.new (ws : List Int) (size : Nat) (inp : List Int) : MS := ⟨fun _ => 0, size, fun i => ws.getD i 0, 0, 0, 0, 0, 0, inp, []⟩
/-- A slice of words, or of bytes, that reads as told. -/
def WRead (w : World) (v : Value) (ws : List Int) : Prop :=
  (ws = [] ∧ ∃ p c, v = .slice p 0 c) ∨ (ws ≠ [] ∧ ∃ ad c, v = .slice (some ad) ws.length c ∧ ws.length ≤ c ∧ c ≤ 9223372036854775807 ∧ ∀ j u, (byW ws)[j]? = some u → w.cell? (ad.add j) = some u)
def BRead (w : World) (v : Value) (bs : List Int) : Prop :=
  (bs = [] ∧ v = .slice none 0 0) ∨ ∃ ad c, v = .slice (some ad) bs.length c ∧ ∀ j u, (byL bs)[j]? = some u → w.cell? (ad.add j) = some u
theorem WRead.below {w w' : World} {v : Value} {ws : List Int} (h : WRead w v ws) (hb : Below w.heap.size w w') : WRead w' v ws := by
  rcases h with h | ⟨hne, ad, c, hv, hc, hm, hr⟩
  · exact Or.inl h
  · exact Or.inr ⟨hne, ad, c, hv, hc, hm, fun j u hj => (hb.cell (World.block_lt_of_cell? w _ (hr j u hj))).trans (hr j u hj)⟩
theorem BRead.below {w w' : World} {v : Value} {ws : List Int} (h : BRead w v ws) (hb : Below w.heap.size w w') : BRead w' v ws := by
  rcases h with h | ⟨ad, c, hv, hr⟩
  · exact Or.inl h
  · exact Or.inr ⟨ad, c, hv, fun j u hj => (hb.cell (World.block_lt_of_cell? w _ (hr j u hj))).trans (hr j u hj)⟩

theorem newMem_at (v : Value) (n : Nat) (ws : List Int) (w : World) (hr : WRead w v ws) (hkn : ws.length ≤ n) (hn : n ≤ 1024) (h1 : 1 ≤ n) :
    Calls Tryd.prog 49 #[v, .int .i64 n] w fun e w' => ∃ pg, e = .returned (.agg #[.int .u32 n, .slice (some ⟨w.heap.size + 1, 0, none⟩) 1 1]) ∧ NMem w w' (w.heap.size + 1) pg ws := by
  rcases hr with ⟨rfl, p, c, rfl⟩ | ⟨hne, ad, c, rfl, hc, hm, hw⟩
  · exact (newMem_nil p c n w hn h1).mono fun e w' h => ⟨_, h⟩
  · exact (newMem_some ad c n ws w hne hkn hn h1 hc hm hw).mono fun e w' h => ⟨_, h⟩

/-- What Clone leaves, as an input. -/
theorem InRep.of_own {w : World} {base : Nat} {v : Value} {l : List Int} (hl : l.length ≤ 1000000) (h : w.ownsRow base 5 1 v l.length (byL l)) : InRep w v l ∧ ∀ k, inB v = some k → base ≤ k ∧ k < w.heap.size := by
  have hlt := h.lt
  rcases h.2 with ⟨rfl, h0⟩ | ⟨g, cap, cur, rfl, hb, hg, hnc, hcm, hcs, htake⟩
  · exact ⟨Or.inl ⟨List.eq_nil_of_length_eq_zero h0, _, _, rfl⟩, fun k hk => by cases hk⟩
  · refine ⟨?_, fun k hk => hlt k ?_⟩
    · cases l with
      | nil => exact Or.inl ⟨rfl, _, _, rfl⟩
      | cons x r =>
        refine Or.inr ⟨g, 0, cap, cur, rfl, by simp, hnc, by unfold maxLen at hcm; omega, hg, fun j hj => ?_⟩
        have h1 := h.1
        have e : (byL (x :: r))[j]? = some (.int .u8 ((x :: r).getD j 0)) := by
          unfold byL
          rw [List.getElem?_map, List.getElem?_eq_getElem hj]
          simp [List.getD, List.getElem?_eq_getElem hj]
        rw [← htake] at e
        rw [Nat.zero_add, ← Array.getElem?_toList]
        rw [List.getElem?_take] at e
        split at e
        · exact e
        · cases e
    · cases l with
      | nil => cases hk
      | cons x r => exact hk
theorem clone_at (v : Value) (bs : List Int) (w : World) (hl : bs.length ≤ 1000000) (h : BRead w v bs) :
    Calls Tryd.prog 41 #[v] w fun e w' => ∃ v', e = .returned v' ∧ w'.ownsRow w.heap.size 5 1 v' bs.length (byL bs) ∧ Below w.heap.size w w' := by
  rcases h with ⟨rfl, rfl⟩ | ⟨ad, c, rfl, hc⟩
  · exact (clone_nil w).mono fun e w' ⟨he, hw⟩ => ⟨_, he, hw ▸ World.ownsRow_nil _ _ _ _, hw ▸ Below.refl _ _⟩
  · exact clone_some ad c bs w hl hc
theorem cells42g (l : Lay) (m : MS) : cellsF 42 (mcell l m) = #[.pointer (some ⟨l.M, 0, none⟩), .int .u32 (m.regs 0), .int .u32 (m.regs 1), .int .u32 (m.regs 2), .int .u32 (m.regs 3), .int .u32 (m.regs 4), .int .u32 (m.regs 5), .int .u32 (m.regs 6), .int .u32 (m.regs 7), .int .u32 (m.regs 8), .int .u32 (m.regs 9), .int .u32 (m.regs 10), .int .u32 (m.regs 11), .int .u32 (m.regs 12), .int .u32 (m.regs 13), .int .u32 (m.regs 14), .int .u32 (m.regs 15), .int .u32 (m.regs 16), .int .u32 (m.regs 17), .int .u32 (m.regs 18), .int .u32 (m.regs 19), .int .u32 (m.regs 20), .int .u32 (m.regs 21), .int .u32 (m.regs 22), .int .u32 (m.regs 23), .int .u32 (m.regs 24), .int .u32 (m.regs 25), .int .u32 (m.regs 26), .int .u32 (m.regs 27), .int .u32 (m.regs 28), .int .u32 (m.regs 29), .int .u32 (m.regs 30), .int .u32 (m.regs 31), .int .u32 m.size, .slice (some ⟨l.G, 0, none⟩) 1 1, .int .u32 m.place, .int .i64 m.state, .int .u32 m.code, .int .i64 m.trap, .int .i64 m.steps, l.vi, l.vo] := by
  obtain ⟨regs, size, mem, place, state, code, trap, steps, inp, out⟩ := m
  apply Array.ext_getElem?
  intro i
  by_cases hi : i < 42
  · rw [cellsF_get hi]
    match i, hi with
    | 0, _ => rfl
    | 1, _ => rfl
    | 2, _ => rfl
    | 3, _ => rfl
    | 4, _ => rfl
    | 5, _ => rfl
    | 6, _ => rfl
    | 7, _ => rfl
    | 8, _ => rfl
    | 9, _ => rfl
    | 10, _ => rfl
    | 11, _ => rfl
    | 12, _ => rfl
    | 13, _ => rfl
    | 14, _ => rfl
    | 15, _ => rfl
    | 16, _ => rfl
    | 17, _ => rfl
    | 18, _ => rfl
    | 19, _ => rfl
    | 20, _ => rfl
    | 21, _ => rfl
    | 22, _ => rfl
    | 23, _ => rfl
    | 24, _ => rfl
    | 25, _ => rfl
    | 26, _ => rfl
    | 27, _ => rfl
    | 28, _ => rfl
    | 29, _ => rfl
    | 30, _ => rfl
    | 31, _ => rfl
    | 32, _ => rfl
    | 33, _ => rfl
    | 34, _ => rfl
    | 35, _ => rfl
    | 36, _ => rfl
    | 37, _ => rfl
    | 38, _ => rfl
    | 39, _ => rfl
    | 40, _ => rfl
    | 41, _ => rfl
    | k + 42, h => exact absurd h (by omega)
  · rw [Array.getElem?_eq_none (by rw [cellsF_size]; omega), Array.getElem?_eq_none (by simp; omega)]
theorem cells42 (l : Lay) (m : MS) (hr : ∀ i, m.regs i = 0) : cellsF 42 (mcell l m) = #[.pointer (some ⟨l.M, 0, none⟩), .int .u32 0, .int .u32 0, .int .u32 0, .int .u32 0, .int .u32 0, .int .u32 0, .int .u32 0, .int .u32 0, .int .u32 0, .int .u32 0, .int .u32 0, .int .u32 0, .int .u32 0, .int .u32 0, .int .u32 0, .int .u32 0, .int .u32 0, .int .u32 0, .int .u32 0, .int .u32 0, .int .u32 0, .int .u32 0, .int .u32 0, .int .u32 0, .int .u32 0, .int .u32 0, .int .u32 0, .int .u32 0, .int .u32 0, .int .u32 0, .int .u32 0, .int .u32 0, .int .u32 m.size, .slice (some ⟨l.G, 0, none⟩) 1 1, .int .u32 m.place, .int .i64 m.state, .int .u32 m.code, .int .i64 m.trap, .int .i64 m.steps, l.vi, l.vo] := by
  rw [cells42g]
  simp only [hr]
theorem new_end {w w1 w2 : World} {n : Nat} {ws bs : List Int} {pg : Option Nat} {vi : Value} (hn : n ≤ 1024) (h1 : 1 ≤ n) (hl : bs.length ≤ 1000) (hws : ∀ x ∈ ws, 0 ≤ x ∧ x < 4294967296) (hbs : ∀ x ∈ bs, 0 ≤ x ∧ x < 256)
    (hN : NMem w w1 (w.heap.size + 1) pg ws) (hO : w2.ownsRow w1.heap.size 5 1 vi bs.length (byL bs)) (hb2 : Below w1.heap.size w1 w2) :
    ∃ l : Lay, Ending.returned (.tuple #[.pointer (some ⟨w2.heap.size, 0, none⟩), .int .i64 0]) = .returned (.tuple #[.pointer (some ⟨l.M, 0, none⟩), .int .i64 0]) ∧
      MRep w.heap.size (w2.alloc (.cells #[.pointer (some ⟨w2.heap.size, 0, none⟩), .int .u32 0, .int .u32 0, .int .u32 0, .int .u32 0, .int .u32 0, .int .u32 0, .int .u32 0, .int .u32 0, .int .u32 0, .int .u32 0, .int .u32 0, .int .u32 0, .int .u32 0, .int .u32 0, .int .u32 0, .int .u32 0, .int .u32 0, .int .u32 0, .int .u32 0, .int .u32 0, .int .u32 0, .int .u32 0, .int .u32 0, .int .u32 0, .int .u32 0, .int .u32 0, .int .u32 0, .int .u32 0, .int .u32 0, .int .u32 0, .int .u32 0, .int .u32 0, .int .u32 n, .slice (some ⟨w.heap.size + 1, 0, none⟩) 1 1, .int .u32 0, .int .i64 0, .int .u32 0, .int .i64 0, .int .i64 0, vi, .slice none 0 0] 66)) l (MS.new ws n bs) ∧
      Below w.heap.size w (w2.alloc (.cells #[.pointer (some ⟨w2.heap.size, 0, none⟩), .int .u32 0, .int .u32 0, .int .u32 0, .int .u32 0, .int .u32 0, .int .u32 0, .int .u32 0, .int .u32 0, .int .u32 0, .int .u32 0, .int .u32 0, .int .u32 0, .int .u32 0, .int .u32 0, .int .u32 0, .int .u32 0, .int .u32 0, .int .u32 0, .int .u32 0, .int .u32 0, .int .u32 0, .int .u32 0, .int .u32 0, .int .u32 0, .int .u32 0, .int .u32 0, .int .u32 0, .int .u32 0, .int .u32 0, .int .u32 0, .int .u32 0, .int .u32 0, .int .u32 n, .slice (some ⟨w.heap.size + 1, 0, none⟩) 1 1, .int .u32 0, .int .i64 0, .int .u32 0, .int .i64 0, .int .i64 0, vi, .slice none 0 0] 66)) := by
  have hs1 := hN.below.size
  have hs2 := hb2.size
  have hB2 := hN.below.trans (hb2.mono hs1)
  have hI := InRep.of_own (by omega) hO
  refine ⟨⟨w2.heap.size, w.heap.size + 1, pg, none, vi, .slice none 0 0⟩, rfl, ?_, hB2.alloc (by omega) _⟩
  have hc := cells42 ⟨w2.heap.size, w.heap.size + 1, pg, none, vi, .slice none 0 0⟩ (MS.new ws n bs) (fun _ => rfl)
  obtain ⟨O, hOe⟩ : ∃ O, O = Obj.cells (cellsF 42 (mcell ⟨w2.heap.size, w.heap.size + 1, pg, none, vi, .slice none 0 0⟩ (MS.new ws n bs))) 66 := ⟨_, rfl⟩
  have hO2 := hOe
  rw [hc] at hO2
  have hO3 : MRep w.heap.size (w2.alloc O) ⟨w2.heap.size, w.heap.size + 1, pg, none, vi, .slice none 0 0⟩ (MS.new ws n bs) := by
    have hbA : Below w2.heap.size w2 (w2.alloc O) := (Below.refl _ _).alloc (Nat.le_refl _) _
    refine ⟨⟨fun _ => ⟨Int.le_refl _, show (0 : Int) < 4294967296 by decide⟩, rfl, ⟨h1, hn⟩, fun i => ?_, ⟨Int.le_refl _, show (0 : Int) < 4294967296 by decide⟩, ⟨Int.le_refl _, show (0 : Int) ≤ 2 by decide⟩, ⟨Int.le_refl _, show (0 : Int) < 4294967296 by decide⟩, ⟨Int.le_refl _, show (0 : Int) ≤ 4 by decide⟩, Int.le_refl _, hbs, by show bs.length ≤ 1024; omega, fun x hx => by cases hx⟩, ?_, ?_, ?_, ?_, ?_, ?_, ?_, ?_, ?_⟩
    · show 0 ≤ ws.getD i 0 ∧ ws.getD i 0 < 4294967296
      by_cases hi : i < ws.length
      · have e : ws.getD i 0 = ws[i] := by simp [List.getD, List.getElem?_eq_getElem hi]
        rw [e]
        exact hws _ (List.getElem_mem ..)
      · have e : ws.getD i 0 = 0 := by simp [List.getD, List.getElem?_eq_none (show ws.length ≤ i by omega)]
        rw [e]
        decide
    · rw [hOe]; exact heap_new _ _
    · exact (hbA.block _ (Nat.lt_of_lt_of_le (lt_of_block hN.dir) hs2)).trans ((hb2.block _ (lt_of_block hN.dir)).trans hN.dir)
    · intro P hP
      have hp := hN.pag P hP
      have := (hbA.block _ (Nat.lt_of_lt_of_le (lt_of_block hp) hs2)).trans ((hb2.block _ (lt_of_block hp)).trans hp)
      rw [this]
      rfl
    · intro hp
      refine ⟨rfl, fun i => ?_⟩
      show ws.getD i 0 = 0
      rw [hN.nop hp]
      rfl
    · intro I hI'; cases hI'
    · exact hI.1.kept fun k hk => hbA.block k (hI.2 k hk).2
    · exact World.ownsRow_nil _ _ _ _
    · show inB vi = none ∨ inB vi ≠ none
      exact Classical.em _
    · intro k hk
      rcases hk with e | e | e | e | e | e
      · have e' : k = w2.heap.size := e; omega
      · have e' : k = w.heap.size + 1 := e; omega
      · exact hN.leP k e
      · cases e
      · have := (hI.2 k e).1; omega
      · cases e
  rw [hO2] at hO3
  exact hO3

set_option maxRecDepth 100000 in
set_option maxHeartbeats 4000000 in
theorem new_ok (vw vb : Value) (n : Nat) (ws bs : List Int) (w : World) (hw : WRead w vw ws) (hb : BRead w vb bs) (hkn : ws.length ≤ n) (hn : n ≤ 1024) (h1 : 1 ≤ n) (hl : bs.length ≤ 1000) (hws : ∀ x ∈ ws, 0 ≤ x ∧ x < 4294967296) (hbs : ∀ x ∈ bs, 0 ≤ x ∧ x < 256) :
    Calls Tryd.prog 27 #[vw, .int .i64 n, vb] w fun e w' => ∃ l, e = .returned (.tuple #[.pointer (some ⟨l.M, 0, none⟩), .int .i64 0]) ∧ MRep w.heap.size w' l (MS.new ws n bs) ∧ Below w.heap.size w w' := by
  have HW := Lib.hid (And.intro hw hb)
  have hlen : ∃ p c, vw = .slice p ws.length c := by
    rcases hw with ⟨h0, p, c, h⟩ | ⟨-, ad, c, h, -⟩
    · exact ⟨p, c, by rw [h, h0]; rfl⟩
    · exact ⟨some ad, c, h⟩
  obtain ⟨p, c, rfl⟩ := hlen
  have hd1 : decide ((n : Int) < 1) = false := by simp; omega
  have hd2 : decide ((n : Int) < (ws.length : Int)) = false := by simp; omega
  clear hw hb
  go_enter Tryd.func27, Tryd.ntmps27
  go_wp2_with fail
  refine (newMem_at _ n ws w HW.out.1 hkn hn h1).mono ?_
  rintro e w1 ⟨pg, rfl, hN⟩
  have HN := Lib.hid hN
  have hz1 : w.heap.size + 1 < w1.heap.size := lt_of_block hN.dir
  clear hN
  go_wp2_with fail
  refine (clone_at _ bs w1 (by omega) (HW.out.2.below HN.out.below)).mono ?_
  rintro e w2 ⟨v', rfl, hO, hb2⟩
  have hv : ∃ a k c, v' = .slice a k c := by
    rcases hO.2 with ⟨h, -⟩ | ⟨g, cap, cur, h, -⟩ <;> exact ⟨_, _, _, h⟩
  obtain ⟨a, k, c2, rfl⟩ := hv
  have H2 := Lib.hid (And.intro hO hb2)
  have hz2 : w1.heap.size ≤ w2.heap.size := hb2.size
  clear hO hb2
  go_wp2_with fail
  go_ret2
  exact new_end hn h1 hl hws hbs HN.out H2.out.1 H2.out.2
end Go.Proofs.YtknnmacmohpanaaDoor
