/- Contracts: Decode. Conditions: the tables are as laid. -/
import Derived.Test.YticleblhmkikaaaDoorIsaWd
import Derived.Test.YticleblhmkikaaaDoorIsaWe
import Derived.Test.YticleblhmkikaaaDoorIsaSc
import Derived.Deep.DeepCutAuto
import Derived.Deep.CutBlock
namespace Go.Proofs.YticleblhmkikaaaDoor
open Go.RowKit

/-- Decode's blocks: the word that is left, the result, the bits that are left, the instruction. -/
structure Sd (W : World) (A R L X : Nat) (op d a b imm left v : Int) (w : World) : Prop where
  below : Below W.heap.size W w
  wv : w.heap[A]? = some (.cells #[.int .u32 v] 42 (0, 0))
  res : w.heap[R]? = some (.cells #[.int .i64 0, .int .i64 0, .int .i64 0, .int .i64 0, .int .i64 0] 41 (0, 0))
  left : w.heap[L]? = some (.cells #[.int .i64 left] 3 (0, 0))
  inst : w.heap[X]? = some (.cells #[.int .i64 op, .int .i64 d, .int .i64 a, .int .i64 b, .int .i64 imm] 41 (0, 0))
  le : W.heap.size ≤ A
  l1 : A < R
  l2 : R < L
  l3 : L < X
  l4 : X < w.heap.size
theorem Sd.take {W : World} {A R L X : Nat} {op d a b imm left v left2 v2 : Int} {w w2 : World} (s : Sd W A R L X op d a b imm left v w) (t : Two A L (.int .u32 v2) (.int .i64 left2) 42 3 w w2) : Sd W A R L X op d a b imm left2 v2 w2 :=
  have q0 := s.le; have q1 := s.l1; have q2 := s.l2; have q3 := s.l3; have q4 := s.l4
  ⟨s.below.trans (t.below q0 (by omega)), t.first, (t.other _ (by omega) (by omega)).trans s.res, t.second, (t.other _ (by omega) (by omega)).trans s.inst, q0, q1, q2, q3, by rw [t.size]; exact q4⟩
theorem Sd.grow {W : World} {A R L X : Nat} {op d a b imm left v : Int} {w w2 : World} (s : Sd W A R L X op d a b imm left v w) (hb : Below w.heap.size w w2) : Sd W A R L X op d a b imm left v w2 :=
  have q0 := s.le; have q1 := s.l1; have q2 := s.l2; have q3 := s.l3; have q4 := s.l4
  ⟨s.below.trans (hb.mono s.below.size), (hb.block _ (by omega)).trans s.wv, (hb.block _ (by omega)).trans s.res, (hb.block _ (by omega)).trans s.left, (hb.block _ (by omega)).trans s.inst, q0, q1, q2, q3, Nat.lt_of_lt_of_le q4 hb.size⟩
theorem setCell_block {w : World} {b i : Nat} {cs : Array Value} {t : Nat} {fr : Nat × Nat} {x : Value} (h : w.heap[b]? = some (.cells cs t fr)) (hi : i < cs.size) : (w.setCell ⟨b, i, none⟩ x).heap[b]? = some (.cells (cs.setIfInBounds i x) t fr) := by
  have hlt := lt_of_block h
  have h' : w.heap[b] = .cells cs t fr := by simpa [Array.getElem?_eq_getElem hlt] using h
  show (w.heap.modify b _)[b]? = _
  rw [Array.getElem?_eq_getElem (by simpa using hlt), Array.getElem_modify_self, h']
  simp [Array.setIfInBounds, hi]
theorem Sd.store {W : World} {A R L X : Nat} {op d a b imm left v : Int} {w : World} (s : Sd W A R L X op d a b imm left v w) (i : Nat) (x : Int) {op2 d2 a2 b2 imm2 : Int} (hi : i < 5)
    (he : (#[Value.int .i64 op, Value.int .i64 d, Value.int .i64 a, Value.int .i64 b, Value.int .i64 imm] : Array Value).setIfInBounds i (.int .i64 x) = #[.int .i64 op2, .int .i64 d2, .int .i64 a2, .int .i64 b2, .int .i64 imm2]) :
    Sd W A R L X op2 d2 a2 b2 imm2 left v (w.setCell ⟨X, i, none⟩ (.int .i64 x)) :=
  have q0 := s.le; have q1 := s.l1; have q2 := s.l2; have q3 := s.l3; have q4 := s.l4
  ⟨s.below.setCell (by show W.heap.size ≤ X; omega) _, (Below.heap_setCell _ _ _ _ (by show _ ≠ X; omega)).trans s.wv, (Below.heap_setCell _ _ _ _ (by show _ ≠ X; omega)).trans s.res,
    (Below.heap_setCell _ _ _ _ (by show _ ≠ X; omega)).trans s.left, by rw [← he]; exact setCell_block s.inst (by simpa using hi), q0, q1, q2, q3, by simp [World.setCell]; exact q4⟩
theorem Sd.drew {W : World} {A R L X : Nat} {op d a b imm left v : Int} {w : World} (s : Sd W A R L X op d a b imm left v w) : Sd W A R L X op d a b imm left v w.drew :=
  ⟨s.below.drew, s.wv, s.res, s.left, s.inst, s.le, s.l1, s.l2, s.l3, s.l4⟩
theorem frozen5 {w : World} {b t : Nat} {cs : Array Value} (h : w.heap[b]? = some (.cells cs t (0, 0))) : ∀ i, w.frozen? ⟨b, i, none⟩ = false := by
  intro i; simp [World.frozen?, h]
theorem Sd.facts {W : World} {A R L X : Nat} {op d a b imm left v : Int} {w : World} {x0 x1 x2 : Bool} (s : Sd W A R L X op d a b imm left v w) (h : Env W) (e0 : Isa.shape (Isa.form op) 0 = x0) (e1 : Isa.shape (Isa.form op) 1 = x1) (e2 : Isa.shape (Isa.form op) 2 = x2) :
    w.cell? ⟨X, 0, none⟩ = some (.int .i64 op) ∧ w.cell? ⟨X, 1, none⟩ = some (.int .i64 d) ∧ w.cell? ⟨X, 2, none⟩ = some (.int .i64 a) ∧ w.cell? ⟨X, 3, none⟩ = some (.int .i64 b) ∧ w.cell? ⟨X, 4, none⟩ = some (.int .i64 imm) ∧
    w.cell? ⟨0, Isa.form op * 4, none⟩ = some (.bool x0) ∧ w.cell? ⟨0, Isa.form op * 4 + 1, none⟩ = some (.bool x1) ∧ w.cell? ⟨0, Isa.form op * 4 + 2, none⟩ = some (.bool x2) ∧
    w.cell? ⟨L, 0, none⟩ = some (.int .i64 left) ∧ w.frozen? ⟨X, 1, none⟩ = false ∧ w.frozen? ⟨X, 2, none⟩ = false ∧ w.frozen? ⟨X, 3, none⟩ = false ∧ w.frozen? ⟨X, 4, none⟩ = false := by
  have hl := Isa.form_le op
  have he := h.below s.below
  obtain ⟨c0, c1, c2, c3, c4⟩ := cells5 s.inst
  subst e0 e1 e2
  exact ⟨c0, c1, c2, c3, c4, he.shapes _ 0 (by omega) (by omega), he.shapes _ 1 (by omega) (by omega), he.shapes _ 2 (by omega) (by omega), cell_of_one s.left, frozen5 s.inst 1, frozen5 s.inst 2, frozen5 s.inst 3, frozen5 s.inst 4⟩
theorem Sd.facts2 {W : World} {A R L X : Nat} {op d a b imm left v : Int} {w : World} (s : Sd W A R L X op d a b imm left v w) :
    (w.cell? ⟨R, 0, none⟩ = some (.int .i64 0) ∧ w.cell? ⟨R, 1, none⟩ = some (.int .i64 0) ∧ w.cell? ⟨R, 2, none⟩ = some (.int .i64 0) ∧ w.cell? ⟨R, 3, none⟩ = some (.int .i64 0) ∧ w.cell? ⟨R, 4, none⟩ = some (.int .i64 0)) ∧
    (w.frozen? ⟨R, 0, none⟩ = false ∧ w.frozen? ⟨R, 1, none⟩ = false ∧ w.frozen? ⟨R, 2, none⟩ = false ∧ w.frozen? ⟨R, 3, none⟩ = false ∧ w.frozen? ⟨R, 4, none⟩ = false) :=
  ⟨cells5 s.res, frozen5 s.res 0, frozen5 s.res 1, frozen5 s.res 2, frozen5 s.res 3, frozen5 s.res 4⟩

/-- What Decode answers. -/
def Dec (op d a b imm : Int) (e : Ending) : Prop :=
  e = .returned (if Isa.ok op d a b imm = true then .tuple #[.agg #[.int .i64 op, .int .i64 d, .int .i64 a, .int .i64 b, .int .i64 imm], .int .i64 0] else .tuple #[.agg #[.int .i64 0, .int .i64 0, .int .i64 0, .int .i64 0, .int .i64 0], .int .i64 11])
theorem dec_ok {op d a b imm : Int} (h : Isa.ok op d a b imm = true) : Dec op d a b imm (.returned (.tuple #[.agg #[.int .i64 op, .int .i64 d, .int .i64 a, .int .i64 b, .int .i64 imm], .int .i64 0])) := by unfold Dec; rw [if_pos h]
theorem dec_bad {op d a b imm : Int} (h : Isa.ok op d a b imm = false) : Dec op d a b imm (.returned (.tuple #[.agg #[.int .i64 0, .int .i64 0, .int .i64 0, .int .i64 0, .int .i64 0], .int .i64 11])) := by unfold Dec; rw [if_neg (by rw [h]; decide)]
/-- The bits that are left behind the registers, and the size of what they hold. -/
def Lefts (left size : Int) : Prop := (left = 11 ∧ size = 2048) ∨ (left = 16 ∧ size = 65536) ∨ (left = 21 ∧ size = 2097152) ∨ (left = 26 ∧ size = 67108864)
theorem take_last (v left size : Int) (A L : Nat) (w : World) (hne : A ≠ L) (hl : Lefts left size)
    (cA : w.heap[A]? = some (.cells #[.int .u32 (v % size * (4294967296 / size))] 42 (0, 0))) (cL : w.heap[L]? = some (.cells #[.int .i64 left] 3 (0, 0))) :
    Calls Tryd.prog 43 #[.int .i64 left, .pointer (some ⟨A, 0, none⟩), .pointer (some ⟨L, 0, none⟩)] w fun e w' => e = .returned (.int .i64 (v % size)) ∧
      Two A L (.int .u32 0) (.int .i64 0) 42 3 w w' := by
  rcases hl with ⟨rfl, rfl⟩ | ⟨rfl, rfl⟩ | ⟨rfl, rfl⟩ | ⟨rfl, rfl⟩
  · exact take_num 11 11 11 0 _ 0 _ A L w hne (by decide) rfl (by decide) (by decide) rfl (by omega) (by omega) (by simp only [Int.reducePow, Nat.reduceSub, Int.reduceDiv]; omega) (by simp only [Int.reducePow, Int.reduceDiv]; omega) cA cL
  · exact take_num 16 16 16 0 _ 0 _ A L w hne (by decide) rfl (by decide) (by decide) rfl (by omega) (by omega) (by simp only [Int.reducePow, Nat.reduceSub, Int.reduceDiv]; omega) (by simp only [Int.reducePow, Int.reduceDiv]; omega) cA cL
  · exact take_num 21 21 21 0 _ 0 _ A L w hne (by decide) rfl (by decide) (by decide) rfl (by omega) (by omega) (by simp only [Int.reducePow, Nat.reduceSub, Int.reduceDiv]; omega) (by simp only [Int.reducePow, Int.reduceDiv]; omega) cA cL
  · exact take_num 26 26 26 0 _ 0 _ A L w hne (by decide) rfl (by decide) (by decide) rfl (by omega) (by omega) (by simp only [Int.reducePow, Nat.reduceSub, Int.reduceDiv]; omega) (by simp only [Int.reducePow, Int.reduceDiv]; omega) cA cL
/-- Five stores into the result's block. -/
theorem store5 {W w : World} {R : Nat} {y0 y1 y2 y3 y4 x0 x1 x2 x3 x4 : Value} (hb : Below W.heap.size W w) (h : w.heap[R]? = some (.cells #[y0, y1, y2, y3, y4] 41 (0, 0))) (hR : W.heap.size ≤ R) :
    Below W.heap.size W (((((w.setCell ⟨R, 0, none⟩ x0).setCell ⟨R, 1, none⟩ x1).setCell ⟨R, 2, none⟩ x2).setCell ⟨R, 3, none⟩ x3).setCell ⟨R, 4, none⟩ x4) ∧
    (((((w.setCell ⟨R, 0, none⟩ x0).setCell ⟨R, 1, none⟩ x1).setCell ⟨R, 2, none⟩ x2).setCell ⟨R, 3, none⟩ x3).setCell ⟨R, 4, none⟩ x4).heap[R]? = some (.cells #[x0, x1, x2, x3, x4] 41 (0, 0)) :=
  ⟨((((hb.setCell hR _).setCell hR _).setCell hR _).setCell hR _).setCell hR _,
    setCell_block (i := 4) (setCell_block (i := 3) (setCell_block (i := 2) (setCell_block (i := 1) (setCell_block (i := 0) h (by simp)) (by simp)) (by simp)) (by simp)) (by simp)⟩

set_option maxRecDepth 100000 in
set_option maxHeartbeats 16000000 in
theorem decode_any (v : Int) (w : World) (h : Env w) (v0 : 0 ≤ v) (v1 : v < 4294967296) :
    Calls Tryd.prog 34 #[.int .u32 v] w fun e w' => Dec (v / 67108864) (Isa.fD v) (Isa.fA v) (Isa.fB v) (Isa.fImm v) e ∧ Below w.heap.size w w' := by
  have hsz := h.size
  have hl := Isa.form_le (v / 67108864)
  have i0 := idx0; have i1 := idx1; have i2 := idx2
  go_enter Tryd.func34, Tryd.ntmps34
  go_wp2_with fail
  refine (take_num 6 6 32 26 v (v % 67108864 * 64) (v / 67108864) _ _ _ (by omega) (by decide) rfl (by decide) (by decide) rfl v0 v1 rfl (by simp only [Int.reducePow]; omega) ?_ ?_).mono ?_
  · exact (Below.heap_alloc _ _ _ (by simp; omega)).trans ((Below.heap_alloc _ _ _ (by simp)).trans (heap_new _ _))
  · rw [← World.size_alloc w (.cells #[.int .u32 v] 42), ← World.size_alloc]; exact heap_new _ _
  rintro e w2 ⟨rfl, t2⟩
  have hz2 : w2.heap.size = w.heap.size + 1 + 1 + 1 := by rw [t2.size]; simp
  have hz3 := Lib.hid hz2
  have hz4 : w.heap.size + 1 + 1 < w2.heap.size := by omega
  clear hz2
  go_wp2_with fail
  have s1 : Sd w w.heap.size (w.heap.size + 1) (w.heap.size + 1 + 1) w2.heap.size (v / 67108864) 0 0 0 0 26 (v % 67108864 * 64) (w2.alloc (.cells #[.int .i64 (v / 67108864), .int .i64 0, .int .i64 0, .int .i64 0, .int .i64 0] 41)) := by
    refine ⟨?_, ?_, ?_, ?_, heap_new _ _, Nat.le_refl _, by omega, by omega, hz4, by simp⟩
    · exact (((((Below.refl _ _).alloc (Nat.le_refl _) _).alloc (by simp) _).alloc (by simp; omega) _).trans (t2.below (Nat.le_refl _) (by omega))).alloc (by omega) _
    · exact (Below.heap_alloc _ _ _ (by omega)).trans t2.first
    · refine (Below.heap_alloc _ _ _ (by omega)).trans ((t2.other _ (by omega) (by omega)).trans ?_)
      refine (Below.heap_alloc _ _ _ (by simp)).trans ?_
      rw [← World.size_alloc w (.cells #[.int .u32 v] 42)]; exact heap_new _ _
    · exact (Below.heap_alloc _ _ _ (by omega)).trans t2.second
  obtain ⟨w3, hw3⟩ : ∃ w3, w3 = w2.alloc (.cells #[.int .i64 (v / 67108864), .int .i64 0, .int .i64 0, .int .i64 0, .int .i64 0] 41) := ⟨_, rfl⟩
  rw [← hw3] at s1 ⊢
  clear hw3 t2 hz3
  obtain ⟨X, hX⟩ : ∃ X, X = w2.heap.size := ⟨_, rfl⟩
  rw [← hX] at s1 hz4 ⊢
  clear hX
  obtain ⟨L, hL⟩ : ∃ L, L = w.heap.size + 1 + 1 := ⟨_, rfl⟩
  rw [← hL] at s1 hz4 ⊢
  clear hL
  obtain ⟨R, hR⟩ : ∃ R, R = w.heap.size + 1 := ⟨_, rfl⟩
  rw [← hR] at s1 ⊢
  clear hR hz4
  have q1 := s1.l1; have q2 := s1.l2; have q3 := s1.l3
  refine (registers_any _ _).mono ?_
  rintro e w4 ⟨rfl, hb⟩
  replace s1 := s1.grow hb
  clear hb
  go_upto_block 0 with fail
  go_cut [7, 8] (fun _ _ wx => ∃ left size : Int, Lefts left size ∧ size = Isa.dSize (Isa.sh v 0) (Isa.sh v 1) (Isa.sh v 2) ∧ Sd w w.heap.size R L X (v / 67108864) (Isa.fD v) (Isa.fA v) (Isa.fB v) 0 left (v % size * (4294967296 / size)) wx)
  case first =>
    go_wp2_with fail
    have hs := Isa.shapes_of (Isa.form (v / 67108864))
    simp only [List.mem_cons, List.mem_nil_iff, or_false, Prod.mk.injEq] at hs
    rcases hs with ⟨e0, e1, e2⟩ | ⟨e0, e1, e2⟩ | ⟨e0, e1, e2⟩ | ⟨e0, e1, e2⟩ | ⟨e0, e1, e2⟩ | ⟨e0, e1, e2⟩
    · have H := Lib.hid (And.intro e0 (And.intro e1 e2))
      have HV : Hid (Isa.fD v = v / 2097152 % 32 ∧ Isa.fA v = v / 65536 % 32 ∧ Isa.fB v = v / 2048 % 32 ∧ Isa.dSize (Isa.sh v 0) (Isa.sh v 1) (Isa.sh v 2) = 2048) := by
        unfold Hid Isa.fD Isa.fA Isa.fB Isa.sh Isa.dOp; rw [e0, e1, e2]; exact ⟨rfl, rfl, rfl, rfl⟩
      clear e0 e1 e2
      obtain ⟨c0, c1, c2, c3, c4, r0, r1, r2, cl, f1, f2, f3, f4⟩ := s1.facts h H.out.1 H.out.2.1 H.out.2.2
      refine wp_loop_rounds 4 ?_
      rw [rounds_succ]
      go_wp2_with fail
      refine (form_any _ _).mono ?_
      rintro e w' ⟨rfl, rfl⟩
      go_wp2_with fail
      refine (take_num 5 5 26 21 (v % 67108864 * 64) (v % 2097152 * 2048) (v / 2097152 % 32) _ _ _ (by omega) (by decide) rfl (by decide) (by decide) rfl (by omega) (by omega) (by simp only [Int.reducePow, Nat.reduceSub]; omega) (by simp only [Int.reducePow]; omega) s1.wv s1.left).mono ?_
      rintro e w5 ⟨rfl, t2⟩
      replace s1 := s1.take t2
      clear t2
      clear c0 c1 c2 c3 c4 r0 r1 r2 cl f1 f2 f3 f4
      obtain ⟨c0, c1, c2, c3, c4, r0, r1, r2, cl, f1, f2, f3, f4⟩ := s1.facts h H.out.1 H.out.2.1 H.out.2.2
      go_wp2_with fail
      replace s1 := s1.store (op2 := v / 67108864) (d2 := v / 2097152 % 32) (a2 := 0) (b2 := 0) (imm2 := 0) 1 (v / 2097152 % 32) (by decide) rfl
      obtain ⟨w6, hw⟩ : ∃ w6, w6 = w5.setCell ⟨X, 1, none⟩ (.int .i64 (v / 2097152 % 32)) := ⟨_, rfl⟩
      rw [← hw] at s1 ⊢
      clear hw
      clear c0 c1 c2 c3 c4 r0 r1 r2 cl f1 f2 f3 f4
      obtain ⟨c0, c1, c2, c3, c4, r0, r1, r2, cl, f1, f2, f3, f4⟩ := s1.facts h H.out.1 H.out.2.1 H.out.2.2
      rw [rounds_succ]
      go_wp2_with fail
      refine (form_any _ _).mono ?_
      rintro e w' ⟨rfl, rfl⟩
      go_wp2_with fail
      refine (take_num 5 5 21 16 (v % 2097152 * 2048) (v % 65536 * 65536) (v / 65536 % 32) _ _ _ (by omega) (by decide) rfl (by decide) (by decide) rfl (by omega) (by omega) (by simp only [Int.reducePow, Nat.reduceSub]; omega) (by simp only [Int.reducePow]; omega) s1.wv s1.left).mono ?_
      rintro e w7 ⟨rfl, t2⟩
      replace s1 := s1.take t2
      clear t2
      clear c0 c1 c2 c3 c4 r0 r1 r2 cl f1 f2 f3 f4
      obtain ⟨c0, c1, c2, c3, c4, r0, r1, r2, cl, f1, f2, f3, f4⟩ := s1.facts h H.out.1 H.out.2.1 H.out.2.2
      go_wp2_with fail
      replace s1 := s1.store (op2 := v / 67108864) (d2 := v / 2097152 % 32) (a2 := v / 65536 % 32) (b2 := 0) (imm2 := 0) 2 (v / 65536 % 32) (by decide) rfl
      obtain ⟨w8, hw⟩ : ∃ w8, w8 = w7.setCell ⟨X, 2, none⟩ (.int .i64 (v / 65536 % 32)) := ⟨_, rfl⟩
      rw [← hw] at s1 ⊢
      clear hw
      clear c0 c1 c2 c3 c4 r0 r1 r2 cl f1 f2 f3 f4
      obtain ⟨c0, c1, c2, c3, c4, r0, r1, r2, cl, f1, f2, f3, f4⟩ := s1.facts h H.out.1 H.out.2.1 H.out.2.2
      rw [rounds_succ]
      go_wp2_with fail
      refine (form_any _ _).mono ?_
      rintro e w' ⟨rfl, rfl⟩
      go_wp2_with fail
      refine (take_num 5 5 16 11 (v % 65536 * 65536) (v % 2048 * 2097152) (v / 2048 % 32) _ _ _ (by omega) (by decide) rfl (by decide) (by decide) rfl (by omega) (by omega) (by simp only [Int.reducePow, Nat.reduceSub]; omega) (by simp only [Int.reducePow]; omega) s1.wv s1.left).mono ?_
      rintro e w9 ⟨rfl, t2⟩
      replace s1 := s1.take t2
      clear t2
      clear c0 c1 c2 c3 c4 r0 r1 r2 cl f1 f2 f3 f4
      obtain ⟨c0, c1, c2, c3, c4, r0, r1, r2, cl, f1, f2, f3, f4⟩ := s1.facts h H.out.1 H.out.2.1 H.out.2.2
      go_wp2_with fail
      replace s1 := s1.store (op2 := v / 67108864) (d2 := v / 2097152 % 32) (a2 := v / 65536 % 32) (b2 := v / 2048 % 32) (imm2 := 0) 3 (v / 2048 % 32) (by decide) rfl
      obtain ⟨w10, hw⟩ : ∃ w10, w10 = w9.setCell ⟨X, 3, none⟩ (.int .i64 (v / 2048 % 32)) := ⟨_, rfl⟩
      rw [← hw] at s1 ⊢
      clear hw
      clear c0 c1 c2 c3 c4 r0 r1 r2 cl f1 f2 f3 f4
      obtain ⟨c0, c1, c2, c3, c4, r0, r1, r2, cl, f1, f2, f3, f4⟩ := s1.facts h H.out.1 H.out.2.1 H.out.2.2
      rw [rounds_succ]
      go_wp2_with fail
      go_meet
      case rel =>
        obtain ⟨h1, h2, h3, h4⟩ := HV.out
        refine ⟨11, 2048, Or.inl ⟨rfl, rfl⟩, h4.symm, ?_⟩
        rw [h1, h2, h3]
        exact s1
    · have H := Lib.hid (And.intro e0 (And.intro e1 e2))
      have HV : Hid (Isa.fD v = v / 2097152 % 32 ∧ Isa.fA v = v / 65536 % 32 ∧ Isa.fB v = 0 ∧ Isa.dSize (Isa.sh v 0) (Isa.sh v 1) (Isa.sh v 2) = 65536) := by
        unfold Hid Isa.fD Isa.fA Isa.fB Isa.sh Isa.dOp; rw [e0, e1, e2]; exact ⟨rfl, rfl, rfl, rfl⟩
      clear e0 e1 e2
      obtain ⟨c0, c1, c2, c3, c4, r0, r1, r2, cl, f1, f2, f3, f4⟩ := s1.facts h H.out.1 H.out.2.1 H.out.2.2
      refine wp_loop_rounds 4 ?_
      rw [rounds_succ]
      go_wp2_with fail
      refine (form_any _ _).mono ?_
      rintro e w' ⟨rfl, rfl⟩
      go_wp2_with fail
      refine (take_num 5 5 26 21 (v % 67108864 * 64) (v % 2097152 * 2048) (v / 2097152 % 32) _ _ _ (by omega) (by decide) rfl (by decide) (by decide) rfl (by omega) (by omega) (by simp only [Int.reducePow, Nat.reduceSub]; omega) (by simp only [Int.reducePow]; omega) s1.wv s1.left).mono ?_
      rintro e w5 ⟨rfl, t2⟩
      replace s1 := s1.take t2
      clear t2
      clear c0 c1 c2 c3 c4 r0 r1 r2 cl f1 f2 f3 f4
      obtain ⟨c0, c1, c2, c3, c4, r0, r1, r2, cl, f1, f2, f3, f4⟩ := s1.facts h H.out.1 H.out.2.1 H.out.2.2
      go_wp2_with fail
      replace s1 := s1.store (op2 := v / 67108864) (d2 := v / 2097152 % 32) (a2 := 0) (b2 := 0) (imm2 := 0) 1 (v / 2097152 % 32) (by decide) rfl
      obtain ⟨w6, hw⟩ : ∃ w6, w6 = w5.setCell ⟨X, 1, none⟩ (.int .i64 (v / 2097152 % 32)) := ⟨_, rfl⟩
      rw [← hw] at s1 ⊢
      clear hw
      clear c0 c1 c2 c3 c4 r0 r1 r2 cl f1 f2 f3 f4
      obtain ⟨c0, c1, c2, c3, c4, r0, r1, r2, cl, f1, f2, f3, f4⟩ := s1.facts h H.out.1 H.out.2.1 H.out.2.2
      rw [rounds_succ]
      go_wp2_with fail
      refine (form_any _ _).mono ?_
      rintro e w' ⟨rfl, rfl⟩
      go_wp2_with fail
      refine (take_num 5 5 21 16 (v % 2097152 * 2048) (v % 65536 * 65536) (v / 65536 % 32) _ _ _ (by omega) (by decide) rfl (by decide) (by decide) rfl (by omega) (by omega) (by simp only [Int.reducePow, Nat.reduceSub]; omega) (by simp only [Int.reducePow]; omega) s1.wv s1.left).mono ?_
      rintro e w7 ⟨rfl, t2⟩
      replace s1 := s1.take t2
      clear t2
      clear c0 c1 c2 c3 c4 r0 r1 r2 cl f1 f2 f3 f4
      obtain ⟨c0, c1, c2, c3, c4, r0, r1, r2, cl, f1, f2, f3, f4⟩ := s1.facts h H.out.1 H.out.2.1 H.out.2.2
      go_wp2_with fail
      replace s1 := s1.store (op2 := v / 67108864) (d2 := v / 2097152 % 32) (a2 := v / 65536 % 32) (b2 := 0) (imm2 := 0) 2 (v / 65536 % 32) (by decide) rfl
      obtain ⟨w8, hw⟩ : ∃ w8, w8 = w7.setCell ⟨X, 2, none⟩ (.int .i64 (v / 65536 % 32)) := ⟨_, rfl⟩
      rw [← hw] at s1 ⊢
      clear hw
      clear c0 c1 c2 c3 c4 r0 r1 r2 cl f1 f2 f3 f4
      obtain ⟨c0, c1, c2, c3, c4, r0, r1, r2, cl, f1, f2, f3, f4⟩ := s1.facts h H.out.1 H.out.2.1 H.out.2.2
      rw [rounds_succ]
      go_wp2_with fail
      refine (form_any _ _).mono ?_
      rintro e w' ⟨rfl, rfl⟩
      go_wp2_with fail
      rw [rounds_succ]
      go_wp2_with fail
      go_meet
      case rel =>
        obtain ⟨h1, h2, h3, h4⟩ := HV.out
        refine ⟨16, 65536, Or.inr (Or.inl ⟨rfl, rfl⟩), h4.symm, ?_⟩
        rw [h1, h2, h3]
        exact s1
    · have H := Lib.hid (And.intro e0 (And.intro e1 e2))
      have HV : Hid (Isa.fD v = v / 2097152 % 32 ∧ Isa.fA v = 0 ∧ Isa.fB v = 0 ∧ Isa.dSize (Isa.sh v 0) (Isa.sh v 1) (Isa.sh v 2) = 2097152) := by
        unfold Hid Isa.fD Isa.fA Isa.fB Isa.sh Isa.dOp; rw [e0, e1, e2]; exact ⟨rfl, rfl, rfl, rfl⟩
      clear e0 e1 e2
      obtain ⟨c0, c1, c2, c3, c4, r0, r1, r2, cl, f1, f2, f3, f4⟩ := s1.facts h H.out.1 H.out.2.1 H.out.2.2
      refine wp_loop_rounds 4 ?_
      rw [rounds_succ]
      go_wp2_with fail
      refine (form_any _ _).mono ?_
      rintro e w' ⟨rfl, rfl⟩
      go_wp2_with fail
      refine (take_num 5 5 26 21 (v % 67108864 * 64) (v % 2097152 * 2048) (v / 2097152 % 32) _ _ _ (by omega) (by decide) rfl (by decide) (by decide) rfl (by omega) (by omega) (by simp only [Int.reducePow, Nat.reduceSub]; omega) (by simp only [Int.reducePow]; omega) s1.wv s1.left).mono ?_
      rintro e w5 ⟨rfl, t2⟩
      replace s1 := s1.take t2
      clear t2
      clear c0 c1 c2 c3 c4 r0 r1 r2 cl f1 f2 f3 f4
      obtain ⟨c0, c1, c2, c3, c4, r0, r1, r2, cl, f1, f2, f3, f4⟩ := s1.facts h H.out.1 H.out.2.1 H.out.2.2
      go_wp2_with fail
      replace s1 := s1.store (op2 := v / 67108864) (d2 := v / 2097152 % 32) (a2 := 0) (b2 := 0) (imm2 := 0) 1 (v / 2097152 % 32) (by decide) rfl
      obtain ⟨w6, hw⟩ : ∃ w6, w6 = w5.setCell ⟨X, 1, none⟩ (.int .i64 (v / 2097152 % 32)) := ⟨_, rfl⟩
      rw [← hw] at s1 ⊢
      clear hw
      clear c0 c1 c2 c3 c4 r0 r1 r2 cl f1 f2 f3 f4
      obtain ⟨c0, c1, c2, c3, c4, r0, r1, r2, cl, f1, f2, f3, f4⟩ := s1.facts h H.out.1 H.out.2.1 H.out.2.2
      rw [rounds_succ]
      go_wp2_with fail
      refine (form_any _ _).mono ?_
      rintro e w' ⟨rfl, rfl⟩
      go_wp2_with fail
      rw [rounds_succ]
      go_wp2_with fail
      refine (form_any _ _).mono ?_
      rintro e w' ⟨rfl, rfl⟩
      go_wp2_with fail
      rw [rounds_succ]
      go_wp2_with fail
      go_meet
      case rel =>
        obtain ⟨h1, h2, h3, h4⟩ := HV.out
        refine ⟨21, 2097152, Or.inr (Or.inr (Or.inl ⟨rfl, rfl⟩)), h4.symm, ?_⟩
        rw [h1, h2, h3]
        exact s1
    · have H := Lib.hid (And.intro e0 (And.intro e1 e2))
      have HV : Hid (Isa.fD v = 0 ∧ Isa.fA v = v / 2097152 % 32 ∧ Isa.fB v = v / 65536 % 32 ∧ Isa.dSize (Isa.sh v 0) (Isa.sh v 1) (Isa.sh v 2) = 65536) := by
        unfold Hid Isa.fD Isa.fA Isa.fB Isa.sh Isa.dOp; rw [e0, e1, e2]; exact ⟨rfl, rfl, rfl, rfl⟩
      clear e0 e1 e2
      obtain ⟨c0, c1, c2, c3, c4, r0, r1, r2, cl, f1, f2, f3, f4⟩ := s1.facts h H.out.1 H.out.2.1 H.out.2.2
      refine wp_loop_rounds 4 ?_
      rw [rounds_succ]
      go_wp2_with fail
      refine (form_any _ _).mono ?_
      rintro e w' ⟨rfl, rfl⟩
      go_wp2_with fail
      rw [rounds_succ]
      go_wp2_with fail
      refine (form_any _ _).mono ?_
      rintro e w' ⟨rfl, rfl⟩
      go_wp2_with fail
      refine (take_num 5 5 26 21 (v % 67108864 * 64) (v % 2097152 * 2048) (v / 2097152 % 32) _ _ _ (by omega) (by decide) rfl (by decide) (by decide) rfl (by omega) (by omega) (by simp only [Int.reducePow, Nat.reduceSub]; omega) (by simp only [Int.reducePow]; omega) s1.wv s1.left).mono ?_
      rintro e w5 ⟨rfl, t2⟩
      replace s1 := s1.take t2
      clear t2
      clear c0 c1 c2 c3 c4 r0 r1 r2 cl f1 f2 f3 f4
      obtain ⟨c0, c1, c2, c3, c4, r0, r1, r2, cl, f1, f2, f3, f4⟩ := s1.facts h H.out.1 H.out.2.1 H.out.2.2
      go_wp2_with fail
      replace s1 := s1.store (op2 := v / 67108864) (d2 := 0) (a2 := v / 2097152 % 32) (b2 := 0) (imm2 := 0) 2 (v / 2097152 % 32) (by decide) rfl
      obtain ⟨w6, hw⟩ : ∃ w6, w6 = w5.setCell ⟨X, 2, none⟩ (.int .i64 (v / 2097152 % 32)) := ⟨_, rfl⟩
      rw [← hw] at s1 ⊢
      clear hw
      clear c0 c1 c2 c3 c4 r0 r1 r2 cl f1 f2 f3 f4
      obtain ⟨c0, c1, c2, c3, c4, r0, r1, r2, cl, f1, f2, f3, f4⟩ := s1.facts h H.out.1 H.out.2.1 H.out.2.2
      rw [rounds_succ]
      go_wp2_with fail
      refine (form_any _ _).mono ?_
      rintro e w' ⟨rfl, rfl⟩
      go_wp2_with fail
      refine (take_num 5 5 21 16 (v % 2097152 * 2048) (v % 65536 * 65536) (v / 65536 % 32) _ _ _ (by omega) (by decide) rfl (by decide) (by decide) rfl (by omega) (by omega) (by simp only [Int.reducePow, Nat.reduceSub]; omega) (by simp only [Int.reducePow]; omega) s1.wv s1.left).mono ?_
      rintro e w7 ⟨rfl, t2⟩
      replace s1 := s1.take t2
      clear t2
      clear c0 c1 c2 c3 c4 r0 r1 r2 cl f1 f2 f3 f4
      obtain ⟨c0, c1, c2, c3, c4, r0, r1, r2, cl, f1, f2, f3, f4⟩ := s1.facts h H.out.1 H.out.2.1 H.out.2.2
      go_wp2_with fail
      replace s1 := s1.store (op2 := v / 67108864) (d2 := 0) (a2 := v / 2097152 % 32) (b2 := v / 65536 % 32) (imm2 := 0) 3 (v / 65536 % 32) (by decide) rfl
      obtain ⟨w8, hw⟩ : ∃ w8, w8 = w7.setCell ⟨X, 3, none⟩ (.int .i64 (v / 65536 % 32)) := ⟨_, rfl⟩
      rw [← hw] at s1 ⊢
      clear hw
      clear c0 c1 c2 c3 c4 r0 r1 r2 cl f1 f2 f3 f4
      obtain ⟨c0, c1, c2, c3, c4, r0, r1, r2, cl, f1, f2, f3, f4⟩ := s1.facts h H.out.1 H.out.2.1 H.out.2.2
      rw [rounds_succ]
      go_wp2_with fail
      go_meet
      case rel =>
        obtain ⟨h1, h2, h3, h4⟩ := HV.out
        refine ⟨16, 65536, Or.inr (Or.inl ⟨rfl, rfl⟩), h4.symm, ?_⟩
        rw [h1, h2, h3]
        exact s1
    · have H := Lib.hid (And.intro e0 (And.intro e1 e2))
      have HV : Hid (Isa.fD v = 0 ∧ Isa.fA v = v / 2097152 % 32 ∧ Isa.fB v = 0 ∧ Isa.dSize (Isa.sh v 0) (Isa.sh v 1) (Isa.sh v 2) = 2097152) := by
        unfold Hid Isa.fD Isa.fA Isa.fB Isa.sh Isa.dOp; rw [e0, e1, e2]; exact ⟨rfl, rfl, rfl, rfl⟩
      clear e0 e1 e2
      obtain ⟨c0, c1, c2, c3, c4, r0, r1, r2, cl, f1, f2, f3, f4⟩ := s1.facts h H.out.1 H.out.2.1 H.out.2.2
      refine wp_loop_rounds 4 ?_
      rw [rounds_succ]
      go_wp2_with fail
      refine (form_any _ _).mono ?_
      rintro e w' ⟨rfl, rfl⟩
      go_wp2_with fail
      rw [rounds_succ]
      go_wp2_with fail
      refine (form_any _ _).mono ?_
      rintro e w' ⟨rfl, rfl⟩
      go_wp2_with fail
      refine (take_num 5 5 26 21 (v % 67108864 * 64) (v % 2097152 * 2048) (v / 2097152 % 32) _ _ _ (by omega) (by decide) rfl (by decide) (by decide) rfl (by omega) (by omega) (by simp only [Int.reducePow, Nat.reduceSub]; omega) (by simp only [Int.reducePow]; omega) s1.wv s1.left).mono ?_
      rintro e w5 ⟨rfl, t2⟩
      replace s1 := s1.take t2
      clear t2
      clear c0 c1 c2 c3 c4 r0 r1 r2 cl f1 f2 f3 f4
      obtain ⟨c0, c1, c2, c3, c4, r0, r1, r2, cl, f1, f2, f3, f4⟩ := s1.facts h H.out.1 H.out.2.1 H.out.2.2
      go_wp2_with fail
      replace s1 := s1.store (op2 := v / 67108864) (d2 := 0) (a2 := v / 2097152 % 32) (b2 := 0) (imm2 := 0) 2 (v / 2097152 % 32) (by decide) rfl
      obtain ⟨w6, hw⟩ : ∃ w6, w6 = w5.setCell ⟨X, 2, none⟩ (.int .i64 (v / 2097152 % 32)) := ⟨_, rfl⟩
      rw [← hw] at s1 ⊢
      clear hw
      clear c0 c1 c2 c3 c4 r0 r1 r2 cl f1 f2 f3 f4
      obtain ⟨c0, c1, c2, c3, c4, r0, r1, r2, cl, f1, f2, f3, f4⟩ := s1.facts h H.out.1 H.out.2.1 H.out.2.2
      rw [rounds_succ]
      go_wp2_with fail
      refine (form_any _ _).mono ?_
      rintro e w' ⟨rfl, rfl⟩
      go_wp2_with fail
      rw [rounds_succ]
      go_wp2_with fail
      go_meet
      case rel =>
        obtain ⟨h1, h2, h3, h4⟩ := HV.out
        refine ⟨21, 2097152, Or.inr (Or.inr (Or.inl ⟨rfl, rfl⟩)), h4.symm, ?_⟩
        rw [h1, h2, h3]
        exact s1
    · have H := Lib.hid (And.intro e0 (And.intro e1 e2))
      have HV : Hid (Isa.fD v = 0 ∧ Isa.fA v = 0 ∧ Isa.fB v = 0 ∧ Isa.dSize (Isa.sh v 0) (Isa.sh v 1) (Isa.sh v 2) = 67108864) := by
        unfold Hid Isa.fD Isa.fA Isa.fB Isa.sh Isa.dOp; rw [e0, e1, e2]; exact ⟨rfl, rfl, rfl, rfl⟩
      clear e0 e1 e2
      obtain ⟨c0, c1, c2, c3, c4, r0, r1, r2, cl, f1, f2, f3, f4⟩ := s1.facts h H.out.1 H.out.2.1 H.out.2.2
      refine wp_loop_rounds 4 ?_
      rw [rounds_succ]
      go_wp2_with fail
      refine (form_any _ _).mono ?_
      rintro e w' ⟨rfl, rfl⟩
      go_wp2_with fail
      rw [rounds_succ]
      go_wp2_with fail
      refine (form_any _ _).mono ?_
      rintro e w' ⟨rfl, rfl⟩
      go_wp2_with fail
      rw [rounds_succ]
      go_wp2_with fail
      refine (form_any _ _).mono ?_
      rintro e w' ⟨rfl, rfl⟩
      go_wp2_with fail
      rw [rounds_succ]
      go_wp2_with fail
      go_meet
      case rel =>
        obtain ⟨h1, h2, h3, h4⟩ := HV.out
        refine ⟨26, 67108864, Or.inr (Or.inr (Or.inr ⟨rfl, rfl⟩)), h4.symm, ?_⟩
        rw [h1, h2, h3]
        exact s1
  case rest =>
    obtain ⟨left, size, hls, hsize, s1⟩ := hcut
    have HS := Lib.hid (And.intro hls hsize)
    have HF := Lib.hid (And.intro (show Isa.shape (Isa.form (v / 67108864)) 0 = Isa.sh v 0 from rfl) (And.intro (show Isa.shape (Isa.form (v / 67108864)) 1 = Isa.sh v 1 from rfl) (show Isa.shape (Isa.form (v / 67108864)) 2 = Isa.sh v 2 from rfl)))
    have bl : 1 ≤ left ∧ left ≤ 26 := by unfold Lefts at hls; omega
    have br : 0 ≤ v % size ∧ v % size < 67108864 := by rcases hls with ⟨rfl, rfl⟩ | ⟨rfl, rfl⟩ | ⟨rfl, rfl⟩ | ⟨rfl, rfl⟩ <;> omega
    clear hls hsize
    obtain ⟨fd, hfd⟩ : ∃ x, x = Isa.fD v := ⟨_, rfl⟩
    obtain ⟨fa, hfa⟩ : ∃ x, x = Isa.fA v := ⟨_, rfl⟩
    obtain ⟨fb, hfb⟩ : ∃ x, x = Isa.fB v := ⟨_, rfl⟩
    rw [← hfd, ← hfa, ← hfb] at s1
    have HFS := Lib.hid (And.intro hfd (And.intro hfa hfb))
    clear hfd hfa hfb
    obtain ⟨c0, c1, c2, c3, c4, r0, r1, r2, cl, f1, f2, f3, f4⟩ := s1.facts h HF.out.1 HF.out.2.1 HF.out.2.2
    go_wp2_with fail
    refine (take_last v left size _ _ _ (by omega) HS.out.1 s1.wv s1.left).mono ?_
    rintro e w5 ⟨rfl, t2⟩
    replace s1 := s1.take t2
    clear t2
    clear c0 c1 c2 c3 c4 r0 r1 r2 cl f1 f2 f3 f4
    obtain ⟨c0, c1, c2, c3, c4, r0, r1, r2, cl, f1, f2, f3, f4⟩ := s1.facts h HF.out.1 HF.out.2.1 HF.out.2.2
    go_wp2_with fail
    replace s1 := s1.store (op2 := v / 67108864) (d2 := fd) (a2 := fa) (b2 := fb) (imm2 := v % size) 4 (v % size) (by decide) rfl
    obtain ⟨wa, hw⟩ : ∃ wa, wa = w5.setCell ⟨X, 4, none⟩ (.int .i64 (v % size)) := ⟨_, rfl⟩
    rw [← hw] at s1 ⊢
    clear hw
    clear c0 c1 c2 c3 c4 r0 r1 r2 cl f1 f2 f3 f4
    obtain ⟨c0, c1, c2, c3, c4, r0, r1, r2, cl, f1, f2, f3, f4⟩ := s1.facts h HF.out.1 HF.out.2.1 HF.out.2.2
    have he := h.below s1.below
    refine (limits_any _ _ he).mono ?_
    rintro e w' ⟨rfl, rfl⟩
    go_wp2_with fail
    refine (signed_any _ _ he).mono ?_
    rintro e w' ⟨rfl, rfl⟩
    obtain ⟨lo, hlo⟩ : ∃ lo, lo = Isa.low (v / 67108864) := ⟨_, rfl⟩
    obtain ⟨hi, hhi⟩ : ∃ hi, hi = Isa.high (v / 67108864) := ⟨_, rfl⟩
    have hhi1 : hi ≤ 1048575 := by rw [hhi]; unfold Isa.high; (repeat' split) <;> omega
    rw [← hlo, ← hhi]
    obtain ⟨raw, hraw⟩ : ∃ raw, raw = v % size := ⟨_, rfl⟩
    have HR : Hid (Isa.fImm v = if lo < 0 ∧ hi < raw then raw - size else raw) := by unfold Hid; rw [hlo, hhi, hraw, HS.out.2]; rfl
    rw [← hraw] at s1 c4 br ⊢
    have HRAW := Lib.hid hraw
    clear hlo hhi he hraw
    by_cases hn : lo < 0
    · have hdn : decide (lo < 0) = true := by simpa using hn
      by_cases hg : hi < raw
      · have HR2 : Hid (Isa.fImm v = raw - size) := by unfold Hid; rw [HR.out, if_pos ⟨hn, hg⟩]
        have hp : Hid (wrap64 (raw - wrap64 ((2 : Int) ^ left.toNat)) = raw - size) := by
          have h2 : (2 : Int) ^ left.toNat = size ∧ 0 ≤ size ∧ size ≤ 67108864 := by
            rcases HS.out.1 with ⟨rfl, rfl⟩ | ⟨rfl, rfl⟩ | ⟨rfl, rfl⟩ | ⟨rfl, rfl⟩ <;> exact ⟨rfl, by decide, by decide⟩
          unfold Hid
          rw [h2.1, IntWalk.wrap64_in size (by omega), IntWalk.wrap64_in _ (by omega)]
        go_wp2_with fail
        go_region
        all_goals
          go_wp2_with fail
          rw [hp.out]
          obtain ⟨im, him⟩ : ∃ im, im = raw - size := ⟨_, rfl⟩
          rw [← him]
          replace s1 := (s1.store (op2 := v / 67108864) (d2 := fd) (a2 := fa) (b2 := fb) (imm2 := im) 4 im (by decide) rfl).drew
          obtain ⟨wb, hw⟩ : ∃ wb, wb = (wa.setCell ⟨X, 4, none⟩ (.int .i64 im)).drew := ⟨_, rfl⟩
          rw [← hw] at s1 ⊢
          have HIM : Hid (Isa.fImm v = im) := by unfold Hid; rw [him]; exact HR2.out
          clear hw HR HR2 hdn hg hn hhi1 him
          clear c0 c1 c2 c3 c4 r0 r1 r2 cl f1 f2 f3 f4
          have he := h.below s1.below
          cases ho : Isa.ok (v / 67108864) fd fa fb im
          · obtain ⟨c0, c1, c2, c3, c4, r0, r1, r2, cl, f1, f2, f3, f4⟩ := s1.facts h HF.out.1 HF.out.2.1 HF.out.2.2
            go_wp2_with fail
            refine (check_bad _ _ _ _ _ _ he ho).mono ?_
            rintro e wc ⟨rfl, hb⟩
            have hk := Lib.hid ho
            clear ho he
            replace s1 := s1.grow hb
            clear hb c0 c1 c2 c3 c4 r0 r1 r2 cl f1 f2 f3 f4
            obtain ⟨c0, c1, c2, c3, c4, r0, r1, r2, cl, f1, f2, f3, f4⟩ := s1.facts h HF.out.1 HF.out.2.1 HF.out.2.2
            obtain ⟨⟨g0, g1, g2, g3, g4⟩, k0, k1, k2, k3, k4⟩ := s1.facts2
            go_wp2_with fail
            obtain ⟨b5, h5⟩ := store5 (x0 := .int .i64 0) (x1 := .int .i64 0) (x2 := .int .i64 0) (x3 := .int .i64 0) (x4 := .int .i64 0) s1.below s1.res (by omega)
            obtain ⟨wz, hw⟩ : ∃ wz, wz = ((((wc.setCell ⟨R, 0, none⟩ (.int .i64 0)).setCell ⟨R, 1, none⟩ (.int .i64 0)).setCell ⟨R, 2, none⟩ (.int .i64 0)).setCell ⟨R, 3, none⟩ (.int .i64 0)).setCell ⟨R, 4, none⟩ (.int .i64 0) := ⟨_, rfl⟩
            rw [← hw] at b5 h5 ⊢
            clear hw
            obtain ⟨z0, z1, z2, z3, z4⟩ := cells5 h5
            refine bodyPost_ret (v := .tuple #[.agg #[.int .i64 0, .int .i64 0, .int .i64 0, .int .i64 0, .int .i64 0], .int .i64 11]) (by simp [results, Tryd.results34, go_sem, z0, z1, z2, z3, z4]) rfl ⟨?_, b5⟩
            rw [HIM.out, ← HFS.out.1, ← HFS.out.2.1, ← HFS.out.2.2]
            exact dec_bad hk.out
          · obtain ⟨c0, c1, c2, c3, c4, r0, r1, r2, cl, f1, f2, f3, f4⟩ := s1.facts h HF.out.1 HF.out.2.1 HF.out.2.2
            go_wp2_with fail
            refine (check_ok _ _ _ _ _ _ he ho).mono ?_
            rintro e wc ⟨rfl, hb⟩
            have hk := Lib.hid ho
            clear ho he
            replace s1 := s1.grow hb
            clear hb c0 c1 c2 c3 c4 r0 r1 r2 cl f1 f2 f3 f4
            obtain ⟨c0, c1, c2, c3, c4, r0, r1, r2, cl, f1, f2, f3, f4⟩ := s1.facts h HF.out.1 HF.out.2.1 HF.out.2.2
            obtain ⟨⟨g0, g1, g2, g3, g4⟩, k0, k1, k2, k3, k4⟩ := s1.facts2
            go_wp2_with fail
            obtain ⟨b5, h5⟩ := store5 (x0 := .int .i64 (v / 67108864)) (x1 := .int .i64 fd) (x2 := .int .i64 fa) (x3 := .int .i64 fb) (x4 := .int .i64 im) s1.below s1.res (by omega)
            obtain ⟨wz, hw⟩ : ∃ wz, wz = ((((wc.setCell ⟨R, 0, none⟩ (.int .i64 (v / 67108864))).setCell ⟨R, 1, none⟩ (.int .i64 fd)).setCell ⟨R, 2, none⟩ (.int .i64 fa)).setCell ⟨R, 3, none⟩ (.int .i64 fb)).setCell ⟨R, 4, none⟩ (.int .i64 im) := ⟨_, rfl⟩
            rw [← hw] at b5 h5 ⊢
            clear hw
            obtain ⟨z0, z1, z2, z3, z4⟩ := cells5 h5
            refine bodyPost_ret (v := .tuple #[.agg #[.int .i64 (v / 67108864), .int .i64 fd, .int .i64 fa, .int .i64 fb, .int .i64 im], .int .i64 0]) (by simp [results, Tryd.results34, go_sem, z0, z1, z2, z3, z4]) rfl ⟨?_, b5⟩
            rw [HIM.out, ← HFS.out.1, ← HFS.out.2.1, ← HFS.out.2.2]
            exact dec_ok hk.out
      · have HR2 : Hid (Isa.fImm v = raw) := by unfold Hid; rw [HR.out, if_neg (fun hq => hg hq.2)]
        have hg2 : raw ≤ hi := by omega
        clear hg HR
        go_wp2_with fail
        clear hdn hg2 hn hhi1
        have HIM := HR2
        clear HR2
        clear c0 c1 c2 c3 c4 r0 r1 r2 cl f1 f2 f3 f4
        have he := h.below s1.below
        cases ho : Isa.ok (v / 67108864) fd fa fb raw
        · obtain ⟨c0, c1, c2, c3, c4, r0, r1, r2, cl, f1, f2, f3, f4⟩ := s1.facts h HF.out.1 HF.out.2.1 HF.out.2.2
          go_wp2_with fail
          refine (check_bad _ _ _ _ _ _ he ho).mono ?_
          rintro e wc ⟨rfl, hb⟩
          have hk := Lib.hid ho
          clear ho he
          replace s1 := s1.grow hb
          clear hb c0 c1 c2 c3 c4 r0 r1 r2 cl f1 f2 f3 f4
          obtain ⟨c0, c1, c2, c3, c4, r0, r1, r2, cl, f1, f2, f3, f4⟩ := s1.facts h HF.out.1 HF.out.2.1 HF.out.2.2
          obtain ⟨⟨g0, g1, g2, g3, g4⟩, k0, k1, k2, k3, k4⟩ := s1.facts2
          go_wp2_with fail
          obtain ⟨b5, h5⟩ := store5 (x0 := .int .i64 0) (x1 := .int .i64 0) (x2 := .int .i64 0) (x3 := .int .i64 0) (x4 := .int .i64 0) s1.below s1.res (by omega)
          obtain ⟨wz, hw⟩ : ∃ wz, wz = ((((wc.setCell ⟨R, 0, none⟩ (.int .i64 0)).setCell ⟨R, 1, none⟩ (.int .i64 0)).setCell ⟨R, 2, none⟩ (.int .i64 0)).setCell ⟨R, 3, none⟩ (.int .i64 0)).setCell ⟨R, 4, none⟩ (.int .i64 0) := ⟨_, rfl⟩
          rw [← hw] at b5 h5 ⊢
          clear hw
          obtain ⟨z0, z1, z2, z3, z4⟩ := cells5 h5
          refine bodyPost_ret (v := .tuple #[.agg #[.int .i64 0, .int .i64 0, .int .i64 0, .int .i64 0, .int .i64 0], .int .i64 11]) (by simp [results, Tryd.results34, go_sem, z0, z1, z2, z3, z4]) rfl ⟨?_, b5⟩
          rw [HIM.out, ← HFS.out.1, ← HFS.out.2.1, ← HFS.out.2.2]
          exact dec_bad hk.out
        · obtain ⟨c0, c1, c2, c3, c4, r0, r1, r2, cl, f1, f2, f3, f4⟩ := s1.facts h HF.out.1 HF.out.2.1 HF.out.2.2
          go_wp2_with fail
          refine (check_ok _ _ _ _ _ _ he ho).mono ?_
          rintro e wc ⟨rfl, hb⟩
          have hk := Lib.hid ho
          clear ho he
          replace s1 := s1.grow hb
          clear hb c0 c1 c2 c3 c4 r0 r1 r2 cl f1 f2 f3 f4
          obtain ⟨c0, c1, c2, c3, c4, r0, r1, r2, cl, f1, f2, f3, f4⟩ := s1.facts h HF.out.1 HF.out.2.1 HF.out.2.2
          obtain ⟨⟨g0, g1, g2, g3, g4⟩, k0, k1, k2, k3, k4⟩ := s1.facts2
          go_wp2_with fail
          obtain ⟨b5, h5⟩ := store5 (x0 := .int .i64 (v / 67108864)) (x1 := .int .i64 fd) (x2 := .int .i64 fa) (x3 := .int .i64 fb) (x4 := .int .i64 raw) s1.below s1.res (by omega)
          obtain ⟨wz, hw⟩ : ∃ wz, wz = ((((wc.setCell ⟨R, 0, none⟩ (.int .i64 (v / 67108864))).setCell ⟨R, 1, none⟩ (.int .i64 fd)).setCell ⟨R, 2, none⟩ (.int .i64 fa)).setCell ⟨R, 3, none⟩ (.int .i64 fb)).setCell ⟨R, 4, none⟩ (.int .i64 raw) := ⟨_, rfl⟩
          rw [← hw] at b5 h5 ⊢
          clear hw
          obtain ⟨z0, z1, z2, z3, z4⟩ := cells5 h5
          refine bodyPost_ret (v := .tuple #[.agg #[.int .i64 (v / 67108864), .int .i64 fd, .int .i64 fa, .int .i64 fb, .int .i64 raw], .int .i64 0]) (by simp [results, Tryd.results34, go_sem, z0, z1, z2, z3, z4]) rfl ⟨?_, b5⟩
          rw [HIM.out, ← HFS.out.1, ← HFS.out.2.1, ← HFS.out.2.2]
          exact dec_ok hk.out
    · have hdn : decide (lo < 0) = false := by simpa using hn
      have HR2 : Hid (Isa.fImm v = raw) := by unfold Hid; rw [HR.out, if_neg (fun hq => hn hq.1)]
      clear HR
      go_wp2_with fail
      clear hdn hn hhi1
      have HIM := HR2
      clear HR2
      clear c0 c1 c2 c3 c4 r0 r1 r2 cl f1 f2 f3 f4
      have he := h.below s1.below
      cases ho : Isa.ok (v / 67108864) fd fa fb raw
      · obtain ⟨c0, c1, c2, c3, c4, r0, r1, r2, cl, f1, f2, f3, f4⟩ := s1.facts h HF.out.1 HF.out.2.1 HF.out.2.2
        go_wp2_with fail
        refine (check_bad _ _ _ _ _ _ he ho).mono ?_
        rintro e wc ⟨rfl, hb⟩
        have hk := Lib.hid ho
        clear ho he
        replace s1 := s1.grow hb
        clear hb c0 c1 c2 c3 c4 r0 r1 r2 cl f1 f2 f3 f4
        obtain ⟨c0, c1, c2, c3, c4, r0, r1, r2, cl, f1, f2, f3, f4⟩ := s1.facts h HF.out.1 HF.out.2.1 HF.out.2.2
        obtain ⟨⟨g0, g1, g2, g3, g4⟩, k0, k1, k2, k3, k4⟩ := s1.facts2
        go_wp2_with fail
        obtain ⟨b5, h5⟩ := store5 (x0 := .int .i64 0) (x1 := .int .i64 0) (x2 := .int .i64 0) (x3 := .int .i64 0) (x4 := .int .i64 0) s1.below s1.res (by omega)
        obtain ⟨wz, hw⟩ : ∃ wz, wz = ((((wc.setCell ⟨R, 0, none⟩ (.int .i64 0)).setCell ⟨R, 1, none⟩ (.int .i64 0)).setCell ⟨R, 2, none⟩ (.int .i64 0)).setCell ⟨R, 3, none⟩ (.int .i64 0)).setCell ⟨R, 4, none⟩ (.int .i64 0) := ⟨_, rfl⟩
        rw [← hw] at b5 h5 ⊢
        clear hw
        obtain ⟨z0, z1, z2, z3, z4⟩ := cells5 h5
        refine bodyPost_ret (v := .tuple #[.agg #[.int .i64 0, .int .i64 0, .int .i64 0, .int .i64 0, .int .i64 0], .int .i64 11]) (by simp [results, Tryd.results34, go_sem, z0, z1, z2, z3, z4]) rfl ⟨?_, b5⟩
        rw [HIM.out, ← HFS.out.1, ← HFS.out.2.1, ← HFS.out.2.2]
        exact dec_bad hk.out
      · obtain ⟨c0, c1, c2, c3, c4, r0, r1, r2, cl, f1, f2, f3, f4⟩ := s1.facts h HF.out.1 HF.out.2.1 HF.out.2.2
        go_wp2_with fail
        refine (check_ok _ _ _ _ _ _ he ho).mono ?_
        rintro e wc ⟨rfl, hb⟩
        have hk := Lib.hid ho
        clear ho he
        replace s1 := s1.grow hb
        clear hb c0 c1 c2 c3 c4 r0 r1 r2 cl f1 f2 f3 f4
        obtain ⟨c0, c1, c2, c3, c4, r0, r1, r2, cl, f1, f2, f3, f4⟩ := s1.facts h HF.out.1 HF.out.2.1 HF.out.2.2
        obtain ⟨⟨g0, g1, g2, g3, g4⟩, k0, k1, k2, k3, k4⟩ := s1.facts2
        go_wp2_with fail
        obtain ⟨b5, h5⟩ := store5 (x0 := .int .i64 (v / 67108864)) (x1 := .int .i64 fd) (x2 := .int .i64 fa) (x3 := .int .i64 fb) (x4 := .int .i64 raw) s1.below s1.res (by omega)
        obtain ⟨wz, hw⟩ : ∃ wz, wz = ((((wc.setCell ⟨R, 0, none⟩ (.int .i64 (v / 67108864))).setCell ⟨R, 1, none⟩ (.int .i64 fd)).setCell ⟨R, 2, none⟩ (.int .i64 fa)).setCell ⟨R, 3, none⟩ (.int .i64 fb)).setCell ⟨R, 4, none⟩ (.int .i64 raw) := ⟨_, rfl⟩
        rw [← hw] at b5 h5 ⊢
        clear hw
        obtain ⟨z0, z1, z2, z3, z4⟩ := cells5 h5
        refine bodyPost_ret (v := .tuple #[.agg #[.int .i64 (v / 67108864), .int .i64 fd, .int .i64 fa, .int .i64 fb, .int .i64 raw], .int .i64 0]) (by simp [results, Tryd.results34, go_sem, z0, z1, z2, z3, z4]) rfl ⟨?_, b5⟩
        rw [HIM.out, ← HFS.out.1, ← HFS.out.2.1, ← HFS.out.2.2]
        exact dec_ok hk.out
end Go.Proofs.YticleblhmkikaaaDoor
