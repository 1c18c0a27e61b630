/- Contracts: Encode. Conditions: the tables are as laid. -/
import Derived.Test.YtbplmbignalbgaaDoorIsaWb
import Derived.Test.YtbplmbignalbgaaDoorIsaWc
namespace Go.Proofs.YtbplmbignalbgaaDoor
open Go.RowKit

theorem check_ok (op d a b imm : Int) (w : World) (h : Env w) (ho : Isa.ok op d a b imm = true) :
    Calls Tryd.prog 56 #[.agg #[.int .i64 op, .int .i64 d, .int .i64 a, .int .i64 b, .int .i64 imm]] w fun e w' => e = .returned (.int .i64 0) ∧ Below w.heap.size w w' :=
  (check_any op d a b imm w h).mono fun e w' ⟨he, hb⟩ => ⟨by rw [he]; unfold chk; rw [if_pos ho], hb⟩
theorem check_bad (op d a b imm : Int) (w : World) (h : Env w) (ho : Isa.ok op d a b imm = false) :
    Calls Tryd.prog 56 #[.agg #[.int .i64 op, .int .i64 d, .int .i64 a, .int .i64 b, .int .i64 imm]] w fun e w' => e = .returned (.int .i64 11) ∧ Below w.heap.size w w' :=
  (check_any op d a b imm w h).mono fun e w' ⟨he, hb⟩ => ⟨by rw [he]; unfold chk; rw [if_neg (by rw [ho]; decide)], hb⟩

set_option maxRecDepth 100000 in
set_option maxHeartbeats 1000000 in
theorem encode_bad (op d a b imm : Int) (w : World) (h : Env w) (ho : Isa.ok op d a b imm = false) :
    Calls Tryd.prog 62 #[.agg #[.int .i64 op, .int .i64 d, .int .i64 a, .int .i64 b, .int .i64 imm]] w fun e w' => e = .returned (.tuple #[.int .u32 0, .int .i64 11]) ∧ Below w.heap.size w w' := by
  have H := Lib.hid ho
  clear ho
  go_enter Tryd.func62, Tryd.ntmps62
  go_wp2_with fail
  refine (check_bad _ _ _ _ _ _ (h.alloc _) H.out).mono ?_
  rintro e w1 ⟨rfl, hb⟩
  go_wp2_with fail
  go_ret2
  exact ⟨rfl, ((Below.refl _ _).alloc (Nat.le_refl _) _).trans (hb.mono (by simp))⟩

/-- Between the puts: the instruction's block, what is left, the word so far. -/
structure St (W : World) (B V : Nat) (op d a b imm left v : Int) (w : World) : Prop where
  below : Below W.heap.size W w
  inst : w.heap[B]? = some (.cells #[.int .i64 op, .int .i64 d, .int .i64 a, .int .i64 b, .int .i64 imm] 37 (0, 0))
  left : w.heap[V + 1]? = some (.cells #[.int .i64 left] 3 (0, 0))
  word : w.heap[V]? = some (.cells #[.int .u32 v] 38 (0, 0))
  size : V + 2 ≤ w.heap.size
  lt : B < V
  le : W.heap.size ≤ B
theorem St.put {W : World} {B V : Nat} {op d a b imm left v left2 v2 : Int} {w w2 : World} (s : St W B V op d a b imm left v w) (t : Two (V + 1) V (.int .i64 left2) (.int .u32 v2) 3 38 w w2) : St W B V op d a b imm left2 v2 w2 where
  below := s.below.trans (t.below (by have := s.lt; have := s.le; omega) (by have := s.lt; have := s.le; omega))
  inst := (t.other B (by have := s.lt; omega) (by have := s.lt; omega)).trans s.inst
  left := t.first
  word := t.second
  size := by rw [t.size]; exact s.size
  lt := s.lt
  le := s.le
theorem St.grow {W : World} {B V : Nat} {op d a b imm left v : Int} {w w2 : World} (s : St W B V op d a b imm left v w) (hb : Below w.heap.size w w2) : St W B V op d a b imm left v w2 where
  below := s.below.trans (hb.mono s.below.size)
  inst := (hb.block B (by have := s.lt; have := s.size; omega)).trans s.inst
  left := (hb.block (V + 1) (by have := s.size; omega)).trans s.left
  word := (hb.block V (by have := s.size; omega)).trans s.word
  size := Nat.le_trans s.size hb.size
  lt := s.lt
  le := s.le
theorem St.facts {W : World} {B V : Nat} {op d a b imm left v : Int} {w : World} {x0 x1 x2 : Bool} (s : St W B V op d a b imm left v w) (h : Env W) (e0 : Isa.shape (Isa.form op) 0 = x0) (e1 : Isa.shape (Isa.form op) 1 = x1) (e2 : Isa.shape (Isa.form op) 2 = x2) :
    w.cell? ⟨B, 0, none⟩ = some (.int .i64 op) ∧ w.cell? ⟨B, 1, none⟩ = some (.int .i64 d) ∧ w.cell? ⟨B, 2, none⟩ = some (.int .i64 a) ∧ w.cell? ⟨B, 3, none⟩ = some (.int .i64 b) ∧ w.cell? ⟨B, 4, none⟩ = some (.int .i64 imm) ∧
    w.cell? ⟨0, Isa.form op * 4, none⟩ = some (.bool x0) ∧ w.cell? ⟨0, Isa.form op * 4 + 1, none⟩ = some (.bool x1) ∧ w.cell? ⟨0, Isa.form op * 4 + 2, none⟩ = some (.bool x2) ∧
    w.cell? ⟨V + 1, 0, none⟩ = some (.int .i64 left) ∧ w.cell? ⟨V, 0, none⟩ = some (.int .u32 v) := by
  have hl := Isa.form_le op
  have he := h.below s.below
  obtain ⟨c0, c1, c2, c3, c4⟩ := cells5 s.inst
  subst e0 e1 e2
  exact ⟨c0, c1, c2, c3, c4, he.shapes _ 0 (by omega) (by omega), he.shapes _ 1 (by omega) (by omega), he.shapes _ 2 (by omega) (by omega), cell_of_one s.left, cell_of_one s.word⟩
theorem ok_bounds {op d a b imm : Int} (ho : Isa.ok op d a b imm = true) : (1 ≤ op ∧ op ≤ 36) ∧ (0 ≤ d ∧ d ≤ 31) ∧ (0 ≤ a ∧ a ≤ 31) ∧ (0 ≤ b ∧ b ≤ 31) := by
  unfold Isa.ok Isa.regOk at ho
  simp only [Bool.and_eq_true, decide_eq_true_eq] at ho
  obtain ⟨⟨⟨⟨⟨h1, h2, h3⟩, h4, h5⟩, h6, h7⟩, -⟩, -⟩ := ho
  have hp := Isa.form_pos op
  refine ⟨by omega, ⟨h2, ?_⟩, ⟨h4, ?_⟩, ⟨h6, ?_⟩⟩
  · split at h3 <;> omega
  · split at h5 <;> omega
  · split at h7 <;> omega

set_option maxRecDepth 100000 in
set_option maxHeartbeats 4000000 in
theorem encode_ttt (op d a b imm : Int) (w : World) (h : Env w) (ho : Isa.ok op d a b imm = true)
    (e0 : Isa.shape (Isa.form op) 0 = true) (e1 : Isa.shape (Isa.form op) 1 = true) (e2 : Isa.shape (Isa.form op) 2 = true) :
    Calls Tryd.prog 62 #[.agg #[.int .i64 op, .int .i64 d, .int .i64 a, .int .i64 b, .int .i64 imm]] w fun e w' => e = .returned (.tuple #[.int .u32 (Isa.word op d a b imm), .int .i64 0]) ∧ Below w.heap.size w w' := by
  obtain ⟨⟨o1, o2⟩, ⟨d1, d2⟩, ⟨a1, a2⟩, ⟨b1, b2⟩⟩ := ok_bounds ho
  have hl := Isa.form_le op
  have hsz := h.size
  have H := Lib.hid (And.intro ho (And.intro e0 (And.intro e1 e2)))
  have HW : Hid (Isa.word op d a b imm = Isa.encW true true true op d a b imm) := by unfold Hid Isa.word; rw [e0, e1, e2]
  clear ho e0 e1 e2
  go_enter Tryd.func62, Tryd.ntmps62
  go_wp2_with fail
  refine (check_ok _ _ _ _ _ _ (h.alloc _) H.out.1).mono ?_
  rintro e w1 ⟨rfl, hb⟩
  have hb0 := (Below.alloc (Below.refl w.heap.size w) (Nat.le_refl _) (.cells #[.int .i64 op, .int .i64 d, .int .i64 a, .int .i64 b, .int .i64 imm] 37)).trans (hb.mono (by simp))
  have hI := Lib.hid ((hb.block w.heap.size (by simp)).trans (heap_new w (.cells #[.int .i64 op, .int .i64 d, .int .i64 a, .int .i64 b, .int .i64 imm] 37)))
  obtain ⟨c0, -, -, -, -⟩ := cells5 hI.out
  have hz : w.heap.size < w1.heap.size := by have := hb.size; simp at this; omega
  have hz1 : w.heap.size < w1.heap.size + 1 := by omega
  clear hb
  have i0 := idx0; have i1 := idx1; have i2 := idx2
  go_wp2_with fail
  have s1 : St w w.heap.size w1.heap.size op d a b imm 32 0 ((w1.alloc (.cells #[.int .u32 0] 38)).alloc (.cells #[.int .i64 32] 3)) :=
    ⟨(hb0.alloc (by omega) _).alloc (by simp; omega) _, (Below.heap_alloc _ _ _ (by simp; omega)).trans ((Below.heap_alloc _ _ _ (by omega)).trans hI.out), by rw [← World.size_alloc w1 (.cells #[.int .u32 0] 38)]; exact heap_new _ _,
      (Below.heap_alloc _ _ _ (by simp)).trans (heap_new _ _), by simp, hz, Nat.le_refl _⟩
  refine (put_num op 6 32 6 32 26 0 (op * 67108864) (w1.heap.size + 1) w1.heap.size _ (by omega) (by decide) (by decide) (by decide) rfl rfl rfl (by decide) (by decide) (by decide) (by simp only [Int.reducePow, Nat.reduceSub]; omega) s1.left s1.word).mono ?_
  rintro e w2 ⟨rfl, t2⟩
  replace s1 := s1.put t2
  clear t2 c0
  obtain ⟨V, hV⟩ : ∃ V, V = w1.heap.size := ⟨_, rfl⟩
  rw [← hV] at s1 hz hz1 ⊢
  clear hV hb0 hI
  go_wp2_with fail
  refine (registers_any _ _).mono ?_
  rintro e w3 ⟨rfl, hb⟩
  replace s1 := s1.grow hb
  clear hb
  obtain ⟨c0, c1, c2, c3, c4, r0, r1, r2, cl, cv⟩ := s1.facts h H.out.2.1 H.out.2.2.1 H.out.2.2.2
  go_wp2_with fail
  refine wp_loop_rounds 4 ?_
  rw [rounds_succ]
  go_wp2_with fail
  refine (form_any _ _).mono ?_
  rintro e w' ⟨rfl, rfl⟩
  go_wp2_with fail
  refine (put_num d 5 26 5 26 21 (op * 67108864) (op * 67108864 + d * 2097152) (V + 1) V _ (by omega) (by decide) (by decide) (by decide) rfl rfl rfl (by omega) (by omega) (by simp only [Int.reducePow]; omega) (by simp only [Int.reducePow, Nat.reduceSub]; omega) s1.left s1.word).mono ?_
  rintro e w4 ⟨rfl, t2⟩
  replace s1 := s1.put t2
  clear t2 c0 c1 c2 c3 c4 r0 r1 r2 cl cv
  obtain ⟨c0, c1, c2, c3, c4, r0, r1, r2, cl, cv⟩ := s1.facts h H.out.2.1 H.out.2.2.1 H.out.2.2.2
  go_wp2_with fail
  rw [rounds_succ]
  go_wp2_with fail
  refine (form_any _ _).mono ?_
  rintro e w' ⟨rfl, rfl⟩
  go_wp2_with fail
  refine (put_num a 5 21 5 21 16 (op * 67108864 + d * 2097152) (op * 67108864 + d * 2097152 + a * 65536) (V + 1) V _ (by omega) (by decide) (by decide) (by decide) rfl rfl rfl (by omega) (by omega) (by simp only [Int.reducePow]; omega) (by simp only [Int.reducePow, Nat.reduceSub]; omega) s1.left s1.word).mono ?_
  rintro e w5 ⟨rfl, t2⟩
  replace s1 := s1.put t2
  clear t2 c0 c1 c2 c3 c4 r0 r1 r2 cl cv
  obtain ⟨c0, c1, c2, c3, c4, r0, r1, r2, cl, cv⟩ := s1.facts h H.out.2.1 H.out.2.2.1 H.out.2.2.2
  go_wp2_with fail
  rw [rounds_succ]
  go_wp2_with fail
  refine (form_any _ _).mono ?_
  rintro e w' ⟨rfl, rfl⟩
  go_wp2_with fail
  refine (put_num b 5 16 5 16 11 (op * 67108864 + d * 2097152 + a * 65536) (op * 67108864 + d * 2097152 + a * 65536 + b * 2048) (V + 1) V _ (by omega) (by decide) (by decide) (by decide) rfl rfl rfl (by omega) (by omega) (by simp only [Int.reducePow]; omega) (by simp only [Int.reducePow, Nat.reduceSub]; omega) s1.left s1.word).mono ?_
  rintro e w6 ⟨rfl, t2⟩
  replace s1 := s1.put t2
  clear t2 c0 c1 c2 c3 c4 r0 r1 r2 cl cv
  obtain ⟨c0, c1, c2, c3, c4, r0, r1, r2, cl, cv⟩ := s1.facts h H.out.2.1 H.out.2.2.1 H.out.2.2.2
  go_wp2_with fail
  rw [rounds_succ]
  go_wp2_with fail
  refine (put_num imm 11 11 11 11 0 (op * 67108864 + d * 2097152 + a * 65536 + b * 2048) (op * 67108864 + d * 2097152 + a * 65536 + b * 2048 + imm % 2048) (V + 1) V _ (by omega) (by decide) (by decide) (by decide) rfl rfl rfl (by omega) (by omega) (by simp only [Int.reducePow]; omega) (by simp only [Int.reducePow, Nat.reduceSub]; omega) s1.left s1.word).mono ?_
  rintro e w7 ⟨rfl, t2⟩
  replace s1 := s1.put t2
  clear t2 c0 c1 c2 c3 c4 r0 r1 r2 cl cv
  obtain ⟨c0, c1, c2, c3, c4, r0, r1, r2, cl, cv⟩ := s1.facts h H.out.2.1 H.out.2.2.1 H.out.2.2.2
  go_wp2_with fail
  go_ret2
  exact ⟨by rw [HW.out]; rfl, s1.below⟩

set_option maxRecDepth 100000 in
set_option maxHeartbeats 4000000 in
theorem encode_ttf (op d a b imm : Int) (w : World) (h : Env w) (ho : Isa.ok op d a b imm = true)
    (e0 : Isa.shape (Isa.form op) 0 = true) (e1 : Isa.shape (Isa.form op) 1 = true) (e2 : Isa.shape (Isa.form op) 2 = false) :
    Calls Tryd.prog 62 #[.agg #[.int .i64 op, .int .i64 d, .int .i64 a, .int .i64 b, .int .i64 imm]] w fun e w' => e = .returned (.tuple #[.int .u32 (Isa.word op d a b imm), .int .i64 0]) ∧ Below w.heap.size w w' := by
  obtain ⟨⟨o1, o2⟩, ⟨d1, d2⟩, ⟨a1, a2⟩, ⟨b1, b2⟩⟩ := ok_bounds ho
  have hl := Isa.form_le op
  have hsz := h.size
  have H := Lib.hid (And.intro ho (And.intro e0 (And.intro e1 e2)))
  have HW : Hid (Isa.word op d a b imm = Isa.encW true true false op d a b imm) := by unfold Hid Isa.word; rw [e0, e1, e2]
  clear ho e0 e1 e2
  go_enter Tryd.func62, Tryd.ntmps62
  go_wp2_with fail
  refine (check_ok _ _ _ _ _ _ (h.alloc _) H.out.1).mono ?_
  rintro e w1 ⟨rfl, hb⟩
  have hb0 := (Below.alloc (Below.refl w.heap.size w) (Nat.le_refl _) (.cells #[.int .i64 op, .int .i64 d, .int .i64 a, .int .i64 b, .int .i64 imm] 37)).trans (hb.mono (by simp))
  have hI := Lib.hid ((hb.block w.heap.size (by simp)).trans (heap_new w (.cells #[.int .i64 op, .int .i64 d, .int .i64 a, .int .i64 b, .int .i64 imm] 37)))
  obtain ⟨c0, -, -, -, -⟩ := cells5 hI.out
  have hz : w.heap.size < w1.heap.size := by have := hb.size; simp at this; omega
  have hz1 : w.heap.size < w1.heap.size + 1 := by omega
  clear hb
  have i0 := idx0; have i1 := idx1; have i2 := idx2
  go_wp2_with fail
  have s1 : St w w.heap.size w1.heap.size op d a b imm 32 0 ((w1.alloc (.cells #[.int .u32 0] 38)).alloc (.cells #[.int .i64 32] 3)) :=
    ⟨(hb0.alloc (by omega) _).alloc (by simp; omega) _, (Below.heap_alloc _ _ _ (by simp; omega)).trans ((Below.heap_alloc _ _ _ (by omega)).trans hI.out), by rw [← World.size_alloc w1 (.cells #[.int .u32 0] 38)]; exact heap_new _ _,
      (Below.heap_alloc _ _ _ (by simp)).trans (heap_new _ _), by simp, hz, Nat.le_refl _⟩
  refine (put_num op 6 32 6 32 26 0 (op * 67108864) (w1.heap.size + 1) w1.heap.size _ (by omega) (by decide) (by decide) (by decide) rfl rfl rfl (by decide) (by decide) (by decide) (by simp only [Int.reducePow, Nat.reduceSub]; omega) s1.left s1.word).mono ?_
  rintro e w2 ⟨rfl, t2⟩
  replace s1 := s1.put t2
  clear t2 c0
  obtain ⟨V, hV⟩ : ∃ V, V = w1.heap.size := ⟨_, rfl⟩
  rw [← hV] at s1 hz hz1 ⊢
  clear hV hb0 hI
  go_wp2_with fail
  refine (registers_any _ _).mono ?_
  rintro e w3 ⟨rfl, hb⟩
  replace s1 := s1.grow hb
  clear hb
  obtain ⟨c0, c1, c2, c3, c4, r0, r1, r2, cl, cv⟩ := s1.facts h H.out.2.1 H.out.2.2.1 H.out.2.2.2
  go_wp2_with fail
  refine wp_loop_rounds 4 ?_
  rw [rounds_succ]
  go_wp2_with fail
  refine (form_any _ _).mono ?_
  rintro e w' ⟨rfl, rfl⟩
  go_wp2_with fail
  refine (put_num d 5 26 5 26 21 (op * 67108864) (op * 67108864 + d * 2097152) (V + 1) V _ (by omega) (by decide) (by decide) (by decide) rfl rfl rfl (by omega) (by omega) (by simp only [Int.reducePow]; omega) (by simp only [Int.reducePow, Nat.reduceSub]; omega) s1.left s1.word).mono ?_
  rintro e w4 ⟨rfl, t2⟩
  replace s1 := s1.put t2
  clear t2 c0 c1 c2 c3 c4 r0 r1 r2 cl cv
  obtain ⟨c0, c1, c2, c3, c4, r0, r1, r2, cl, cv⟩ := s1.facts h H.out.2.1 H.out.2.2.1 H.out.2.2.2
  go_wp2_with fail
  rw [rounds_succ]
  go_wp2_with fail
  refine (form_any _ _).mono ?_
  rintro e w' ⟨rfl, rfl⟩
  go_wp2_with fail
  refine (put_num a 5 21 5 21 16 (op * 67108864 + d * 2097152) (op * 67108864 + d * 2097152 + a * 65536) (V + 1) V _ (by omega) (by decide) (by decide) (by decide) rfl rfl rfl (by omega) (by omega) (by simp only [Int.reducePow]; omega) (by simp only [Int.reducePow, Nat.reduceSub]; omega) s1.left s1.word).mono ?_
  rintro e w5 ⟨rfl, t2⟩
  replace s1 := s1.put t2
  clear t2 c0 c1 c2 c3 c4 r0 r1 r2 cl cv
  obtain ⟨c0, c1, c2, c3, c4, r0, r1, r2, cl, cv⟩ := s1.facts h H.out.2.1 H.out.2.2.1 H.out.2.2.2
  go_wp2_with fail
  rw [rounds_succ]
  go_wp2_with fail
  refine (form_any _ _).mono ?_
  rintro e w' ⟨rfl, rfl⟩
  go_wp2_with fail
  rw [rounds_succ]
  go_wp2_with fail
  refine (put_num imm 16 16 16 16 0 (op * 67108864 + d * 2097152 + a * 65536) (op * 67108864 + d * 2097152 + a * 65536 + imm % 65536) (V + 1) V _ (by omega) (by decide) (by decide) (by decide) rfl rfl rfl (by omega) (by omega) (by simp only [Int.reducePow]; omega) (by simp only [Int.reducePow, Nat.reduceSub]; omega) s1.left s1.word).mono ?_
  rintro e w6 ⟨rfl, t2⟩
  replace s1 := s1.put t2
  clear t2 c0 c1 c2 c3 c4 r0 r1 r2 cl cv
  obtain ⟨c0, c1, c2, c3, c4, r0, r1, r2, cl, cv⟩ := s1.facts h H.out.2.1 H.out.2.2.1 H.out.2.2.2
  go_wp2_with fail
  go_ret2
  exact ⟨by rw [HW.out]; rfl, s1.below⟩

set_option maxRecDepth 100000 in
set_option maxHeartbeats 4000000 in
theorem encode_tff (op d a b imm : Int) (w : World) (h : Env w) (ho : Isa.ok op d a b imm = true)
    (e0 : Isa.shape (Isa.form op) 0 = true) (e1 : Isa.shape (Isa.form op) 1 = false) (e2 : Isa.shape (Isa.form op) 2 = false) :
    Calls Tryd.prog 62 #[.agg #[.int .i64 op, .int .i64 d, .int .i64 a, .int .i64 b, .int .i64 imm]] w fun e w' => e = .returned (.tuple #[.int .u32 (Isa.word op d a b imm), .int .i64 0]) ∧ Below w.heap.size w w' := by
  obtain ⟨⟨o1, o2⟩, ⟨d1, d2⟩, ⟨a1, a2⟩, ⟨b1, b2⟩⟩ := ok_bounds ho
  have hl := Isa.form_le op
  have hsz := h.size
  have H := Lib.hid (And.intro ho (And.intro e0 (And.intro e1 e2)))
  have HW : Hid (Isa.word op d a b imm = Isa.encW true false false op d a b imm) := by unfold Hid Isa.word; rw [e0, e1, e2]
  clear ho e0 e1 e2
  go_enter Tryd.func62, Tryd.ntmps62
  go_wp2_with fail
  refine (check_ok _ _ _ _ _ _ (h.alloc _) H.out.1).mono ?_
  rintro e w1 ⟨rfl, hb⟩
  have hb0 := (Below.alloc (Below.refl w.heap.size w) (Nat.le_refl _) (.cells #[.int .i64 op, .int .i64 d, .int .i64 a, .int .i64 b, .int .i64 imm] 37)).trans (hb.mono (by simp))
  have hI := Lib.hid ((hb.block w.heap.size (by simp)).trans (heap_new w (.cells #[.int .i64 op, .int .i64 d, .int .i64 a, .int .i64 b, .int .i64 imm] 37)))
  obtain ⟨c0, -, -, -, -⟩ := cells5 hI.out
  have hz : w.heap.size < w1.heap.size := by have := hb.size; simp at this; omega
  have hz1 : w.heap.size < w1.heap.size + 1 := by omega
  clear hb
  have i0 := idx0; have i1 := idx1; have i2 := idx2
  go_wp2_with fail
  have s1 : St w w.heap.size w1.heap.size op d a b imm 32 0 ((w1.alloc (.cells #[.int .u32 0] 38)).alloc (.cells #[.int .i64 32] 3)) :=
    ⟨(hb0.alloc (by omega) _).alloc (by simp; omega) _, (Below.heap_alloc _ _ _ (by simp; omega)).trans ((Below.heap_alloc _ _ _ (by omega)).trans hI.out), by rw [← World.size_alloc w1 (.cells #[.int .u32 0] 38)]; exact heap_new _ _,
      (Below.heap_alloc _ _ _ (by simp)).trans (heap_new _ _), by simp, hz, Nat.le_refl _⟩
  refine (put_num op 6 32 6 32 26 0 (op * 67108864) (w1.heap.size + 1) w1.heap.size _ (by omega) (by decide) (by decide) (by decide) rfl rfl rfl (by decide) (by decide) (by decide) (by simp only [Int.reducePow, Nat.reduceSub]; omega) s1.left s1.word).mono ?_
  rintro e w2 ⟨rfl, t2⟩
  replace s1 := s1.put t2
  clear t2 c0
  obtain ⟨V, hV⟩ : ∃ V, V = w1.heap.size := ⟨_, rfl⟩
  rw [← hV] at s1 hz hz1 ⊢
  clear hV hb0 hI
  go_wp2_with fail
  refine (registers_any _ _).mono ?_
  rintro e w3 ⟨rfl, hb⟩
  replace s1 := s1.grow hb
  clear hb
  obtain ⟨c0, c1, c2, c3, c4, r0, r1, r2, cl, cv⟩ := s1.facts h H.out.2.1 H.out.2.2.1 H.out.2.2.2
  go_wp2_with fail
  refine wp_loop_rounds 4 ?_
  rw [rounds_succ]
  go_wp2_with fail
  refine (form_any _ _).mono ?_
  rintro e w' ⟨rfl, rfl⟩
  go_wp2_with fail
  refine (put_num d 5 26 5 26 21 (op * 67108864) (op * 67108864 + d * 2097152) (V + 1) V _ (by omega) (by decide) (by decide) (by decide) rfl rfl rfl (by omega) (by omega) (by simp only [Int.reducePow]; omega) (by simp only [Int.reducePow, Nat.reduceSub]; omega) s1.left s1.word).mono ?_
  rintro e w4 ⟨rfl, t2⟩
  replace s1 := s1.put t2
  clear t2 c0 c1 c2 c3 c4 r0 r1 r2 cl cv
  obtain ⟨c0, c1, c2, c3, c4, r0, r1, r2, cl, cv⟩ := s1.facts h H.out.2.1 H.out.2.2.1 H.out.2.2.2
  go_wp2_with fail
  rw [rounds_succ]
  go_wp2_with fail
  refine (form_any _ _).mono ?_
  rintro e w' ⟨rfl, rfl⟩
  go_wp2_with fail
  rw [rounds_succ]
  go_wp2_with fail
  refine (form_any _ _).mono ?_
  rintro e w' ⟨rfl, rfl⟩
  go_wp2_with fail
  rw [rounds_succ]
  go_wp2_with fail
  refine (put_num imm 21 21 21 21 0 (op * 67108864 + d * 2097152) (op * 67108864 + d * 2097152 + imm % 2097152) (V + 1) V _ (by omega) (by decide) (by decide) (by decide) rfl rfl rfl (by omega) (by omega) (by simp only [Int.reducePow]; omega) (by simp only [Int.reducePow, Nat.reduceSub]; omega) s1.left s1.word).mono ?_
  rintro e w5 ⟨rfl, t2⟩
  replace s1 := s1.put t2
  clear t2 c0 c1 c2 c3 c4 r0 r1 r2 cl cv
  obtain ⟨c0, c1, c2, c3, c4, r0, r1, r2, cl, cv⟩ := s1.facts h H.out.2.1 H.out.2.2.1 H.out.2.2.2
  go_wp2_with fail
  go_ret2
  exact ⟨by rw [HW.out]; rfl, s1.below⟩

set_option maxRecDepth 100000 in
set_option maxHeartbeats 4000000 in
theorem encode_ftt (op d a b imm : Int) (w : World) (h : Env w) (ho : Isa.ok op d a b imm = true)
    (e0 : Isa.shape (Isa.form op) 0 = false) (e1 : Isa.shape (Isa.form op) 1 = true) (e2 : Isa.shape (Isa.form op) 2 = true) :
    Calls Tryd.prog 62 #[.agg #[.int .i64 op, .int .i64 d, .int .i64 a, .int .i64 b, .int .i64 imm]] w fun e w' => e = .returned (.tuple #[.int .u32 (Isa.word op d a b imm), .int .i64 0]) ∧ Below w.heap.size w w' := by
  obtain ⟨⟨o1, o2⟩, ⟨d1, d2⟩, ⟨a1, a2⟩, ⟨b1, b2⟩⟩ := ok_bounds ho
  have hl := Isa.form_le op
  have hsz := h.size
  have H := Lib.hid (And.intro ho (And.intro e0 (And.intro e1 e2)))
  have HW : Hid (Isa.word op d a b imm = Isa.encW false true true op d a b imm) := by unfold Hid Isa.word; rw [e0, e1, e2]
  clear ho e0 e1 e2
  go_enter Tryd.func62, Tryd.ntmps62
  go_wp2_with fail
  refine (check_ok _ _ _ _ _ _ (h.alloc _) H.out.1).mono ?_
  rintro e w1 ⟨rfl, hb⟩
  have hb0 := (Below.alloc (Below.refl w.heap.size w) (Nat.le_refl _) (.cells #[.int .i64 op, .int .i64 d, .int .i64 a, .int .i64 b, .int .i64 imm] 37)).trans (hb.mono (by simp))
  have hI := Lib.hid ((hb.block w.heap.size (by simp)).trans (heap_new w (.cells #[.int .i64 op, .int .i64 d, .int .i64 a, .int .i64 b, .int .i64 imm] 37)))
  obtain ⟨c0, -, -, -, -⟩ := cells5 hI.out
  have hz : w.heap.size < w1.heap.size := by have := hb.size; simp at this; omega
  have hz1 : w.heap.size < w1.heap.size + 1 := by omega
  clear hb
  have i0 := idx0; have i1 := idx1; have i2 := idx2
  go_wp2_with fail
  have s1 : St w w.heap.size w1.heap.size op d a b imm 32 0 ((w1.alloc (.cells #[.int .u32 0] 38)).alloc (.cells #[.int .i64 32] 3)) :=
    ⟨(hb0.alloc (by omega) _).alloc (by simp; omega) _, (Below.heap_alloc _ _ _ (by simp; omega)).trans ((Below.heap_alloc _ _ _ (by omega)).trans hI.out), by rw [← World.size_alloc w1 (.cells #[.int .u32 0] 38)]; exact heap_new _ _,
      (Below.heap_alloc _ _ _ (by simp)).trans (heap_new _ _), by simp, hz, Nat.le_refl _⟩
  refine (put_num op 6 32 6 32 26 0 (op * 67108864) (w1.heap.size + 1) w1.heap.size _ (by omega) (by decide) (by decide) (by decide) rfl rfl rfl (by decide) (by decide) (by decide) (by simp only [Int.reducePow, Nat.reduceSub]; omega) s1.left s1.word).mono ?_
  rintro e w2 ⟨rfl, t2⟩
  replace s1 := s1.put t2
  clear t2 c0
  obtain ⟨V, hV⟩ : ∃ V, V = w1.heap.size := ⟨_, rfl⟩
  rw [← hV] at s1 hz hz1 ⊢
  clear hV hb0 hI
  go_wp2_with fail
  refine (registers_any _ _).mono ?_
  rintro e w3 ⟨rfl, hb⟩
  replace s1 := s1.grow hb
  clear hb
  obtain ⟨c0, c1, c2, c3, c4, r0, r1, r2, cl, cv⟩ := s1.facts h H.out.2.1 H.out.2.2.1 H.out.2.2.2
  go_wp2_with fail
  refine wp_loop_rounds 4 ?_
  rw [rounds_succ]
  go_wp2_with fail
  refine (form_any _ _).mono ?_
  rintro e w' ⟨rfl, rfl⟩
  go_wp2_with fail
  rw [rounds_succ]
  go_wp2_with fail
  refine (form_any _ _).mono ?_
  rintro e w' ⟨rfl, rfl⟩
  go_wp2_with fail
  refine (put_num a 5 26 5 26 21 (op * 67108864) (op * 67108864 + a * 2097152) (V + 1) V _ (by omega) (by decide) (by decide) (by decide) rfl rfl rfl (by omega) (by omega) (by simp only [Int.reducePow]; omega) (by simp only [Int.reducePow, Nat.reduceSub]; omega) s1.left s1.word).mono ?_
  rintro e w4 ⟨rfl, t2⟩
  replace s1 := s1.put t2
  clear t2 c0 c1 c2 c3 c4 r0 r1 r2 cl cv
  obtain ⟨c0, c1, c2, c3, c4, r0, r1, r2, cl, cv⟩ := s1.facts h H.out.2.1 H.out.2.2.1 H.out.2.2.2
  go_wp2_with fail
  rw [rounds_succ]
  go_wp2_with fail
  refine (form_any _ _).mono ?_
  rintro e w' ⟨rfl, rfl⟩
  go_wp2_with fail
  refine (put_num b 5 21 5 21 16 (op * 67108864 + a * 2097152) (op * 67108864 + a * 2097152 + b * 65536) (V + 1) V _ (by omega) (by decide) (by decide) (by decide) rfl rfl rfl (by omega) (by omega) (by simp only [Int.reducePow]; omega) (by simp only [Int.reducePow, Nat.reduceSub]; omega) s1.left s1.word).mono ?_
  rintro e w5 ⟨rfl, t2⟩
  replace s1 := s1.put t2
  clear t2 c0 c1 c2 c3 c4 r0 r1 r2 cl cv
  obtain ⟨c0, c1, c2, c3, c4, r0, r1, r2, cl, cv⟩ := s1.facts h H.out.2.1 H.out.2.2.1 H.out.2.2.2
  go_wp2_with fail
  rw [rounds_succ]
  go_wp2_with fail
  refine (put_num imm 16 16 16 16 0 (op * 67108864 + a * 2097152 + b * 65536) (op * 67108864 + a * 2097152 + b * 65536 + imm % 65536) (V + 1) V _ (by omega) (by decide) (by decide) (by decide) rfl rfl rfl (by omega) (by omega) (by simp only [Int.reducePow]; omega) (by simp only [Int.reducePow, Nat.reduceSub]; omega) s1.left s1.word).mono ?_
  rintro e w6 ⟨rfl, t2⟩
  replace s1 := s1.put t2
  clear t2 c0 c1 c2 c3 c4 r0 r1 r2 cl cv
  obtain ⟨c0, c1, c2, c3, c4, r0, r1, r2, cl, cv⟩ := s1.facts h H.out.2.1 H.out.2.2.1 H.out.2.2.2
  go_wp2_with fail
  go_ret2
  exact ⟨by rw [HW.out]; rfl, s1.below⟩

set_option maxRecDepth 100000 in
set_option maxHeartbeats 4000000 in
theorem encode_ftf (op d a b imm : Int) (w : World) (h : Env w) (ho : Isa.ok op d a b imm = true)
    (e0 : Isa.shape (Isa.form op) 0 = false) (e1 : Isa.shape (Isa.form op) 1 = true) (e2 : Isa.shape (Isa.form op) 2 = false) :
    Calls Tryd.prog 62 #[.agg #[.int .i64 op, .int .i64 d, .int .i64 a, .int .i64 b, .int .i64 imm]] w fun e w' => e = .returned (.tuple #[.int .u32 (Isa.word op d a b imm), .int .i64 0]) ∧ Below w.heap.size w w' := by
  obtain ⟨⟨o1, o2⟩, ⟨d1, d2⟩, ⟨a1, a2⟩, ⟨b1, b2⟩⟩ := ok_bounds ho
  have hl := Isa.form_le op
  have hsz := h.size
  have H := Lib.hid (And.intro ho (And.intro e0 (And.intro e1 e2)))
  have HW : Hid (Isa.word op d a b imm = Isa.encW false true false op d a b imm) := by unfold Hid Isa.word; rw [e0, e1, e2]
  clear ho e0 e1 e2
  go_enter Tryd.func62, Tryd.ntmps62
  go_wp2_with fail
  refine (check_ok _ _ _ _ _ _ (h.alloc _) H.out.1).mono ?_
  rintro e w1 ⟨rfl, hb⟩
  have hb0 := (Below.alloc (Below.refl w.heap.size w) (Nat.le_refl _) (.cells #[.int .i64 op, .int .i64 d, .int .i64 a, .int .i64 b, .int .i64 imm] 37)).trans (hb.mono (by simp))
  have hI := Lib.hid ((hb.block w.heap.size (by simp)).trans (heap_new w (.cells #[.int .i64 op, .int .i64 d, .int .i64 a, .int .i64 b, .int .i64 imm] 37)))
  obtain ⟨c0, -, -, -, -⟩ := cells5 hI.out
  have hz : w.heap.size < w1.heap.size := by have := hb.size; simp at this; omega
  have hz1 : w.heap.size < w1.heap.size + 1 := by omega
  clear hb
  have i0 := idx0; have i1 := idx1; have i2 := idx2
  go_wp2_with fail
  have s1 : St w w.heap.size w1.heap.size op d a b imm 32 0 ((w1.alloc (.cells #[.int .u32 0] 38)).alloc (.cells #[.int .i64 32] 3)) :=
    ⟨(hb0.alloc (by omega) _).alloc (by simp; omega) _, (Below.heap_alloc _ _ _ (by simp; omega)).trans ((Below.heap_alloc _ _ _ (by omega)).trans hI.out), by rw [← World.size_alloc w1 (.cells #[.int .u32 0] 38)]; exact heap_new _ _,
      (Below.heap_alloc _ _ _ (by simp)).trans (heap_new _ _), by simp, hz, Nat.le_refl _⟩
  refine (put_num op 6 32 6 32 26 0 (op * 67108864) (w1.heap.size + 1) w1.heap.size _ (by omega) (by decide) (by decide) (by decide) rfl rfl rfl (by decide) (by decide) (by decide) (by simp only [Int.reducePow, Nat.reduceSub]; omega) s1.left s1.word).mono ?_
  rintro e w2 ⟨rfl, t2⟩
  replace s1 := s1.put t2
  clear t2 c0
  obtain ⟨V, hV⟩ : ∃ V, V = w1.heap.size := ⟨_, rfl⟩
  rw [← hV] at s1 hz hz1 ⊢
  clear hV hb0 hI
  go_wp2_with fail
  refine (registers_any _ _).mono ?_
  rintro e w3 ⟨rfl, hb⟩
  replace s1 := s1.grow hb
  clear hb
  obtain ⟨c0, c1, c2, c3, c4, r0, r1, r2, cl, cv⟩ := s1.facts h H.out.2.1 H.out.2.2.1 H.out.2.2.2
  go_wp2_with fail
  refine wp_loop_rounds 4 ?_
  rw [rounds_succ]
  go_wp2_with fail
  refine (form_any _ _).mono ?_
  rintro e w' ⟨rfl, rfl⟩
  go_wp2_with fail
  rw [rounds_succ]
  go_wp2_with fail
  refine (form_any _ _).mono ?_
  rintro e w' ⟨rfl, rfl⟩
  go_wp2_with fail
  refine (put_num a 5 26 5 26 21 (op * 67108864) (op * 67108864 + a * 2097152) (V + 1) V _ (by omega) (by decide) (by decide) (by decide) rfl rfl rfl (by omega) (by omega) (by simp only [Int.reducePow]; omega) (by simp only [Int.reducePow, Nat.reduceSub]; omega) s1.left s1.word).mono ?_
  rintro e w4 ⟨rfl, t2⟩
  replace s1 := s1.put t2
  clear t2 c0 c1 c2 c3 c4 r0 r1 r2 cl cv
  obtain ⟨c0, c1, c2, c3, c4, r0, r1, r2, cl, cv⟩ := s1.facts h H.out.2.1 H.out.2.2.1 H.out.2.2.2
  go_wp2_with fail
  rw [rounds_succ]
  go_wp2_with fail
  refine (form_any _ _).mono ?_
  rintro e w' ⟨rfl, rfl⟩
  go_wp2_with fail
  rw [rounds_succ]
  go_wp2_with fail
  refine (put_num imm 21 21 21 21 0 (op * 67108864 + a * 2097152) (op * 67108864 + a * 2097152 + imm % 2097152) (V + 1) V _ (by omega) (by decide) (by decide) (by decide) rfl rfl rfl (by omega) (by omega) (by simp only [Int.reducePow]; omega) (by simp only [Int.reducePow, Nat.reduceSub]; omega) s1.left s1.word).mono ?_
  rintro e w5 ⟨rfl, t2⟩
  replace s1 := s1.put t2
  clear t2 c0 c1 c2 c3 c4 r0 r1 r2 cl cv
  obtain ⟨c0, c1, c2, c3, c4, r0, r1, r2, cl, cv⟩ := s1.facts h H.out.2.1 H.out.2.2.1 H.out.2.2.2
  go_wp2_with fail
  go_ret2
  exact ⟨by rw [HW.out]; rfl, s1.below⟩
end Go.Proofs.YtbplmbignalbgaaDoor
