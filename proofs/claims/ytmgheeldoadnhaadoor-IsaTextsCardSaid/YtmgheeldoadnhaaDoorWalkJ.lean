/- Contracts: Parse. Conditions: the tables are as laid, the text is short. -/
import Derived.Test.YtmgheeldoadnhaaDoorWalkH
import Derived.Test.YtmgheeldoadnhaaDoorWalkI
import Derived.Deep.DeepCutAuto
import Derived.Deep.CutBlock
namespace Go.Proofs.YtmgheeldoadnhaaDoor
open Go.RowKit

/-- What is read of a text. -/
def pStep (x : Bool) (r m : List UInt8) : Int × List UInt8 := if x then (nextN r m, nextR r) else (0, r)
def pOp (l : List UInt8) : Int := named (Lib.cut l [32]).1
def pSh (l : List UInt8) (j : Nat) : Bool := Isa.shape (Isa.form (pOp l)) j
def p1 (l : List UInt8) : Int × List UInt8 := pStep (pSh l 0) (Lib.cut l [32]).2.1 [114]
def p2 (l : List UInt8) : Int × List UInt8 := pStep (pSh l 1) (p1 l).2 [114]
def p3 (l : List UInt8) : Int × List UInt8 := pStep (pSh l 2) (p2 l).2 [114]
def p4 (l : List UInt8) : Int × List UInt8 := pStep (pSh l 3) (p3 l).2 []
def pOk (l : List UInt8) : Bool := Isa.ok (pOp l) (p1 l).1 (p2 l).1 (p3 l).1 (p4 l).1 && decide (Isa.text (pOp l) (p1 l).1 (p2 l).1 (p3 l).1 (p4 l).1 = l)
/-- What Parse answers. -/
def Par (l : List UInt8) (e : Ending) : Prop :=
  e = .returned (if pOk l = true then .tuple #[.agg #[.int .i64 (pOp l), .int .i64 (p1 l).1, .int .i64 (p2 l).1, .int .i64 (p3 l).1, .int .i64 (p4 l).1], .int .i64 0] else .tuple #[.agg #[.int .i64 0, .int .i64 0, .int .i64 0, .int .i64 0, .int .i64 0], .int .i64 11])
theorem par_ok {l : List UInt8} (h : pOk l = true) : Par l (.returned (.tuple #[.agg #[.int .i64 (pOp l), .int .i64 (p1 l).1, .int .i64 (p2 l).1, .int .i64 (p3 l).1, .int .i64 (p4 l).1], .int .i64 0])) := by unfold Par; rw [if_pos h]
theorem par_bad {l : List UInt8} (h : pOk l = false) : Par l (.returned (.tuple #[.agg #[.int .i64 0, .int .i64 0, .int .i64 0, .int .i64 0, .int .i64 0], .int .i64 11])) := by unfold Par; rw [if_neg (by rw [h]; decide)]

/-- Parse's blocks: the result, the text that is left, the instruction, the form's fields. -/
structure Sp (W : World) (A R X F : Nat) (op d a b imm : Int) (x0 x1 x2 x3 : Bool) (r : List UInt8) (w : World) : Prop where
  below : Below W.heap.size W w
  res : w.heap[A]? = some (.cells #[.int .i64 0, .int .i64 0, .int .i64 0, .int .i64 0, .int .i64 0] 27 (0, 0))
  rest : w.heap[R]? = some (.cells #[.string ⟨r.toArray⟩] 9 (0, 0))
  inst : w.heap[X]? = some (.cells #[.int .i64 op, .int .i64 d, .int .i64 a, .int .i64 b, .int .i64 imm] 27 (0, 0))
  fld : w.heap[F]? = some (.cells #[.bool x0, .bool x1, .bool x2, .bool x3] 59 (0, 0))
  le : W.heap.size ≤ A
  l1 : A < R
  l2 : R < X
  l3 : X < F
  l4 : F < w.heap.size
  len : r.length ≤ 1000
theorem Sp.grow {W : World} {A R X F : Nat} {op d a b imm : Int} {x0 x1 x2 x3 : Bool} {r : List UInt8} {w w2 : World} (s : Sp W A R X F op d a b imm x0 x1 x2 x3 r w) (hb : Below w.heap.size w w2) : Sp W A R X F op d a b imm x0 x1 x2 x3 r w2 :=
  have q0 := s.le; have q1 := s.l1; have q2 := s.l2; have q3 := s.l3; have q4 := s.l4
  ⟨s.below.trans (hb.mono s.below.size), (hb.block _ (by omega)).trans s.res, (hb.block _ (by omega)).trans s.rest, (hb.block _ (by omega)).trans s.inst, (hb.block _ (by omega)).trans s.fld, q0, q1, q2, q3, Nat.lt_of_lt_of_le q4 hb.size, s.len⟩
theorem Sp.upd {W : World} {A R X F : Nat} {op d a b imm : Int} {x0 x1 x2 x3 : Bool} {r r2 : List UInt8} {w w2 : World} (s : Sp W A R X F op d a b imm x0 x1 x2 x3 r w) (u : Upd R (.string ⟨r2.toArray⟩) 9 w w2) (hl : r2.length ≤ 1000) : Sp W A R X F op d a b imm x0 x1 x2 x3 r2 w2 :=
  have q0 := s.le; have q1 := s.l1; have q2 := s.l2; have q3 := s.l3; have q4 := s.l4
  ⟨s.below.trans (u.below (by omega) s.below.size), (u.other _ (by omega) (by omega)).trans s.res, u.at_, (u.other _ (by omega) (by omega)).trans s.inst, (u.other _ (by omega) (by omega)).trans s.fld, q0, q1, q2, q3, Nat.lt_of_lt_of_le q4 u.size, hl⟩
theorem Sp.store {W : World} {A R X F : Nat} {op d a b imm : Int} {x0 x1 x2 x3 : Bool} {r : List UInt8} {w : World} (s : Sp W A R X F op d a b imm x0 x1 x2 x3 r w) (i : Nat) (x : Int) {op2 d2 a2 b2 imm2 : Int} (hi : i < 5)
    (he : (#[Value.int .i64 op, Value.int .i64 d, Value.int .i64 a, Value.int .i64 b, Value.int .i64 imm] : Array Value).setIfInBounds i (.int .i64 x) = #[.int .i64 op2, .int .i64 d2, .int .i64 a2, .int .i64 b2, .int .i64 imm2]) :
    Sp W A R X F op2 d2 a2 b2 imm2 x0 x1 x2 x3 r (w.setCell ⟨X, i, none⟩ (.int .i64 x)) :=
  have q0 := s.le; have q1 := s.l1; have q2 := s.l2; have q3 := s.l3; have q4 := s.l4
  ⟨s.below.setCell (by show W.heap.size ≤ X; omega) _, (Below.heap_setCell _ _ _ _ (by show _ ≠ X; omega)).trans s.res, (Below.heap_setCell _ _ _ _ (by show _ ≠ X; omega)).trans s.rest,
    by rw [← he]; exact setCell_block s.inst (by simpa using hi), (Below.heap_setCell _ _ _ _ (by show _ ≠ X; omega)).trans s.fld, q0, q1, q2, q3, by simp [World.setCell]; exact q4, s.len⟩
theorem Sp.facts {W : World} {A R X F : Nat} {op d a b imm : Int} {x0 x1 x2 x3 : Bool} {r : List UInt8} {w : World} (s : Sp W A R X F op d a b imm x0 x1 x2 x3 r w) :
    w.cell? ⟨X, 0, none⟩ = some (.int .i64 op) ∧ w.cell? ⟨X, 1, none⟩ = some (.int .i64 d) ∧ w.cell? ⟨X, 2, none⟩ = some (.int .i64 a) ∧ w.cell? ⟨X, 3, none⟩ = some (.int .i64 b) ∧ w.cell? ⟨X, 4, none⟩ = some (.int .i64 imm) ∧
    w.cell? ⟨F, 0, none⟩ = some (.bool x0) ∧ w.cell? ⟨F, 1, none⟩ = some (.bool x1) ∧ w.cell? ⟨F, 2, none⟩ = some (.bool x2) ∧ w.cell? ⟨F, 3, none⟩ = some (.bool x3) ∧
    w.frozen? ⟨X, 1, none⟩ = false ∧ w.frozen? ⟨X, 2, none⟩ = false ∧ w.frozen? ⟨X, 3, none⟩ = false ∧ w.frozen? ⟨X, 4, none⟩ = false := by
  obtain ⟨c0, c1, c2, c3, c4⟩ := cells5 s.inst
  obtain ⟨f0, f1, f2, f3⟩ := cells4 s.fld
  exact ⟨c0, c1, c2, c3, c4, f0, f1, f2, f3, frozen5 s.inst 1, frozen5 s.inst 2, frozen5 s.inst 3, frozen5 s.inst 4⟩
theorem Sp.facts2 {W : World} {A R X F : Nat} {op d a b imm : Int} {x0 x1 x2 x3 : Bool} {r : List UInt8} {w : World} (s : Sp W A R X F op d a b imm x0 x1 x2 x3 r w) :
    (w.cell? ⟨A, 0, none⟩ = some (.int .i64 0) ∧ w.cell? ⟨A, 1, none⟩ = some (.int .i64 0) ∧ w.cell? ⟨A, 2, none⟩ = some (.int .i64 0) ∧ w.cell? ⟨A, 3, none⟩ = some (.int .i64 0) ∧ w.cell? ⟨A, 4, none⟩ = some (.int .i64 0)) ∧
    (w.frozen? ⟨A, 0, none⟩ = false ∧ w.frozen? ⟨A, 1, none⟩ = false ∧ w.frozen? ⟨A, 2, none⟩ = false ∧ w.frozen? ⟨A, 3, none⟩ = false ∧ w.frozen? ⟨A, 4, none⟩ = false) :=
  ⟨cells5 s.res, frozen5 s.res 0, frozen5 s.res 1, frozen5 s.res 2, frozen5 s.res 3, frozen5 s.res 4⟩
theorem nextR_len (l : List UInt8) : (nextR l).length ≤ l.length := (cut_len l [32]).2
theorem next_list {W : World} {A R X F : Nat} {op d a b imm : Int} {x0 x1 x2 x3 : Bool} {r : List UInt8} {w : World} (s : Sp W A R X F op d a b imm x0 x1 x2 x3 r w) (h : Env2 W) (m : List UInt8) :
    Calls Tryd.prog 46 #[.string ⟨m.toArray⟩, .pointer (some ⟨R, 0, none⟩)] w fun e w' => e = .returned (.int .i64 (nextN r m)) ∧ Sp W A R X F op d a b imm x0 x1 x2 x3 (nextR r) w' := by
  have q0 := s.le; have q1 := s.l1; have q2 := h.size; have q3 := s.len
  refine (next_any ⟨r.toArray⟩ ⟨m.toArray⟩ R w (h.below s.below) (by omega) ?_ s.rest).mono fun e w' ⟨he, u⟩ => ⟨he, s.upd u ?_⟩
  · have : (⟨r.toArray⟩ : ByteArray).size = r.length := by simp [ByteArray.size]
    omega
  · have := nextR_len r
    omega

set_option maxRecDepth 100000 in
set_option maxHeartbeats 8000000 in
theorem parse_any (s : ByteArray) (w : World) (h : Env2 w) (hs : s.size ≤ 1000) :
    Calls Tryd.prog 25 #[.string s] w fun e w' => Par s.data.toList e ∧ Below w.heap.size w w' := by
  have hsz := h.size
  have i0 := idx0; have i1 := idx1; have i2 := idx2
  go_enter Tryd.func25, Tryd.ntmps25
  go_wp2_with fail
  have e1 := h.alloc (.cells #[.int .i64 0, .int .i64 0, .int .i64 0, .int .i64 0, .int .i64 0] 27)
  obtain ⟨mm, hm⟩ := e1.most
  refine (Tryd.strings_Cut s ⟨#[32]⟩ mm _ (by omega) hm).mono ?_
  rintro e w1 ⟨rfl, n, hw1⟩
  have b1 : Below w.heap.size w w1 := by rw [hw1]; exact below_drewN ((Below.refl _ _).alloc (Nat.le_refl _) _) n
  have hA : w1.heap[w.heap.size]? = some (.cells #[.int .i64 0, .int .i64 0, .int .i64 0, .int .i64 0, .int .i64 0] 27 (0, 0)) := by rw [hw1]; exact heap_new _ _
  have z1 : w.heap.size < w1.heap.size := lt_of_block hA
  have HA := Lib.hid hA
  clear hw1 e1 hm hA
  obtain ⟨l, hl⟩ : ∃ l, l = s.data.toList := ⟨_, rfl⟩
  have hll : l.length ≤ 1000 := by rw [hl, Array.length_toList]; exact hs
  have HL := Lib.hid hl
  rw [show (⟨#[32]⟩ : ByteArray).data.toList = [32] from rfl, ← hl]
  clear hl
  go_wp2_with fail
  have e2 := (h.below b1).alloc (.cells #[.string ⟨(Lib.cut l [32]).2.1.toArray⟩] 9)
  refine (named_any ⟨(Lib.cut l [32]).1.toArray⟩ _ e2.toEnv).mono ?_
  rintro e w' ⟨rfl, rfl⟩
  rw [show (named (⟨(Lib.cut l [32]).1.toArray⟩ : ByteArray).data.toList : Int) = pOp l from rfl]
  go_wp2_with fail
  refine (form_any _ _).mono ?_
  rintro e w' ⟨rfl, rfl⟩
  obtain ⟨op, hop⟩ : ∃ op, op = pOp l := ⟨_, rfl⟩
  rw [← hop]
  have hfl := Isa.form_le op
  obtain ⟨w2, hw2⟩ : ∃ w2, w2 = (w1.alloc (.cells #[.string ⟨(Lib.cut l [32]).2.1.toArray⟩] 9)).alloc (.cells #[.int .i64 op, .int .i64 0, .int .i64 0, .int .i64 0, .int .i64 0] 27) := ⟨_, rfl⟩
  have b2 : Below w.heap.size w w2 := by rw [hw2]; exact (b1.alloc (by omega) _).alloc (by simp; omega) _
  have gA : Hid (w2.heap[w.heap.size]? = some (.cells #[.int .i64 0, .int .i64 0, .int .i64 0, .int .i64 0, .int .i64 0] 27 (0, 0))) := by unfold Hid; rw [hw2]; exact (Below.heap_alloc _ _ _ (by simp; omega)).trans ((Below.heap_alloc _ _ _ z1).trans HA.out)
  have gR : Hid (w2.heap[w1.heap.size]? = some (.cells #[.string ⟨(Lib.cut l [32]).2.1.toArray⟩] 9 (0, 0))) := by unfold Hid; rw [hw2]; exact (Below.heap_alloc _ _ _ (by simp)).trans (heap_new _ _)
  have gX : Hid (w2.heap[w1.heap.size + 1]? = some (.cells #[.int .i64 op, .int .i64 0, .int .i64 0, .int .i64 0, .int .i64 0] 27 (0, 0))) := by unfold Hid; rw [hw2, ← World.size_alloc w1 (.cells #[.string ⟨(Lib.cut l [32]).2.1.toArray⟩] 9)]; exact heap_new _ _
  have z2 : w1.heap.size + 1 < w2.heap.size := lt_of_block gX.out
  rw [← hw2]
  clear hw2 HA e2 b1
  have he := h.below b2
  have s0 : w2.cell? ⟨1, Isa.form op * 4, none⟩ = _ := he.shapes (Isa.form op) 0 (by omega) (by omega)
  have s1 := he.shapes (Isa.form op) 1 (by omega) (by omega)
  have s2 := he.shapes (Isa.form op) 2 (by omega) (by omega)
  have s3 := he.shapes (Isa.form op) 3 (by omega) (by omega)
  have HX : Hid (Isa.shape (Isa.form op) 0 = pSh l 0 ∧ Isa.shape (Isa.form op) 1 = pSh l 1 ∧ Isa.shape (Isa.form op) 2 = pSh l 2 ∧ Isa.shape (Isa.form op) 3 = pSh l 3) := by unfold Hid pSh; rw [hop]; exact ⟨rfl, rfl, rfl, rfl⟩
  obtain ⟨x0, hx0⟩ : ∃ x, x = Isa.shape (Isa.form op) 0 := ⟨_, rfl⟩
  obtain ⟨x1, hx1⟩ : ∃ x, x = Isa.shape (Isa.form op) 1 := ⟨_, rfl⟩
  obtain ⟨x2, hx2⟩ : ∃ x, x = Isa.shape (Isa.form op) 2 := ⟨_, rfl⟩
  obtain ⟨x3, hx3⟩ : ∃ x, x = Isa.shape (Isa.form op) 3 := ⟨_, rfl⟩
  rw [← hx0] at s0
  rw [← hx1] at s1
  rw [← hx2] at s2
  rw [← hx3] at s3
  have HSH := Lib.hid (And.intro hx0 (And.intro hx1 (And.intro hx2 hx3)))
  have HOP := Lib.hid hop
  clear hx0 hx1 hx2 hx3 hop he
  obtain ⟨R, hR⟩ : ∃ R, R = w1.heap.size := ⟨_, rfl⟩
  rw [← hR] at gR gX z1 z2 ⊢
  obtain ⟨X, hX⟩ : ∃ X, X = R + 1 := ⟨_, rfl⟩
  rw [← hX] at gX z2 ⊢
  have zX : R < X := by omega
  clear hR hX
  go_wp2_with fail
  have t : Sp w w.heap.size R X w2.heap.size op 0 0 0 0 x0 x1 x2 x3 (Lib.cut l [32]).2.1 (w2.alloc (.cells #[.bool x0, .bool x1, .bool x2, .bool x3] 59)) :=
    ⟨b2.alloc (by omega) _, (Below.heap_alloc _ _ _ (by omega)).trans gA.out, (Below.heap_alloc _ _ _ (by omega)).trans gR.out, (Below.heap_alloc _ _ _ (by omega)).trans gX.out, heap_new _ _, Nat.le_refl _, z1, zX, z2, by simp, by have := (cut_len l [32]).2; omega⟩
  clear gA gR gX b2 s0 s1 s2 s3
  obtain ⟨w3, hw3⟩ : ∃ w3, w3 = w2.alloc (.cells #[.bool x0, .bool x1, .bool x2, .bool x3] 59) := ⟨_, rfl⟩
  rw [← hw3] at t ⊢
  obtain ⟨F, hF⟩ : ∃ F, F = w2.heap.size := ⟨_, rfl⟩
  rw [← hF] at t z2 ⊢
  clear hw3 hF
  have s1 := t
  clear t
  refine (registers_any _ _).mono ?_
  rintro e w4 ⟨rfl, hb⟩
  replace s1 := s1.grow hb
  clear hb
  have q1 := s1.l1; have q2 := s1.l2; have q3 := s1.l3
  go_upto_block 0 with fail
  go_cut [10, 11] (fun _ _ wx => Sp w w.heap.size R X F op (p1 l).1 (p2 l).1 (p3 l).1 0 x0 x1 x2 x3 (p3 l).2 wx)
  case first =>
    go_wp2_with fail
    have HP : Hid (x0 = pSh l 0 ∧ x1 = pSh l 1 ∧ x2 = pSh l 2) := ⟨HSH.out.1.trans HX.out.1, HSH.out.2.1.trans HX.out.2.1, HSH.out.2.2.1.trans HX.out.2.2.1⟩
    have hs := Isa.shapes_of (Isa.form op)
    rw [← HSH.out.1, ← HSH.out.2.1, ← HSH.out.2.2.1] at hs
    simp only [List.mem_cons, List.mem_nil_iff, or_false, Prod.mk.injEq] at hs
    rcases hs with ⟨rfl, rfl, rfl⟩ | ⟨rfl, rfl, rfl⟩ | ⟨rfl, rfl, rfl⟩ | ⟨rfl, rfl, rfl⟩ | ⟨rfl, rfl, rfl⟩ | ⟨rfl, rfl, rfl⟩
    · have HV : Hid (p1 l = pStep true (Lib.cut l [32]).2.1 [114] ∧ p2 l = pStep true (p1 l).2 [114] ∧ p3 l = pStep true (p2 l).2 [114]) := by
        exact ⟨by unfold p1; rw [← HP.out.1], by unfold p2; rw [← HP.out.2.1], by unfold p3; rw [← HP.out.2.2]⟩
      obtain ⟨c0, c1, c2, c3, c4, f0, f1, f2, f3, k1, k2, k3, k4⟩ := s1.facts
      refine wp_loop_rounds 4 ?_
      rw [rounds_succ]
      go_wp2_with fail
      refine (next_list s1 h [114]).mono ?_
      rintro e w5 ⟨rfl, t2⟩
      replace s1 := t2
      clear t2
      clear c0 c1 c2 c3 c4 f0 f1 f2 f3 k1 k2 k3 k4
      obtain ⟨c0, c1, c2, c3, c4, f0, f1, f2, f3, k1, k2, k3, k4⟩ := s1.facts
      go_wp2_with fail
      replace s1 := s1.store (op2 := op) (d2 := nextN ((Lib.cut l [32]).2.1) [114]) (a2 := 0) (b2 := 0) (imm2 := 0) 1 (nextN ((Lib.cut l [32]).2.1) [114]) (by decide) rfl
      obtain ⟨w6, hw⟩ : ∃ x, x = w5.setCell ⟨X, 1, none⟩ (.int .i64 (nextN ((Lib.cut l [32]).2.1) [114])) := ⟨_, rfl⟩
      rw [← hw] at s1 ⊢
      clear hw
      clear c0 c1 c2 c3 c4 f0 f1 f2 f3 k1 k2 k3 k4
      obtain ⟨c0, c1, c2, c3, c4, f0, f1, f2, f3, k1, k2, k3, k4⟩ := s1.facts
      rw [rounds_succ]
      go_wp2_with fail
      refine (next_list s1 h [114]).mono ?_
      rintro e w7 ⟨rfl, t2⟩
      replace s1 := t2
      clear t2
      clear c0 c1 c2 c3 c4 f0 f1 f2 f3 k1 k2 k3 k4
      obtain ⟨c0, c1, c2, c3, c4, f0, f1, f2, f3, k1, k2, k3, k4⟩ := s1.facts
      go_wp2_with fail
      replace s1 := s1.store (op2 := op) (d2 := nextN ((Lib.cut l [32]).2.1) [114]) (a2 := nextN (nextR ((Lib.cut l [32]).2.1)) [114]) (b2 := 0) (imm2 := 0) 2 (nextN (nextR ((Lib.cut l [32]).2.1)) [114]) (by decide) rfl
      obtain ⟨w8, hw⟩ : ∃ x, x = w7.setCell ⟨X, 2, none⟩ (.int .i64 (nextN (nextR ((Lib.cut l [32]).2.1)) [114])) := ⟨_, rfl⟩
      rw [← hw] at s1 ⊢
      clear hw
      clear c0 c1 c2 c3 c4 f0 f1 f2 f3 k1 k2 k3 k4
      obtain ⟨c0, c1, c2, c3, c4, f0, f1, f2, f3, k1, k2, k3, k4⟩ := s1.facts
      rw [rounds_succ]
      go_wp2_with fail
      refine (next_list s1 h [114]).mono ?_
      rintro e w9 ⟨rfl, t2⟩
      replace s1 := t2
      clear t2
      clear c0 c1 c2 c3 c4 f0 f1 f2 f3 k1 k2 k3 k4
      obtain ⟨c0, c1, c2, c3, c4, f0, f1, f2, f3, k1, k2, k3, k4⟩ := s1.facts
      go_wp2_with fail
      replace s1 := s1.store (op2 := op) (d2 := nextN ((Lib.cut l [32]).2.1) [114]) (a2 := nextN (nextR ((Lib.cut l [32]).2.1)) [114]) (b2 := nextN (nextR (nextR ((Lib.cut l [32]).2.1))) [114]) (imm2 := 0) 3 (nextN (nextR (nextR ((Lib.cut l [32]).2.1))) [114]) (by decide) rfl
      obtain ⟨w10, hw⟩ : ∃ x, x = w9.setCell ⟨X, 3, none⟩ (.int .i64 (nextN (nextR (nextR ((Lib.cut l [32]).2.1))) [114])) := ⟨_, rfl⟩
      rw [← hw] at s1 ⊢
      clear hw
      clear c0 c1 c2 c3 c4 f0 f1 f2 f3 k1 k2 k3 k4
      obtain ⟨c0, c1, c2, c3, c4, f0, f1, f2, f3, k1, k2, k3, k4⟩ := s1.facts
      rw [rounds_succ]
      go_wp2_with fail
      go_meet
      case rel =>
        obtain ⟨v1, v2, v3⟩ := HV.out
        rw [v3, v2, v1]
        exact s1
    · have HV : Hid (p1 l = pStep true (Lib.cut l [32]).2.1 [114] ∧ p2 l = pStep true (p1 l).2 [114] ∧ p3 l = pStep false (p2 l).2 [114]) := by
        exact ⟨by unfold p1; rw [← HP.out.1], by unfold p2; rw [← HP.out.2.1], by unfold p3; rw [← HP.out.2.2]⟩
      obtain ⟨c0, c1, c2, c3, c4, f0, f1, f2, f3, k1, k2, k3, k4⟩ := s1.facts
      refine wp_loop_rounds 4 ?_
      rw [rounds_succ]
      go_wp2_with fail
      refine (next_list s1 h [114]).mono ?_
      rintro e w5 ⟨rfl, t2⟩
      replace s1 := t2
      clear t2
      clear c0 c1 c2 c3 c4 f0 f1 f2 f3 k1 k2 k3 k4
      obtain ⟨c0, c1, c2, c3, c4, f0, f1, f2, f3, k1, k2, k3, k4⟩ := s1.facts
      go_wp2_with fail
      replace s1 := s1.store (op2 := op) (d2 := nextN ((Lib.cut l [32]).2.1) [114]) (a2 := 0) (b2 := 0) (imm2 := 0) 1 (nextN ((Lib.cut l [32]).2.1) [114]) (by decide) rfl
      obtain ⟨w6, hw⟩ : ∃ x, x = w5.setCell ⟨X, 1, none⟩ (.int .i64 (nextN ((Lib.cut l [32]).2.1) [114])) := ⟨_, rfl⟩
      rw [← hw] at s1 ⊢
      clear hw
      clear c0 c1 c2 c3 c4 f0 f1 f2 f3 k1 k2 k3 k4
      obtain ⟨c0, c1, c2, c3, c4, f0, f1, f2, f3, k1, k2, k3, k4⟩ := s1.facts
      rw [rounds_succ]
      go_wp2_with fail
      refine (next_list s1 h [114]).mono ?_
      rintro e w7 ⟨rfl, t2⟩
      replace s1 := t2
      clear t2
      clear c0 c1 c2 c3 c4 f0 f1 f2 f3 k1 k2 k3 k4
      obtain ⟨c0, c1, c2, c3, c4, f0, f1, f2, f3, k1, k2, k3, k4⟩ := s1.facts
      go_wp2_with fail
      replace s1 := s1.store (op2 := op) (d2 := nextN ((Lib.cut l [32]).2.1) [114]) (a2 := nextN (nextR ((Lib.cut l [32]).2.1)) [114]) (b2 := 0) (imm2 := 0) 2 (nextN (nextR ((Lib.cut l [32]).2.1)) [114]) (by decide) rfl
      obtain ⟨w8, hw⟩ : ∃ x, x = w7.setCell ⟨X, 2, none⟩ (.int .i64 (nextN (nextR ((Lib.cut l [32]).2.1)) [114])) := ⟨_, rfl⟩
      rw [← hw] at s1 ⊢
      clear hw
      clear c0 c1 c2 c3 c4 f0 f1 f2 f3 k1 k2 k3 k4
      obtain ⟨c0, c1, c2, c3, c4, f0, f1, f2, f3, k1, k2, k3, k4⟩ := s1.facts
      rw [rounds_succ]
      go_wp2_with fail
      rw [rounds_succ]
      go_wp2_with fail
      go_meet
      case rel =>
        obtain ⟨v1, v2, v3⟩ := HV.out
        rw [v3, v2, v1]
        exact s1
    · have HV : Hid (p1 l = pStep true (Lib.cut l [32]).2.1 [114] ∧ p2 l = pStep false (p1 l).2 [114] ∧ p3 l = pStep false (p2 l).2 [114]) := by
        exact ⟨by unfold p1; rw [← HP.out.1], by unfold p2; rw [← HP.out.2.1], by unfold p3; rw [← HP.out.2.2]⟩
      obtain ⟨c0, c1, c2, c3, c4, f0, f1, f2, f3, k1, k2, k3, k4⟩ := s1.facts
      refine wp_loop_rounds 4 ?_
      rw [rounds_succ]
      go_wp2_with fail
      refine (next_list s1 h [114]).mono ?_
      rintro e w5 ⟨rfl, t2⟩
      replace s1 := t2
      clear t2
      clear c0 c1 c2 c3 c4 f0 f1 f2 f3 k1 k2 k3 k4
      obtain ⟨c0, c1, c2, c3, c4, f0, f1, f2, f3, k1, k2, k3, k4⟩ := s1.facts
      go_wp2_with fail
      replace s1 := s1.store (op2 := op) (d2 := nextN ((Lib.cut l [32]).2.1) [114]) (a2 := 0) (b2 := 0) (imm2 := 0) 1 (nextN ((Lib.cut l [32]).2.1) [114]) (by decide) rfl
      obtain ⟨w6, hw⟩ : ∃ x, x = w5.setCell ⟨X, 1, none⟩ (.int .i64 (nextN ((Lib.cut l [32]).2.1) [114])) := ⟨_, rfl⟩
      rw [← hw] at s1 ⊢
      clear hw
      clear c0 c1 c2 c3 c4 f0 f1 f2 f3 k1 k2 k3 k4
      obtain ⟨c0, c1, c2, c3, c4, f0, f1, f2, f3, k1, k2, k3, k4⟩ := s1.facts
      rw [rounds_succ]
      go_wp2_with fail
      rw [rounds_succ]
      go_wp2_with fail
      rw [rounds_succ]
      go_wp2_with fail
      go_meet
      case rel =>
        obtain ⟨v1, v2, v3⟩ := HV.out
        rw [v3, v2, v1]
        exact s1
    · have HV : Hid (p1 l = pStep false (Lib.cut l [32]).2.1 [114] ∧ p2 l = pStep true (p1 l).2 [114] ∧ p3 l = pStep true (p2 l).2 [114]) := by
        exact ⟨by unfold p1; rw [← HP.out.1], by unfold p2; rw [← HP.out.2.1], by unfold p3; rw [← HP.out.2.2]⟩
      obtain ⟨c0, c1, c2, c3, c4, f0, f1, f2, f3, k1, k2, k3, k4⟩ := s1.facts
      refine wp_loop_rounds 4 ?_
      rw [rounds_succ]
      go_wp2_with fail
      rw [rounds_succ]
      go_wp2_with fail
      refine (next_list s1 h [114]).mono ?_
      rintro e w5 ⟨rfl, t2⟩
      replace s1 := t2
      clear t2
      clear c0 c1 c2 c3 c4 f0 f1 f2 f3 k1 k2 k3 k4
      obtain ⟨c0, c1, c2, c3, c4, f0, f1, f2, f3, k1, k2, k3, k4⟩ := s1.facts
      go_wp2_with fail
      replace s1 := s1.store (op2 := op) (d2 := 0) (a2 := nextN ((Lib.cut l [32]).2.1) [114]) (b2 := 0) (imm2 := 0) 2 (nextN ((Lib.cut l [32]).2.1) [114]) (by decide) rfl
      obtain ⟨w6, hw⟩ : ∃ x, x = w5.setCell ⟨X, 2, none⟩ (.int .i64 (nextN ((Lib.cut l [32]).2.1) [114])) := ⟨_, rfl⟩
      rw [← hw] at s1 ⊢
      clear hw
      clear c0 c1 c2 c3 c4 f0 f1 f2 f3 k1 k2 k3 k4
      obtain ⟨c0, c1, c2, c3, c4, f0, f1, f2, f3, k1, k2, k3, k4⟩ := s1.facts
      rw [rounds_succ]
      go_wp2_with fail
      refine (next_list s1 h [114]).mono ?_
      rintro e w7 ⟨rfl, t2⟩
      replace s1 := t2
      clear t2
      clear c0 c1 c2 c3 c4 f0 f1 f2 f3 k1 k2 k3 k4
      obtain ⟨c0, c1, c2, c3, c4, f0, f1, f2, f3, k1, k2, k3, k4⟩ := s1.facts
      go_wp2_with fail
      replace s1 := s1.store (op2 := op) (d2 := 0) (a2 := nextN ((Lib.cut l [32]).2.1) [114]) (b2 := nextN (nextR ((Lib.cut l [32]).2.1)) [114]) (imm2 := 0) 3 (nextN (nextR ((Lib.cut l [32]).2.1)) [114]) (by decide) rfl
      obtain ⟨w8, hw⟩ : ∃ x, x = w7.setCell ⟨X, 3, none⟩ (.int .i64 (nextN (nextR ((Lib.cut l [32]).2.1)) [114])) := ⟨_, rfl⟩
      rw [← hw] at s1 ⊢
      clear hw
      clear c0 c1 c2 c3 c4 f0 f1 f2 f3 k1 k2 k3 k4
      obtain ⟨c0, c1, c2, c3, c4, f0, f1, f2, f3, k1, k2, k3, k4⟩ := s1.facts
      rw [rounds_succ]
      go_wp2_with fail
      go_meet
      case rel =>
        obtain ⟨v1, v2, v3⟩ := HV.out
        rw [v3, v2, v1]
        exact s1
    · have HV : Hid (p1 l = pStep false (Lib.cut l [32]).2.1 [114] ∧ p2 l = pStep true (p1 l).2 [114] ∧ p3 l = pStep false (p2 l).2 [114]) := by
        exact ⟨by unfold p1; rw [← HP.out.1], by unfold p2; rw [← HP.out.2.1], by unfold p3; rw [← HP.out.2.2]⟩
      obtain ⟨c0, c1, c2, c3, c4, f0, f1, f2, f3, k1, k2, k3, k4⟩ := s1.facts
      refine wp_loop_rounds 4 ?_
      rw [rounds_succ]
      go_wp2_with fail
      rw [rounds_succ]
      go_wp2_with fail
      refine (next_list s1 h [114]).mono ?_
      rintro e w5 ⟨rfl, t2⟩
      replace s1 := t2
      clear t2
      clear c0 c1 c2 c3 c4 f0 f1 f2 f3 k1 k2 k3 k4
      obtain ⟨c0, c1, c2, c3, c4, f0, f1, f2, f3, k1, k2, k3, k4⟩ := s1.facts
      go_wp2_with fail
      replace s1 := s1.store (op2 := op) (d2 := 0) (a2 := nextN ((Lib.cut l [32]).2.1) [114]) (b2 := 0) (imm2 := 0) 2 (nextN ((Lib.cut l [32]).2.1) [114]) (by decide) rfl
      obtain ⟨w6, hw⟩ : ∃ x, x = w5.setCell ⟨X, 2, none⟩ (.int .i64 (nextN ((Lib.cut l [32]).2.1) [114])) := ⟨_, rfl⟩
      rw [← hw] at s1 ⊢
      clear hw
      clear c0 c1 c2 c3 c4 f0 f1 f2 f3 k1 k2 k3 k4
      obtain ⟨c0, c1, c2, c3, c4, f0, f1, f2, f3, k1, k2, k3, k4⟩ := s1.facts
      rw [rounds_succ]
      go_wp2_with fail
      rw [rounds_succ]
      go_wp2_with fail
      go_meet
      case rel =>
        obtain ⟨v1, v2, v3⟩ := HV.out
        rw [v3, v2, v1]
        exact s1
    · have HV : Hid (p1 l = pStep false (Lib.cut l [32]).2.1 [114] ∧ p2 l = pStep false (p1 l).2 [114] ∧ p3 l = pStep false (p2 l).2 [114]) := by
        exact ⟨by unfold p1; rw [← HP.out.1], by unfold p2; rw [← HP.out.2.1], by unfold p3; rw [← HP.out.2.2]⟩
      obtain ⟨c0, c1, c2, c3, c4, f0, f1, f2, f3, k1, k2, k3, k4⟩ := s1.facts
      refine wp_loop_rounds 4 ?_
      rw [rounds_succ]
      go_wp2_with fail
      rw [rounds_succ]
      go_wp2_with fail
      rw [rounds_succ]
      go_wp2_with fail
      rw [rounds_succ]
      go_wp2_with fail
      go_meet
      case rel =>
        obtain ⟨v1, v2, v3⟩ := HV.out
        rw [v3, v2, v1]
        exact s1
  case rest =>
    have s1 := hcut
    clear hcut
    obtain ⟨fd, hfd⟩ : ∃ x, x = (p1 l).1 := ⟨_, rfl⟩
    obtain ⟨fa, hfa⟩ : ∃ x, x = (p2 l).1 := ⟨_, rfl⟩
    obtain ⟨fb, hfb⟩ : ∃ x, x = (p3 l).1 := ⟨_, rfl⟩
    rw [← hfd, ← hfa, ← hfb] at s1
    have HFD := Lib.hid (And.intro hfd.symm (And.intro hfa.symm hfb.symm))
    have HP4 : Hid (p4 l = pStep x3 (p3 l).2 []) := by unfold Hid; rw [HSH.out.2.2.2.trans HX.out.2.2.2]; rfl
    clear hfd hfa hfb
    obtain ⟨r, hr⟩ : ∃ r, r = (p3 l).2 := ⟨_, rfl⟩
    rw [← hr] at s1
    have HR := Lib.hid hr
    clear hr
    obtain ⟨c0, c1, c2, c3, c4, f0, f1, f2, f3, k1, k2, k3, k4⟩ := s1.facts
    cases x3
    · obtain ⟨im, him⟩ : ∃ im : Int, im = 0 := ⟨0, rfl⟩
      have HFS : Hid (pOp l = op ∧ (p1 l).1 = fd ∧ (p2 l).1 = fa ∧ (p3 l).1 = fb ∧ (p4 l).1 = im) := ⟨HOP.out.symm, HFD.out.1, HFD.out.2.1, HFD.out.2.2, by rw [HP4.out, him]; rfl⟩
      go_upto_region 13 with fail
      rw [← him] at s1
      clear him
      clear c0 c1 c2 c3 c4 f0 f1 f2 f3 k1 k2 k3 k4
      have he := h.below s1.below
      cases ho : Isa.ok op fd fa fb im
      · obtain ⟨c0, c1, c2, c3, c4, f0, f1, f2, f3, k1, k2, k3, k4⟩ := s1.facts
        go_wp2_with fail
        refine (check_bad _ _ _ _ _ _ he.toEnv ho).mono ?_
        rintro e wd ⟨rfl, hb⟩
        have hk := Lib.hid ho
        clear ho he
        replace s1 := s1.grow hb
        clear hb
        clear c0 c1 c2 c3 c4 f0 f1 f2 f3 k1 k2 k3 k4
        obtain ⟨c0, c1, c2, c3, c4, f0, f1, f2, f3, k1, k2, k3, k4⟩ := s1.facts
        obtain ⟨⟨a0, a1, a2, a3, a4⟩, b0, b1, b2, b3, b4⟩ := s1.facts2
        go_wp2_with fail
        obtain ⟨b5, h5⟩ := store5 (x0 := .int .i64 0) (x1 := .int .i64 0) (x2 := .int .i64 0) (x3 := .int .i64 0) (x4 := .int .i64 0) s1.below s1.res (Nat.le_refl _)
        obtain ⟨wz, hw⟩ : ∃ wz, wz = ((((wd.setCell ⟨w.heap.size, 0, none⟩ (.int .i64 0)).setCell ⟨w.heap.size, 1, none⟩ (.int .i64 0)).setCell ⟨w.heap.size, 2, none⟩ (.int .i64 0)).setCell ⟨w.heap.size, 3, none⟩ (.int .i64 0)).setCell ⟨w.heap.size, 4, none⟩ (.int .i64 0) := ⟨_, rfl⟩
        rw [← hw] at b5 h5 ⊢
        clear hw
        obtain ⟨g0, g1, g2, g3, g4⟩ := cells5 h5
        refine bodyPost_ret (v := .tuple #[.agg #[.int .i64 0, .int .i64 0, .int .i64 0, .int .i64 0, .int .i64 0], .int .i64 11]) (by simp [results, Tryd.results25, go_sem, g0, g1, g2, g3, g4]) rfl ⟨?_, b5⟩
        rw [← HL.out]
        exact par_bad (by unfold pOk; rw [HFS.out.1, HFS.out.2.1, HFS.out.2.2.1, HFS.out.2.2.2.1, HFS.out.2.2.2.2, hk.out]; rfl)
      · obtain ⟨c0, c1, c2, c3, c4, f0, f1, f2, f3, k1, k2, k3, k4⟩ := s1.facts
        go_wp2_with fail
        refine (check_ok _ _ _ _ _ _ he.toEnv ho).mono ?_
        rintro e wd ⟨rfl, hb⟩
        have hk := Lib.hid ho
        clear ho he
        replace s1 := s1.grow hb
        clear hb
        clear c0 c1 c2 c3 c4 f0 f1 f2 f3 k1 k2 k3 k4
        obtain ⟨c0, c1, c2, c3, c4, f0, f1, f2, f3, k1, k2, k3, k4⟩ := s1.facts
        have he := h.below s1.below
        go_wp2_with fail
        refine (text_ok _ _ _ _ _ _ he hk.out).mono ?_
        rintro e we ⟨rfl, hb⟩
        replace s1 := s1.grow hb
        clear hb he
        clear c0 c1 c2 c3 c4 f0 f1 f2 f3 k1 k2 k3 k4
        obtain ⟨c0, c1, c2, c3, c4, f0, f1, f2, f3, k1, k2, k3, k4⟩ := s1.facts
        obtain ⟨⟨a0, a1, a2, a3, a4⟩, b0, b1, b2, b3, b4⟩ := s1.facts2
        have HE : Hid (s.toList = l) := by unfold Hid; rw [ByteArray.toList_eq, HL.out]
        by_cases hq : Isa.text op fd fa fb im = l
        · have ht : (Isa.text op fd fa fb im == s.toList) = true := by rw [HE.out, hq]; exact beq_self_eq_true _
          have HQ := Lib.hid hq
          clear hq
          go_wp2_with fail
          obtain ⟨b5, h5⟩ := store5 (x0 := .int .i64 op) (x1 := .int .i64 fd) (x2 := .int .i64 fa) (x3 := .int .i64 fb) (x4 := .int .i64 im) s1.below s1.res (Nat.le_refl _)
          obtain ⟨wz, hw⟩ : ∃ wz, wz = ((((we.setCell ⟨w.heap.size, 0, none⟩ (.int .i64 op)).setCell ⟨w.heap.size, 1, none⟩ (.int .i64 fd)).setCell ⟨w.heap.size, 2, none⟩ (.int .i64 fa)).setCell ⟨w.heap.size, 3, none⟩ (.int .i64 fb)).setCell ⟨w.heap.size, 4, none⟩ (.int .i64 im) := ⟨_, rfl⟩
          rw [← hw] at b5 h5 ⊢
          clear hw
          obtain ⟨g0, g1, g2, g3, g4⟩ := cells5 h5
          refine bodyPost_ret (v := .tuple #[.agg #[.int .i64 op, .int .i64 fd, .int .i64 fa, .int .i64 fb, .int .i64 im], .int .i64 0]) (by simp [results, Tryd.results25, go_sem, g0, g1, g2, g3, g4]) rfl ⟨?_, b5⟩
          rw [← HL.out]
          have hp : pOk l = true := by unfold pOk; rw [HFS.out.1, HFS.out.2.1, HFS.out.2.2.1, HFS.out.2.2.2.1, HFS.out.2.2.2.2, hk.out, HQ.out]; simp
          have hr := par_ok hp
          rw [HFS.out.1, HFS.out.2.1, HFS.out.2.2.1, HFS.out.2.2.2.1, HFS.out.2.2.2.2] at hr
          exact hr
        · have ht : (Isa.text op fd fa fb im == s.toList) = false := by rw [HE.out]; exact beq_eq_false_iff_ne.2 hq
          have HQ := Lib.hid hq
          clear hq
          go_wp2_with fail
          obtain ⟨b5, h5⟩ := store5 (x0 := .int .i64 0) (x1 := .int .i64 0) (x2 := .int .i64 0) (x3 := .int .i64 0) (x4 := .int .i64 0) s1.below s1.res (Nat.le_refl _)
          obtain ⟨wz, hw⟩ : ∃ wz, wz = ((((we.setCell ⟨w.heap.size, 0, none⟩ (.int .i64 0)).setCell ⟨w.heap.size, 1, none⟩ (.int .i64 0)).setCell ⟨w.heap.size, 2, none⟩ (.int .i64 0)).setCell ⟨w.heap.size, 3, none⟩ (.int .i64 0)).setCell ⟨w.heap.size, 4, none⟩ (.int .i64 0) := ⟨_, rfl⟩
          rw [← hw] at b5 h5 ⊢
          clear hw
          obtain ⟨g0, g1, g2, g3, g4⟩ := cells5 h5
          refine bodyPost_ret (v := .tuple #[.agg #[.int .i64 0, .int .i64 0, .int .i64 0, .int .i64 0, .int .i64 0], .int .i64 11]) (by simp [results, Tryd.results25, go_sem, g0, g1, g2, g3, g4]) rfl ⟨?_, b5⟩
          rw [← HL.out]
          exact par_bad (by unfold pOk; rw [HFS.out.1, HFS.out.2.1, HFS.out.2.2.1, HFS.out.2.2.2.1, HFS.out.2.2.2.2, hk.out]; simpa using HQ.out)
    · go_wp2_with fail
      refine (next_list s1 h []).mono ?_
      rintro e w5 ⟨rfl, t2⟩
      replace s1 := t2
      clear t2
      clear c0 c1 c2 c3 c4 f0 f1 f2 f3 k1 k2 k3 k4
      obtain ⟨c0, c1, c2, c3, c4, f0, f1, f2, f3, k1, k2, k3, k4⟩ := s1.facts
      have HFS : Hid (pOp l = op ∧ (p1 l).1 = fd ∧ (p2 l).1 = fa ∧ (p3 l).1 = fb ∧ (p4 l).1 = nextN r []) := ⟨HOP.out.symm, HFD.out.1, HFD.out.2.1, HFD.out.2.2, by rw [HP4.out, HR.out]; rfl⟩
      obtain ⟨im, him⟩ : ∃ im : Int, im = nextN r [] := ⟨_, rfl⟩
      rw [← him] at HFS ⊢
      clear him
      go_upto_region 13 with fail
      replace s1 := s1.store (op2 := op) (d2 := fd) (a2 := fa) (b2 := fb) (imm2 := im) 4 im (by decide) rfl
      obtain ⟨w6, hw⟩ : ∃ x, x = w5.setCell ⟨X, 4, none⟩ (.int .i64 im) := ⟨_, rfl⟩
      rw [← hw] at s1 ⊢
      clear hw
      clear c0 c1 c2 c3 c4 f0 f1 f2 f3 k1 k2 k3 k4
      have he := h.below s1.below
      cases ho : Isa.ok op fd fa fb im
      · obtain ⟨c0, c1, c2, c3, c4, f0, f1, f2, f3, k1, k2, k3, k4⟩ := s1.facts
        go_wp2_with fail
        refine (check_bad _ _ _ _ _ _ he.toEnv ho).mono ?_
        rintro e wd ⟨rfl, hb⟩
        have hk := Lib.hid ho
        clear ho he
        replace s1 := s1.grow hb
        clear hb
        clear c0 c1 c2 c3 c4 f0 f1 f2 f3 k1 k2 k3 k4
        obtain ⟨c0, c1, c2, c3, c4, f0, f1, f2, f3, k1, k2, k3, k4⟩ := s1.facts
        obtain ⟨⟨a0, a1, a2, a3, a4⟩, b0, b1, b2, b3, b4⟩ := s1.facts2
        go_wp2_with fail
        obtain ⟨b5, h5⟩ := store5 (x0 := .int .i64 0) (x1 := .int .i64 0) (x2 := .int .i64 0) (x3 := .int .i64 0) (x4 := .int .i64 0) s1.below s1.res (Nat.le_refl _)
        obtain ⟨wz, hw⟩ : ∃ wz, wz = ((((wd.setCell ⟨w.heap.size, 0, none⟩ (.int .i64 0)).setCell ⟨w.heap.size, 1, none⟩ (.int .i64 0)).setCell ⟨w.heap.size, 2, none⟩ (.int .i64 0)).setCell ⟨w.heap.size, 3, none⟩ (.int .i64 0)).setCell ⟨w.heap.size, 4, none⟩ (.int .i64 0) := ⟨_, rfl⟩
        rw [← hw] at b5 h5 ⊢
        clear hw
        obtain ⟨g0, g1, g2, g3, g4⟩ := cells5 h5
        refine bodyPost_ret (v := .tuple #[.agg #[.int .i64 0, .int .i64 0, .int .i64 0, .int .i64 0, .int .i64 0], .int .i64 11]) (by simp [results, Tryd.results25, go_sem, g0, g1, g2, g3, g4]) rfl ⟨?_, b5⟩
        rw [← HL.out]
        exact par_bad (by unfold pOk; rw [HFS.out.1, HFS.out.2.1, HFS.out.2.2.1, HFS.out.2.2.2.1, HFS.out.2.2.2.2, hk.out]; rfl)
      · obtain ⟨c0, c1, c2, c3, c4, f0, f1, f2, f3, k1, k2, k3, k4⟩ := s1.facts
        go_wp2_with fail
        refine (check_ok _ _ _ _ _ _ he.toEnv ho).mono ?_
        rintro e wd ⟨rfl, hb⟩
        have hk := Lib.hid ho
        clear ho he
        replace s1 := s1.grow hb
        clear hb
        clear c0 c1 c2 c3 c4 f0 f1 f2 f3 k1 k2 k3 k4
        obtain ⟨c0, c1, c2, c3, c4, f0, f1, f2, f3, k1, k2, k3, k4⟩ := s1.facts
        have he := h.below s1.below
        go_wp2_with fail
        refine (text_ok _ _ _ _ _ _ he hk.out).mono ?_
        rintro e we ⟨rfl, hb⟩
        replace s1 := s1.grow hb
        clear hb he
        clear c0 c1 c2 c3 c4 f0 f1 f2 f3 k1 k2 k3 k4
        obtain ⟨c0, c1, c2, c3, c4, f0, f1, f2, f3, k1, k2, k3, k4⟩ := s1.facts
        obtain ⟨⟨a0, a1, a2, a3, a4⟩, b0, b1, b2, b3, b4⟩ := s1.facts2
        have HE : Hid (s.toList = l) := by unfold Hid; rw [ByteArray.toList_eq, HL.out]
        by_cases hq : Isa.text op fd fa fb im = l
        · have ht : (Isa.text op fd fa fb im == s.toList) = true := by rw [HE.out, hq]; exact beq_self_eq_true _
          have HQ := Lib.hid hq
          clear hq
          go_wp2_with fail
          obtain ⟨b5, h5⟩ := store5 (x0 := .int .i64 op) (x1 := .int .i64 fd) (x2 := .int .i64 fa) (x3 := .int .i64 fb) (x4 := .int .i64 im) s1.below s1.res (Nat.le_refl _)
          obtain ⟨wz, hw⟩ : ∃ wz, wz = ((((we.setCell ⟨w.heap.size, 0, none⟩ (.int .i64 op)).setCell ⟨w.heap.size, 1, none⟩ (.int .i64 fd)).setCell ⟨w.heap.size, 2, none⟩ (.int .i64 fa)).setCell ⟨w.heap.size, 3, none⟩ (.int .i64 fb)).setCell ⟨w.heap.size, 4, none⟩ (.int .i64 im) := ⟨_, rfl⟩
          rw [← hw] at b5 h5 ⊢
          clear hw
          obtain ⟨g0, g1, g2, g3, g4⟩ := cells5 h5
          refine bodyPost_ret (v := .tuple #[.agg #[.int .i64 op, .int .i64 fd, .int .i64 fa, .int .i64 fb, .int .i64 im], .int .i64 0]) (by simp [results, Tryd.results25, go_sem, g0, g1, g2, g3, g4]) rfl ⟨?_, b5⟩
          rw [← HL.out]
          have hp : pOk l = true := by unfold pOk; rw [HFS.out.1, HFS.out.2.1, HFS.out.2.2.1, HFS.out.2.2.2.1, HFS.out.2.2.2.2, hk.out, HQ.out]; simp
          have hr := par_ok hp
          rw [HFS.out.1, HFS.out.2.1, HFS.out.2.2.1, HFS.out.2.2.2.1, HFS.out.2.2.2.2] at hr
          exact hr
        · have ht : (Isa.text op fd fa fb im == s.toList) = false := by rw [HE.out]; exact beq_eq_false_iff_ne.2 hq
          have HQ := Lib.hid hq
          clear hq
          go_wp2_with fail
          obtain ⟨b5, h5⟩ := store5 (x0 := .int .i64 0) (x1 := .int .i64 0) (x2 := .int .i64 0) (x3 := .int .i64 0) (x4 := .int .i64 0) s1.below s1.res (Nat.le_refl _)
          obtain ⟨wz, hw⟩ : ∃ wz, wz = ((((we.setCell ⟨w.heap.size, 0, none⟩ (.int .i64 0)).setCell ⟨w.heap.size, 1, none⟩ (.int .i64 0)).setCell ⟨w.heap.size, 2, none⟩ (.int .i64 0)).setCell ⟨w.heap.size, 3, none⟩ (.int .i64 0)).setCell ⟨w.heap.size, 4, none⟩ (.int .i64 0) := ⟨_, rfl⟩
          rw [← hw] at b5 h5 ⊢
          clear hw
          obtain ⟨g0, g1, g2, g3, g4⟩ := cells5 h5
          refine bodyPost_ret (v := .tuple #[.agg #[.int .i64 0, .int .i64 0, .int .i64 0, .int .i64 0, .int .i64 0], .int .i64 11]) (by simp [results, Tryd.results25, go_sem, g0, g1, g2, g3, g4]) rfl ⟨?_, b5⟩
          rw [← HL.out]
          exact par_bad (by unfold pOk; rw [HFS.out.1, HFS.out.2.1, HFS.out.2.2.1, HFS.out.2.2.2.1, HFS.out.2.2.2.2, hk.out]; simpa using HQ.out)
end Go.Proofs.YtmgheeldoadnhaaDoor
