/- Contracts: the document's Parse: its blocks, and one operation's fields. Conditions: none. -/
import Derived.Test.YtmgheeldoadnhaaDoorWalkJ
import Derived.Test.YtmgheeldoadnhaaDoorRefK
import Derived.Test.YtmgheeldoadnhaaDoorRefL
import Derived.Test.YtmgheeldoadnhaaDoorSpecK
import Derived.Deep.DeepCutAuto
import Derived.Deep.CutBlock
import Derived.Deep.LoopGhost
import Derived.Deep.QuietTactic
import Derived.BigQuiet
namespace Go.Proofs.YtmgheeldoadnhaaDoor
open Go.RowKit

/-- In Parse: the result's block, the words' block. -/
structure Pw (W : World) (A g : Nat) (cur : Array Value) (w : World) : Prop where
  below : Below W.heap.size W w
  res : w.heap[A]? = some (.cells #[.int .i64 0, .int .i64 0, .int .i64 0, .int .i64 0, .int .i64 0] 27 (0, 0))
  row : w.heap[g]? = some (.cells cur 9 (0, 0))
  le : W.heap.size ≤ A
  l1 : A < g
  l2 : g < w.heap.size
theorem Pw.grow {W : World} {A g : Nat} {cur : Array Value} {w w2 : World} (s : Pw W A g cur w) (hb : Below w.heap.size w w2) : Pw W A g cur w2 :=
  have q0 := s.le; have q1 := s.l1; have q2 := s.l2
  ⟨s.below.trans (hb.mono s.below.size), (hb.block _ (by omega)).trans s.res, (hb.block _ q2).trans s.row, q0, q1, Nat.lt_of_lt_of_le q2 hb.size⟩
theorem Pw.drewN {W : World} {A g : Nat} {cur : Array Value} {w : World} (s : Pw W A g cur w) (n : Nat) : Pw W A g cur (w.drewN n) := s.grow (below_drewN (Below.refl _ _) n)
theorem Pw.facts {W : World} {A g : Nat} {cur : Array Value} {w : World} (s : Pw W A g cur w) :
    (w.cell? ⟨A, 0, none⟩ = some (.int .i64 0) ∧ w.cell? ⟨A, 1, none⟩ = some (.int .i64 0) ∧ w.cell? ⟨A, 2, none⟩ = some (.int .i64 0) ∧ w.cell? ⟨A, 3, none⟩ = some (.int .i64 0) ∧ w.cell? ⟨A, 4, none⟩ = some (.int .i64 0)) ∧
    (w.frozen? ⟨A, 0, none⟩ = false ∧ w.frozen? ⟨A, 1, none⟩ = false ∧ w.frozen? ⟨A, 2, none⟩ = false ∧ w.frozen? ⟨A, 3, none⟩ = false ∧ w.frozen? ⟨A, 4, none⟩ = false) :=
  ⟨cells5 s.res, frozen5 s.res 0, frozen5 s.res 1, frozen5 s.res 2, frozen5 s.res 3, frozen5 s.res 4⟩
theorem Pw.cell {W : World} {A g n : Nat} {cur : Array Value} {ws : List (List UInt8)} {w : World} (s : Pw W A g cur w) (h : Hid (cur.toList.take n = strL ws ∧ ws.length = n)) (k : Nat) (hk : k < n) :
    w.cell? ⟨g, k, none⟩ = some (.string ⟨(ws.getD k []).toArray⟩) := by
  obtain ⟨h1, h2⟩ := h.out
  have hc : w.cell? ⟨g, k, none⟩ = cur[k]? := by
    have := s.row
    simp [World.cell?, this]
  have h3 : cur[k]? = (strL ws)[k]? := by
    rw [← h1, List.getElem?_take_of_lt hk]; simp
  rw [hc, h3]
  unfold strL
  rw [List.getElem?_map, List.getElem?_eq_getElem (by omega)]
  simp [List.getD, List.getElem?_eq_getElem (show k < ws.length by omega)]

/-- .. and the instruction's block. -/
structure Px (W : World) (A g X : Nat) (cur : Array Value) (op d a b imm : Int) (w : World) : Prop where
  top : Pw W A g cur w
  inst : w.heap[X]? = some (.cells #[.int .i64 op, .int .i64 d, .int .i64 a, .int .i64 b, .int .i64 imm] 27 (0, 0))
  l3 : g < X
  l4 : X < w.heap.size
theorem Px.grow {W : World} {A g X : Nat} {cur : Array Value} {op d a b imm : Int} {w w2 : World} (s : Px W A g X cur op d a b imm w) (hb : Below w.heap.size w w2) : Px W A g X cur op d a b imm w2 :=
  ⟨s.top.grow hb, (hb.block _ s.l4).trans s.inst, s.l3, Nat.lt_of_lt_of_le s.l4 hb.size⟩
theorem Px.store {W : World} {A g X : Nat} {cur : Array Value} {op d a b imm : Int} {w : World} (s : Px W A g X cur op d a b imm w) (i : Nat) (x : Int) {op2 d2 a2 b2 imm2 : Int} (hi : i < 5)
    (he : (#[Value.int .i64 op, Value.int .i64 d, Value.int .i64 a, Value.int .i64 b, Value.int .i64 imm] : Array Value).setIfInBounds i (.int .i64 x) = #[.int .i64 op2, .int .i64 d2, .int .i64 a2, .int .i64 b2, .int .i64 imm2]) :
    Px W A g X cur op2 d2 a2 b2 imm2 (w.setCell ⟨X, i, none⟩ (.int .i64 x)) :=
  have q0 := s.top.le; have q1 := s.top.l1; have q2 := s.l3; have q3 := s.l4
  ⟨⟨s.top.below.setCell (by show W.heap.size ≤ X; omega) _, (Below.heap_setCell _ _ _ _ (by show _ ≠ X; omega)).trans s.top.res, (Below.heap_setCell _ _ _ _ (by show _ ≠ X; omega)).trans s.top.row, q0, q1, by simp [World.setCell]; exact s.top.l2⟩,
    by rw [← he]; exact setCell_block s.inst (by simpa using hi), q2, by simp [World.setCell]; exact q3⟩
theorem Px.facts {W : World} {A g X : Nat} {cur : Array Value} {op d a b imm : Int} {w : World} (s : Px W A g X cur op d a b imm w) :
    w.cell? ⟨X, 0, none⟩ = some (.int .i64 op) ∧ w.cell? ⟨X, 1, none⟩ = some (.int .i64 d) ∧ w.cell? ⟨X, 2, none⟩ = some (.int .i64 a) ∧ w.cell? ⟨X, 3, none⟩ = some (.int .i64 b) ∧ w.cell? ⟨X, 4, none⟩ = some (.int .i64 imm) ∧
    w.frozen? ⟨X, 1, none⟩ = false ∧ w.frozen? ⟨X, 2, none⟩ = false ∧ w.frozen? ⟨X, 3, none⟩ = false ∧ w.frozen? ⟨X, 4, none⟩ = false := by
  obtain ⟨c0, c1, c2, c3, c4⟩ := cells5 s.inst
  exact ⟨c0, c1, c2, c3, c4, frozen5 s.inst 1, frozen5 s.inst 2, frozen5 s.inst 3, frozen5 s.inst 4⟩
theorem srow_shape {w : World} {base : Nat} {v : Value} {l : List (List UInt8)} (h : SRow base v l w) (hn : 0 < l.length) :
    ∃ g cap cur, v = .slice (some ⟨g, 0, none⟩) l.length cap ∧ base ≤ g ∧ w.heap[g]? = some (.cells cur 9 (0, 0)) ∧ cur.toList.take l.length = strL l := by
  rcases h.2 with ⟨-, h0⟩ | ⟨g, cap, cur, rfl, hb, hh, -, -, -, ht⟩
  · omega
  · exact ⟨g, cap, cur, rfl, hb, hh, by simpa using ht⟩
theorem rname_at (m : Nat) (w : World) (h1 : 1 ≤ m) (h2 : m ≤ 36) : Calls Tryd.prog 14 #[.int .i64 m] w fun e w' => e = .returned (.string ⟨(Isa.nameL m).toArray⟩) ∧ w' = w :=
  (rname_any (m : Int) w).mono fun _ _ ⟨he, hw⟩ => ⟨by
    rw [he]
    unfold nameOf
    rw [if_neg (by rw [Isa.form_pos]; omega)]
    rfl, hw.symm⟩
theorem number_at (l : List UInt8) (w : World) (h : l.length ≤ 60) : Calls Tryd.prog 51 #[.string ⟨l.toArray⟩] w fun e w' => e = .returned (.int .i64 (numL l)) ∧ w = w' :=
  number_any ⟨l.toArray⟩ w (by show l.toArray.size ≤ 60; simpa using h)
theorem word_len : ∀ (l word : List UInt8) (k : Nat), ((splitL l word).getD k []).length ≤ l.length + word.length
  | [], word, k => by
    unfold splitL
    cases k <;> simp
  | c :: r, word, k => by
    unfold splitL
    split
    · cases k with
      | zero => simp
      | succ k =>
        have := word_len r [] k
        simp at this ⊢; omega
    · have := word_len r (word ++ [c]) k
      simp at this ⊢; omega
end Go.Proofs.YtmgheeldoadnhaaDoor
