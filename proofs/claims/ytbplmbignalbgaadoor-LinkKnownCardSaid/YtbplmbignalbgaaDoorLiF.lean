/- Contracts: where a label stands, how many items are no labels. Conditions: the objects and places lie as told. -/
import Derived.Test.YtbplmbignalbgaaDoorLiD
import Derived.Test.YtbplmbignalbgaaDoorAsX
import Derived.Test.YtbplmbignalbgaaDoorAsY
namespace Go.Proofs.YtbplmbignalbgaaDoor
open Go.RowKit Asm
set_option linter.unusedVariables false
set_option linter.unusedSimpArgs false

theorem row_cells {w : World} {p : Option Addr} {c B : Nat} {P : List (ByteArray × Int)} {n : Nat} (h : w.ownsRow B 47 2 (.slice p n c) n (rowP P)) (hn : P.length = n) {k : Nat} (hk : k < n) : ∃ g, p = some ⟨g, 0, none⟩ ∧ w.cell? ⟨g, k * 2, none⟩ = some (.string (P.getD k default).1) ∧ w.cell? ⟨g, k * 2 + 1, none⟩ = some (.int .i64 (P.getD k default).2) := by
  obtain ⟨g, cap, e, -, -⟩ := World.ownsRow.form h (by omega)
  simp only [Value.slice.injEq] at e
  obtain ⟨rfl, -, rfl⟩ := e
  have key : ∀ (L : List (ByteArray × Int)) (j : Nat), j < L.length → (rowP L)[j * 2]? = some (.string (L.getD j default).1) ∧ (rowP L)[j * 2 + 1]? = some (.int .i64 (L.getD j default).2) := by
    intro L
    induction L with
    | nil => intro j hj; simp at hj
    | cons q r ih =>
      intro j hj
      have e : rowP (q :: r) = .string q.1 :: .int .i64 q.2 :: rowP r := rfl
      rw [e]
      cases j with
      | zero => exact ⟨rfl, rfl⟩
      | succ j =>
        rw [show (j + 1) * 2 = j * 2 + 2 by omega]
        have := ih j (by simpa using hj)
        exact ⟨this.1, this.2⟩
  obtain ⟨e1, e2⟩ := key P k (by omega)
  exact ⟨g, rfl, (World.ownsRow.cellAt h (k * 2) (by omega)).trans e1, (World.ownsRow.cellAt h (k * 2 + 1) (by omega)).trans e2⟩
/-- The first place among k with a label. -/
def pfind (P : List (ByteArray × Int)) (s : ByteArray) : Nat → Option Int
  | 0 => none
  | k + 1 => match pfind P s k with
    | some a => some a
    | none => if (P.getD k default).1 = s then some (P.getD k default).2 else none
theorem pfind_stays {P : List (ByteArray × Int)} {s : ByteArray} {k : Nat} {a : Int} (h : pfind P s k = some a) : ∀ m, k ≤ m → pfind P s m = some a
  | 0, hm => by obtain rfl : k = 0 := by omega
                exact h
  | m + 1, hm => by
    by_cases he : k = m + 1
    · rw [← he]; exact h
    · show (match pfind P s m with | some a => some a | none => _) = some a
      rw [pfind_stays h m (by omega)]
theorem pfind_hit {P : List (ByteArray × Int)} {s : ByteArray} {k : Nat} (h : pfind P s k = none) (h2 : (P.getD k default).1 = s) : pfind P s (k + 1) = some (P.getD k default).2 := by
  show (match pfind P s k with | some a => some a | none => if _ then _ else none) = _
  rw [h]
  exact if_pos h2
theorem pfind_miss {P : List (ByteArray × Int)} {s : ByteArray} {k : Nat} (h : pfind P s k = none) (h2 : (P.getD k default).1 ≠ s) : pfind P s (k + 1) = none := by
  show (match pfind P s k with | some a => some a | none => if _ then _ else none) = _
  rw [h]
  exact if_neg h2
def foundV (o : Option Int) : Value := .tuple #[.int .i64 (o.getD 0), .bool o.isSome]
set_option maxRecDepth 100000 in
set_option maxHeartbeats 4000000 in
theorem find_at {w : World} {p : Option Addr} {n c B : Nat} {P : List (ByteArray × Int)} (h : w.ownsRow B 47 2 (.slice p n c) n (rowP P)) (hn : P.length = n) (hm : n ≤ 1000000000) (pw : Option Addr) (nw cw : Nat) (s : ByteArray) :
    Calls Tryd.prog 15 #[.agg #[.slice pw nw cw, .slice p n c], .string s] w fun e w' => e = .returned (foundV (pfind P s n)) ∧ Below w.heap.size w w' := by
  have hal := (Below.refl w.heap.size w).alloc (Nat.le_refl _) (.cells #[.slice pw nw cw, .slice p n c] 30)
  have hN := cells2 (heap_new w (.cells #[.slice pw nw cw, .slice p n c] 30))
  have ho := h.alloc (.cells #[.slice pw nw cw, .slice p n c] 30)
  obtain ⟨w1, hw1⟩ : ∃ w1, w1 = w.alloc (.cells #[.slice pw nw cw, .slice p n c] 30) := ⟨_, rfl⟩
  obtain ⟨Q, hQ⟩ : ∃ Q, Q = w.heap.size := ⟨_, rfl⟩
  rw [← hw1] at hN ho hal
  rw [← hQ] at hN
  have H := Lib.hid (And.intro ho (And.intro hal hn))
  clear h ho hal hn
  go_enter Tryd.func15, Tryd.ntmps15
  go_upto_region 1 with fail
  rw [← hw1, ← hQ]
  clear hw1 hQ
  obtain ⟨c0, c1⟩ := hN
  go_wp2_with fail
  clear c0 c1
  go_loopw [11] (fun i wr => ∃ k : Nat, i = .int .i64 k ∧ k ≤ n ∧ pfind P s k = none ∧ Below w1.heap.size w1 wr) (fun i _ => n - (intOf i).toNat)
  case atStart => exact ⟨0, rfl, Nat.zero_le _, rfl, Below.refl _ _⟩
  case round =>
    obtain ⟨k, rfl, hk, hpf, hb⟩ := hrel
    by_cases hlt : k < n
    · as_aux_lemma =>
        have d1 : decide ((k : Int) < (n : Int)) = true := decide_eq_true (by omega)
        have ek : (k : Int) < (n : Int) := by omega
        obtain ⟨g, rfl, k0, k1⟩ := row_cells (own_below H.out.1 hb) H.out.2.2 hlt
        obtain ⟨⟨l, a⟩, hq⟩ : ∃ q, q = P.getD k default := ⟨_, rfl⟩
        rw [← hq] at k0 k1
        have HB := Lib.hid (And.intro hb (And.intro hpf hq))
        clear hb hpf hq
        by_cases hl : l = s
        · subst hl
          have d2 := bl_true (rfl : l = l)
          go_wp2_with fail
          go_ret2
          refine ⟨?_, (H.out.2.1.trans (HB.out.1.mono H.out.2.1.size)).alloc ?_ _⟩
          · rw [pfind_stays (pfind_hit (k := k) HB.out.2.1 (by rw [← HB.out.2.2])) n hlt, ← HB.out.2.2]
            rfl
          · have := HB.out.1.size; have := H.out.2.1.size; omega
        · have d2 := bl_false hl
          go_wp2_with fail
          go_roundw
          case rel => exact ⟨k + 1, by go_num, hlt, pfind_miss HB.out.2.1 (by rw [← HB.out.2.2]; exact hl), HB.out.1.alloc HB.out.1.size _⟩
          case measure => simp [intOf]; omega
    · as_aux_lemma =>
        have hz : k = n := by omega
        subst hz
        have d1 : decide ((k : Int) < (k : Int)) = false := by simp
        have HB := Lib.hid (And.intro hb hpf)
        clear hb hpf
        go_wp2_with fail
        go_ret2
        refine ⟨?_, H.out.2.1.trans (HB.out.1.mono H.out.2.1.size)⟩
        rw [HB.out.2]
        rfl
end Go.Proofs.YtbplmbignalbgaaDoor
