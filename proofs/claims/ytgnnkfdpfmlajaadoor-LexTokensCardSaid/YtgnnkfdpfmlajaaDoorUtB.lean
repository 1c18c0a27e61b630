/- Plain: rows of numbers in memory: read, owned, appended to. Conditions: none. -/
import Derived.Test.YtgnnkfdpfmlajaaDoorUtA
import Derived.Test.YtgnnkfdpfmlajaaDoorChecked
import Derived.Laws.BytesArg
import Derived.WalkKit
import Derived.WalkSpells
import Derived.WalkLawsBesides
import Derived.Lib.Hide
import Derived.RegionTactic
import Derived.Handy
import Derived.Outline
import Derived.Deep.QuietTactic
import Derived.BigQuiet
import Derived.Deep.Light
import Derived.StillTailTactics
import Derived.Laws.AppendOwn
import Derived.Laws.OwnMore
import Derived.OneCell
import Derived.Deep.RegionHeldLaw
import Derived.Deep.AppendLies
namespace Go.Proofs.YtgnnkfdpfmlajaaDoor
open Go.RowKit Bg
set_option linter.unusedVariables false
set_option linter.unusedSimpArgs false


theorem ret_int {k : IntKind} {a b : Int} (h : a = b) : Ending.returned (.int k a) = .returned (.int k b) := by rw [h]
theorem retB {a b : Bool} (h : a = b) : Ending.returned (.bool a) = .returned (.bool b) := by rw [h]
theorem heap_new (w : World) (o : Obj) : (w.alloc o).heap[w.heap.size]? = some o := by
  show (w.heap.push o)[w.heap.size]? = _
  simp
theorem lt_block {w : World} {b : Nat} {o : Obj} (h : w.heap[b]? = some o) : b < w.heap.size := (Array.getElem?_eq_some_iff.1 h).1
theorem add_at (b off j : Nat) : (⟨b, off, none⟩ : Addr).add j = ⟨b, off + j, none⟩ := by unfold Addr.add; split <;> simp_all

/-- A slice of numbers that reads as told. -/
structure Arg (k : IntKind) (w : World) (p : Option Addr) (c : Nat) (l : List Int) : Prop where
  nil : p = none → l = [] ∧ c = 0
  le : l.length ≤ c
  max : c ≤ 9223372036854775807
  cell : ∀ i, i < l.length → ∃ b off, p = some ⟨b, off, none⟩ ∧ w.cell? ⟨b, off + i, none⟩ = some (.int k (l.getD i 0))
theorem Arg.at {k : IntKind} {w : World} {p : Option Addr} {c : Nat} {l : List Int} (h : Arg k w p c l) (hl : 0 < l.length) : ∃ b off, p = some ⟨b, off, none⟩ ∧ ∀ i, i < l.length → w.cell? ⟨b, off + i, none⟩ = some (.int k (l.getD i 0)) := by
  obtain ⟨b, off, hp, -⟩ := h.cell 0 hl
  refine ⟨b, off, hp, fun i hi => ?_⟩
  obtain ⟨b', off', hp', hc⟩ := h.cell i hi
  rw [hp] at hp'
  cases hp'
  exact hc
theorem Arg.some_at {k : IntKind} {w : World} {b off : Nat} {c : Nat} {l : List Int} (h : Arg k w (some ⟨b, off, none⟩) c l) (i : Nat) (hi : i < l.length) : w.cell? ⟨b, off + i, none⟩ = some (.int k (l.getD i 0)) := by
  obtain ⟨b', off', hp', hc⟩ := h.cell i hi
  cases hp'
  exact hc
theorem Arg.below {k : IntKind} {w w' : World} {p : Option Addr} {c : Nat} {l : List Int} (h : Arg k w p c l) (hb : Below w.heap.size w w') : Arg k w' p c l :=
  ⟨h.nil, h.le, h.max, fun i hi => by
    obtain ⟨b, off, hp, hc⟩ := h.cell i hi
    exact ⟨b, off, hp, (hb.cell (p := ⟨b, off + i, none⟩) (World.block_lt_of_cell? w _ hc)).trans hc⟩⟩
theorem Arg.drew {k : IntKind} {w : World} {p : Option Addr} {c : Nat} {l : List Int} (h : Arg k w p c l) : Arg k w.drew p c l := h.below (Below.refl _ _).drew
theorem Arg.alloc {k : IntKind} {w : World} {p : Option Addr} {c : Nat} {l : List Int} (h : Arg k w p c l) (o : Obj) : Arg k (w.alloc o) p c l := h.below ((Below.refl _ _).alloc (Nat.le_refl _) o)
theorem Arg.take {k : IntKind} {w : World} {p : Option Addr} {c : Nat} {l : List Int} (h : Arg k w p c l) (n : Nat) : Arg k w p c (l.take n) :=
  ⟨fun hp => ⟨by rw [(h.nil hp).1]; exact List.take_nil, (h.nil hp).2⟩, by have := h.le; rw [List.length_take]; omega, h.max, fun i hi => by
    rw [List.length_take] at hi
    obtain ⟨b, off, hp, hc⟩ := h.cell i (by omega)
    refine ⟨b, off, hp, hc.trans ?_⟩
    simp [List.getD, List.getElem?_take, show i < n by omega]⟩
theorem Arg.drop {k : IntKind} {w : World} {p : Option Addr} {c : Nat} {l : List Int} (h : Arg k w p c l) {n : Nat} (hn : n ≤ l.length) : Arg k w (p.map fun a => a.add n) (c - n) (l.drop n) := by
  have hle := h.le
  have hmx := h.max
  refine ⟨fun hp => ?_, by rw [List.length_drop]; omega, by omega, fun i hi => ?_⟩
  · have hp0 : p = none := by cases p <;> simp_all
    have := h.nil hp0
    rw [this.1, this.2]
    exact ⟨List.drop_nil, by omega⟩
  · rw [List.length_drop] at hi
    obtain ⟨b, off, hp, hc⟩ := h.cell (n + i) (by omega)
    refine ⟨b, off + n, by rw [hp]; exact congrArg some (add_at b off n), ?_⟩
    rw [Nat.add_assoc, hc]
    simp [List.getD, List.getElem?_drop]
theorem Arg.nothing (k : IntKind) (w : World) : Arg k w none 0 [] := ⟨fun _ => ⟨rfl, rfl⟩, Nat.le_refl _, by decide, fun i hi => absurd hi (Nat.not_lt_zero _)⟩

/-- A row of numbers of the call's own. -/
def Own (E : TypeId) (k : IntKind) (B : Nat) (w : World) (v : Value) (l : List Int) : Prop := w.ownsRow B E 1 v l.length (l.map (Value.int k))
theorem row_get {k : IntKind} {l : List Int} {i : Nat} (hi : i < l.length) : (l.map (Value.int k))[i]? = some (.int k (l.getD i 0)) := by
  rw [List.getElem?_map, List.getElem?_eq_getElem hi]
  simp [List.getD, List.getElem?_eq_getElem hi]
theorem row_one (k : IntKind) (l : List Int) : ∀ u ∈ l.map (Value.int k), u.oneCell' = true := by
  intro u hu
  obtain ⟨x, -, rfl⟩ := List.mem_map.1 hu
  rfl
theorem Own.nil (E : TypeId) (k : IntKind) (B : Nat) (w : World) : Own E k B w (.slice none 0 0) [] := World.ownsRow_nil _ _ _ _
theorem Own.arg {E : TypeId} {k : IntKind} {B : Nat} {w : World} {v : Value} {l : List Int} (h : Own E k B w v l) : ∃ p c, v = .slice p l.length c ∧ Arg k w p c l ∧ (p = none ∨ ∃ g, p = some ⟨g, 0, none⟩ ∧ B ≤ g ∧ g < w.heap.size) := by
  rcases h.2 with ⟨rfl, h0⟩ | ⟨g, cap, cur, rfl, hB, hg, hcap, hmax, hcs, htake⟩
  · have : l = [] := List.length_eq_zero_iff.1 h0
    subst this
    exact ⟨none, 0, rfl, Arg.nothing _ _, Or.inl rfl⟩
  · refine ⟨_, cap, rfl, ⟨fun h => (by cases h), hcap, by unfold maxLen at hmax; omega, fun i hi => ⟨g, 0, rfl, ?_⟩⟩, Or.inr ⟨g, rfl, hB, lt_block hg⟩⟩
    rw [Nat.zero_add, World.ownsRow.cellAt h i (by omega)]
    exact row_get hi
theorem Own.take {E : TypeId} {k : IntKind} {B : Nat} {w : World} {p : Option Addr} {n c : Nat} {l : List Int} (h : Own E k B w (.slice p n c) l) {m : Nat} (hm : m ≤ l.length) : Own E k B w (.slice p m c) (l.take m) := by
  have hl : (l.take m).length = m := by rw [List.length_take]; omega
  rcases h.2 with ⟨h0, h1⟩ | ⟨g, cap, cur, hv, hB, hg, hcap, hmax, hcs, htake⟩
  · cases h0
    have : m = 0 := by omega
    subst this
    exact Own.nil _ _ _ _
  · cases hv
    refine ⟨by rw [List.length_map, Nat.mul_one], Or.inr ⟨g, c, cur, by rw [hl], hB, hg, by omega, hmax, hcs, ?_⟩⟩
    rw [hl, List.map_take, ← htake, List.take_take]
    congr 1
    omega
theorem Own.below {E : TypeId} {k : IntKind} {B : Nat} {w w' : World} {v : Value} {l : List Int} (h : Own E k B w v l) (hb : Below w.heap.size w w') : Own E k B w' v l := by
  rcases h.2 with h0 | ⟨g, cap, cur, hv, hB, hg, hcap, hmax, hcs, htake⟩
  · exact ⟨h.1, Or.inl h0⟩
  · exact ⟨h.1, Or.inr ⟨g, cap, cur, hv, hB, (hb.block g (lt_block hg)).trans hg, hcap, hmax, hcs, htake⟩⟩
theorem Own.drew {E : TypeId} {k : IntKind} {B : Nat} {w : World} {v : Value} {l : List Int} (h : Own E k B w v l) : Own E k B w.drew v l := h.below (Below.refl _ _).drew
theorem Own.alloc {E : TypeId} {k : IntKind} {B : Nat} {w : World} {v : Value} {l : List Int} (h : Own E k B w v l) (o : Obj) : Own E k B (w.alloc o) v l := h.below ((Below.refl _ _).alloc (Nat.le_refl _) o)
theorem Own.base {E : TypeId} {k : IntKind} {B B' : Nat} {w : World} {v : Value} {l : List Int} (h : Own E k B w v l) (hB : B' ≤ B) : Own E k B' w v l := by
  rcases h.2 with h0 | ⟨g, cap, cur, hv, hBg, hr⟩
  · exact ⟨h.1, Or.inl h0⟩
  · exact ⟨h.1, Or.inr ⟨g, cap, cur, hv, Nat.le_trans hB hBg, hr⟩⟩
theorem Own.at {E : TypeId} {k : IntKind} {B : Nat} {w : World} {v : Value} {l : List Int} (h : Own E k B w v l) (hl : 0 < l.length) : ∃ g c, v = .slice (some ⟨g, 0, none⟩) l.length c ∧ B ≤ g ∧ g < w.heap.size ∧ l.length ≤ c ∧ c ≤ 9223372036854775807 := by
  rcases h.2 with ⟨rfl, h0⟩ | ⟨g, cap, cur, rfl, hB, hg, hcap, hmax, hcs, htake⟩
  · omega
  · exact ⟨g, cap, rfl, hB, lt_block hg, hcap, by unfold maxLen at hmax; omega⟩
theorem Own.cell {E : TypeId} {k : IntKind} {B : Nat} {w : World} {g n c : Nat} {l : List Int} (h : Own E k B w (.slice (some ⟨g, 0, none⟩) n c) l) (i : Nat) (hi : i < l.length) : w.cell? ⟨g, i, none⟩ = some (.int k (l.getD i 0)) := by
  have hn : n = l.length := by
    rcases h.2 with ⟨h0, h1⟩ | ⟨g, cap, cur, hv, -⟩
    · cases h0
    · cases hv; rfl
  subst hn
  rw [World.ownsRow.cellAt h i (by omega)]
  exact row_get hi
theorem Own.len {E : TypeId} {k : IntKind} {B : Nat} {w : World} {p : Option Addr} {n c : Nat} {l : List Int} (h : Own E k B w (.slice p n c) l) : n = l.length := by
  rcases h.2 with ⟨h0, h1⟩ | ⟨g, cap, cur, hv, -⟩
  · cases h0; exact h1.symm
  · cases hv; rfl
theorem Own.free {E : TypeId} {k : IntKind} {B : Nat} {w : World} {g n c : Nat} {l : List Int} (h : Own E k B w (.slice (some ⟨g, 0, none⟩) n c) l) (i : Nat) : w.frozen? ⟨g, i, none⟩ = false := by
  have hn := h.len
  subst hn
  exact World.ownsRow.frozenAt h i
theorem Own.lt {E : TypeId} {k : IntKind} {B : Nat} {w : World} {g n c : Nat} {l : List Int} (h : Own E k B w (.slice (some ⟨g, 0, none⟩) n c) l) : B ≤ g ∧ g < w.heap.size := World.ownsRow.lt h g rfl
theorem Own.set {E : TypeId} {k : IntKind} {B : Nat} {w : World} {g n c : Nat} {l : List Int} (h : Own E k B w (.slice (some ⟨g, 0, none⟩) n c) l) (i : Nat) (x : Int) : Own E k B (w.setCell ⟨g, i, none⟩ (.int k x)) (.slice (some ⟨g, 0, none⟩) n c) (l.set i x) := by
  have hn := h.len
  subst hn
  have h1 := (World.ownsRow.stored h i (.int k x)).1
  unfold Own
  rw [List.length_set, List.map_set]
  exact h1
/-- Another own row of another block stays. -/
theorem Own.other {E : TypeId} {k : IntKind} {B : Nat} {w : World} {v : Value} {l : List Int} (h : Own E k B w v l) {a : Addr} (u : Value) (hne : v.ownBlock ≠ some a.block) : Own E k B (w.setCell a u) v l := by
  rcases h.2 with h0 | ⟨g, cap, cur, rfl, hB, hg, hr⟩
  · exact ⟨h.1, Or.inl h0⟩
  · refine ⟨h.1, Or.inr ⟨g, cap, cur, rfl, hB, (Below.heap_setCell _ _ _ _ (fun e => hne ?_)).trans hg, hr⟩⟩
    show some g = _
    rw [e]

/-! ### Types -/
structure KT (S E : TypeId) (k : IntKind) (b : Nat) : Prop where
  und : Tryd.prog.underlying S = some (.slice E)
  info : ∃ i, Tryd.prog.info? E = some i ∧ i.zero = some (.int k 0) ∧ i.size = 1 ∧ i.bytes = b
  small : b ≤ 8
theorem info_of {E : TypeId} {k : IntKind} {b : Nat} (h : (Tryd.prog.info? E).map (fun i => (i.zero, i.size, i.bytes)) = some (some (.int k 0), 1, b)) : ∃ i, Tryd.prog.info? E = some i ∧ i.zero = some (.int k 0) ∧ i.size = 1 ∧ i.bytes = b := by
  obtain ⟨i, hi, hx⟩ := Option.map_eq_some_iff.1 h
  simp only [Prod.mk.injEq] at hx
  exact ⟨i, hi, hx⟩
theorem kt8 : KT 22 5 .u8 1 := ⟨Tryd.underlying22, info_of (by kernel_rfl), by decide⟩

/-- A row, appended to an own row. -/
theorem app_row {S E : TypeId} {k : IntKind} {b : Nat} (T : KT S E k b) {w : World} {B : Nat} {v : Value} {l m : List Int} {p : Option Addr} {c : Nat} (h : Own E k B w v l) (a : Arg k w p c m) (hm : l.length + m.length ≤ 1000000000) (hB : B ≤ w.heap.size) :
    ∃ v' w', (Builtin.append_ #[S, S] S #[v, .slice p m.length c]).run Tryd.prog w = .ok v' w' ∧ Own E k B w' v' (l ++ m) ∧ w.grownBy w' v.ownBlock ∧ Below B w w' := by
  obtain ⟨i0, hi, hz0, hz1, hz2⟩ := T.info
  by_cases h0 : m.length = 0
  · have hm0 : m = [] := List.length_eq_zero_iff.1 h0
    subst hm0
    refine ⟨v, w, ?_, by rw [List.append_nil]; exact h, ⟨rfl, rfl, rfl, Nat.le_refl _, fun _ _ _ => rfl⟩, Below.refl _ _⟩
    have e : ∀ q : Option Addr, (Builtin.append_ #[S, S] S #[v, .slice q 0 c]).run Tryd.prog w = .ok v w := by
      intro q
      rcases h.2 with ⟨rfl, hl0⟩ | ⟨g, cap, cur, rfl, -, hg, hcap, hmax, hcs, htake⟩
      · cases q <;> simp [Builtin.append_, run_underlying T.und, sizeOf, typeInfo, hi, Builtin.lenOf, Builtin.firstCells, storeCells, loadCells, loadCellsFrom]
      · cases q <;> simp [Builtin.append_, run_underlying T.und, sizeOf, typeInfo, hi, Builtin.lenOf, Builtin.firstCells, storeCells, hcap, loadCells, loadCellsFrom]
    exact e p
  · obtain ⟨g, off, rfl, hc⟩ := a.at (by omega)
    obtain ⟨v', w', hr, h1, h2, -⟩ := run_append_own (P := Tryd.prog) w B S S E i0 (.int k 0) 1 b T.und hi hz0 hz1 hz2 rfl (by decide) v l.length (l.map (Value.int k)) h ⟨g, off, none⟩ m.length c (m.map (Value.int k)) (by rw [List.length_map, Nat.mul_one]) (fun j u hu => by
      have hj : j < m.length := by
        have := (List.getElem?_eq_some_iff.1 hu).1
        rw [List.length_map] at this
        exact this
      rw [add_at, hc j hj, ← hu, row_get hj]) (row_one k m) (by unfold maxLen; omega) (by have := T.small; have := Nat.mul_le_mul (show l.length + m.length ≤ 1000000000 by omega) this; omega) hB
    refine ⟨v', w', hr, ?_, h2, (Below.refl _ _).grown h2 hB (fun q hq => (World.ownsRow.lt h q hq).1)⟩
    unfold Own
    rw [List.length_append, List.map_append]
    exact h1
/-- One number, appended. -/
theorem app_one {S E : TypeId} {k : IntKind} {b : Nat} (T : KT S E k b) {w : World} {B : Nat} {v : Value} {l : List Int} {x : Int} (h : Own E k B w v l) (hm : l.length + 1 ≤ 1000000000) (hB : B ≤ w.heap.size) :
    ∃ v' w', (Builtin.append_ #[S, S] S #[v, .slice (some ⟨w.heap.size, 0, none⟩) 1 1]).run Tryd.prog (w.alloc (.cells #[.int k x] E)) = .ok v' w' ∧ Own E k B w' v' (l ++ [x]) ∧ (w.alloc (.cells #[.int k x] E)).grownBy w' v.ownBlock ∧ Below B w w' := by
  have hb : Below B w (w.alloc (.cells #[.int k x] E)) := (Below.refl _ _).alloc hB _
  obtain ⟨v', w', hr, h1, h2, h3⟩ := app_row T (h.alloc (.cells #[.int k x] E)) (m := [x]) (p := some ⟨w.heap.size, 0, none⟩) (c := 1) ⟨fun h => (by cases h), Nat.le_refl _, by decide, fun i hi => ⟨w.heap.size, 0, rfl, by
    have hi0 : i = 0 := by have : i < 1 := hi; omega
    subst hi0
    have e := heap_new w (.cells #[.int k x] E)
    unfold World.cell?
    rw [e]
    rfl⟩⟩ hm (by simp; omega)
  exact ⟨v', w', hr, h1, h2, hb.trans h3⟩
theorem app_two {S E : TypeId} {k : IntKind} {b : Nat} (T : KT S E k b) {w : World} {B : Nat} {v : Value} {l : List Int} {x : Int} (h : Own E k B w v l) (hm : l.length + 1 ≤ 1000000000) (hB : B ≤ w.heap.size) :
    ∃ v' w', (Builtin.append_ #[S, S] S #[v, .slice (some ⟨w.heap.size, 0, none⟩) 1 1]).run Tryd.prog (w.alloc (.cells #[.int k x] E)) = .ok v' w' ∧ Own E k B w' v' (l ++ [x]) ∧ Below B w w' := by
  obtain ⟨v', w', h1, h2, -, h3⟩ := app_one T (x := x) h hm hB
  exact ⟨v', w', h1, h2, h3⟩
theorem make_own {S E : TypeId} {k : IntKind} {b : Nat} (T : KT S E k b) (w : World) {B : Nat} (n : Nat) (hn : n ≤ 1000000000) (hB : B ≤ w.heap.size) :
    ∃ w', (Instr.makeSlice S (.int .i64 (n : Int)) (.int .i64 (n : Int))).run Tryd.prog w = .ok (.slice (some ⟨w.heap.size, 0, none⟩) n n) w' ∧ Own E k B w' (.slice (some ⟨w.heap.size, 0, none⟩) n n) (List.replicate n 0) ∧ Below w.heap.size w w' := by
  obtain ⟨i, hi, hz, hs, hby⟩ := T.info
  obtain ⟨w', hr, ho, hg⟩ := run_make_full (P := Tryd.prog) w B S E i (.int k 0) 1 T.und hi hz hs .i64 .i64 n (by rw [hby]; have := Nat.mul_le_mul T.small hn; omega) (by unfold maxLen; omega) hB
  refine ⟨w', hr, ?_, (Below.refl _ _).grown hg (Nat.le_refl _) (fun q hq => by cases hq)⟩
  unfold Own
  rw [List.length_replicate]
  have e : (madeCells (Value.int k 0).cells (n * 1)).toList = (List.replicate n 0).map (Value.int k) := by
    rw [Nat.mul_one, List.map_replicate]
    exact toList_madeCells_one _ n
  rw [← e]
  exact ho
end Go.Proofs.YtgnnkfdpfmlajaaDoor
