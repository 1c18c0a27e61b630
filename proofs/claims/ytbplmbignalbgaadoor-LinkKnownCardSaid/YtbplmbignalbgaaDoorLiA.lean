/- Plain: objects, all their items one after the other, what is wrong with their names; how they lie in memory. Conditions: none. -/
import Derived.Test.YtbplmbignalbgaaDoorAsF
import Derived.Laws.OwnMore
namespace Go.Proofs.YtbplmbignalbgaaDoor
open Go.RowKit Asm
set_option linter.unusedVariables false
set_option linter.unusedSimpArgs false

/-! ### Rows of items -/
def icells (x : It) : List Value := [.int .i64 x.kind, .int .i64 x.op, .int .i64 x.d, .int .i64 x.a, .int .i64 x.b, .int .i64 x.imm, .string x.lab, .int .u32 x.word]
def rowL (L : List It) : List Value := L.flatMap icells
theorem icells_get (x : It) (k : Nat) (h : k < 8) : (icells x)[k]? = some (icell x k) := by
  rcases (show k = 0 ∨ k = 1 ∨ k = 2 ∨ k = 3 ∨ k = 4 ∨ k = 5 ∨ k = 6 ∨ k = 7 by omega) with rfl | rfl | rfl | rfl | rfl | rfl | rfl | rfl <;> rfl
theorem rowL_len (L : List It) : (rowL L).length = L.length * 8 := by
  induction L with
  | nil => rfl
  | cons x r ih =>
    show (icells x ++ rowL r).length = _
    rw [List.length_append, ih, List.length_cons]
    show 8 + _ = _
    omega
theorem rowL_app (L M : List It) : rowL (L ++ M) = rowL L ++ rowL M := List.flatMap_append
theorem rowL_get : ∀ (L : List It) (j : Nat), j < L.length → ∀ k, k < 8 → (rowL L)[j * 8 + k]? = some (icell (L.getD j default) k)
  | [], j, h, k, hk => by simp at h
  | x :: r, 0, h, k, hk => by
    unfold rowL
    rw [List.flatMap_cons, List.getElem?_append_left (by show _ < 8; omega)]
    simp [icells_get x k hk]
  | x :: r, j + 1, h, k, hk => by
    have ih := rowL_get r j (by simpa using h) k hk
    unfold rowL at ih ⊢
    rw [List.flatMap_cons, List.getElem?_append_right (by show 8 ≤ _; omega)]
    rw [show (j + 1) * 8 + k - (icells x).length = j * 8 + k by show (j + 1) * 8 + k - 8 = _; omega, ih]
    simp
def litX (L : List It) (i : Nat) : It := L.getD i default
theorem litX_mem {L : List It} {i : Nat} (hi : i < L.length) : litX L i ∈ L := by
  unfold litX
  rw [List.getD_eq_getElem?_getD, List.getElem?_eq_getElem hi]
  exact List.getElem_mem hi
/-- Items as they may be, with labels no longer than so. -/
def OkI (m : Nat) (L : List It) : Prop := ∀ x, x ∈ L → (0 ≤ x.word ∧ x.word < 4294967296) ∧ x.lab.size ≤ m
theorem OkI.app {m : Nat} {L M : List It} (h : OkI m L) (k : OkI m M) : OkI m (L ++ M) := fun x hx => (List.mem_append.1 hx).elim (h x) (k x)
theorem OkI.mono {m m' : Nat} {L : List It} (h : OkI m L) (hm : m ≤ m') : OkI m' L := fun x hx => ⟨(h x hx).1, Nat.le_trans (h x hx).2 hm⟩
theorem add_at0 (b off j : Nat) : (⟨b, off, none⟩ : Addr).add j = ⟨b, off + j, none⟩ := by unfold Addr.add; split <;> simp_all
/-- An own row of items is items. -/
theorem own_items {w : World} {B m : Nat} {v : Value} {L : List It} (h : w.ownsRow B 40 8 v L.length (rowL L)) (ok : OkI m L) (hm : m ≤ 1000) : ∃ p c, v = .slice p L.length c ∧ Items w p L.length c (litX L) ∧ (0 < L.length → ∃ g, p = some ⟨g, 0, none⟩ ∧ B ≤ g) := by
  have hw : ∀ i, i < L.length → 0 ≤ (litX L i).word ∧ (litX L i).word < 4294967296 := fun i hi => (ok _ (litX_mem hi)).1
  have hl : ∀ i, i < L.length → (litX L i).lab.size ≤ maxLen := fun i hi => by have := (ok _ (litX_mem hi)).2; unfold maxLen; omega
  rcases h.2 with ⟨rfl, h0⟩ | ⟨g, cap, cur, rfl, hB, hg, hcap, hmax, hcs, htake⟩
  · exact ⟨none, 0, by rw [h0], ⟨fun _ => ⟨h0, rfl⟩, by omega, by omega, fun h => by omega, hw, hl⟩, fun h => by omega⟩
  · refine ⟨_, cap, rfl, ⟨fun h => (by cases h), hcap, by unfold maxLen at hmax; omega, fun h0 => ⟨g, 0, rfl, fun i hi k hk => ?_⟩, hw, hl⟩, fun _ => ⟨g, rfl, hB⟩⟩
    rw [Nat.zero_add, World.ownsRow.cellAt h (i * 8 + k) (by omega)]
    exact rowL_get L i hi k hk
/-- The cells of items that lie somewhere. -/
theorem items_news {w : World} {b off n c : Nat} {L : List It} (h : Items w (some ⟨b, off, none⟩) n c (litX L)) (hn : n = L.length) : ∀ j u, (rowL L)[j]? = some u → w.cell? ((⟨b, off, none⟩ : Addr).add j) = some u := by
  intro j u hu
  have hj : j < L.length * 8 := by
    have := (List.getElem?_eq_some_iff.1 hu).1
    rw [rowL_len] at this
    exact this
  obtain ⟨b', off', hp, hc⟩ := h.cell (by omega)
  cases hp
  have e : j / 8 * 8 + j % 8 = j := by omega
  have hi : j / 8 < L.length := by omega
  have h1 := hc (j / 8) (by omega) (j % 8) (by omega)
  have h2 := rowL_get L (j / 8) hi (j % 8) (by omega)
  rw [e] at h2
  rw [add_at0, show off + j = off + j / 8 * 8 + j % 8 by omega, h1, ← hu, h2]
  rfl
theorem one_rowL (L : List It) : ∀ u ∈ rowL L, u.oneCell' = true := by
  intro u hu
  unfold rowL at hu
  obtain ⟨x, -, hx⟩ := List.mem_flatMap.1 hu
  unfold icells at hx
  simp only [List.mem_cons, List.not_mem_nil, or_false] at hx
  rcases hx with rfl | rfl | rfl | rfl | rfl | rfl | rfl | rfl <;> rfl
theorem items_congr {w : World} {p : Option Addr} {n c : Nat} {X Y : Nat → It} (h : Items w p n c X) (e : ∀ i, i < n → X i = Y i) : Items w p n c Y :=
  ⟨h.nil, h.le, h.max, fun hn => by
    obtain ⟨b, off, hp, hc⟩ := h.cell hn
    exact ⟨b, off, hp, fun i hi k hk => by rw [← e i hi]; exact hc i hi k hk⟩, fun i hi => by rw [← e i hi]; exact h.word i hi, fun i hi => by rw [← e i hi]; exact h.lab i hi⟩

/-! ### Objects -/
/-- An object. -/
structure Ob where
  name : ByteArray
  items : List It
instance : Inhabited Ob := ⟨⟨ByteArray.empty, []⟩⟩
def ob (L : List Ob) (i : Nat) : Ob := L.getD i default
theorem ob_mem {L : List Ob} {i : Nat} (hi : i < L.length) : ob L i ∈ L := by
  unfold ob
  rw [List.getD_eq_getElem?_getD, List.getElem?_eq_getElem hi]
  exact List.getElem_mem hi
theorem ob_get {L : List Ob} {i : Nat} (hi : i < L.length) : L[i]? = some (ob L i) := by
  unfold ob
  rw [List.getD_eq_getElem?_getD, List.getElem?_eq_getElem hi]
  rfl
/-- Does a label belong to one object alone? -/
def isLoc (s : ByteArray) : Bool := [(46 : UInt8)].isPrefixOf s.data.toList
/-- An item, its label told wholly. -/
def full (nm : ByteArray) (x : It) : It := if isLoc x.lab = true then { x with lab := nm ++ x.lab } else x
/-- All items. -/
def flat (L : List Ob) : List It := L.flatMap fun o => o.items.map (full o.name)
theorem flat_take {L : List Ob} {k : Nat} (hk : k < L.length) : flat (L.take (k + 1)) = flat (L.take k) ++ (ob L k).items.map (full (ob L k).name) := by
  unfold flat
  rw [List.take_add_one, ob_get hk, List.flatMap_append]
  simp
theorem flat_all (L : List Ob) : flat (L.take L.length) = flat L := by rw [List.take_length]
/-- How often a name has occurred among the first k. -/
def cnt (L : List Ob) (s : ByteArray) : Nat → Nat
  | 0 => 0
  | k + 1 => cnt L s k + if (ob L k).name = s then 1 else 0
theorem cnt_le (L : List Ob) (s : ByteArray) : ∀ k, cnt L s k ≤ k
  | 0 => Nat.le_refl _
  | k + 1 => by
    have := cnt_le L s k
    show cnt L s k + _ ≤ _
    split <;> omega
theorem cnt_none {L : List Ob} {s : ByteArray} : ∀ {k : Nat}, (∀ j, j < k → (ob L j).name ≠ s) → cnt L s k = 0
  | 0, _ => rfl
  | k + 1, h => by
    show cnt L s k + _ = 0
    rw [cnt_none (fun j hj => h j (by omega)), if_neg (h k (by omega))]
theorem cnt_some {L : List Ob} {s : ByteArray} : ∀ {k j : Nat}, j < k → (ob L j).name = s → 0 < cnt L s k
  | 0, j, hj, _ => by omega
  | k + 1, j, hj, h => by
    show 0 < cnt L s k + _
    by_cases he : j = k
    · subst he
      rw [if_pos h]; omega
    · have := cnt_some (k := k) (show j < k by omega) h
      omega
/-- Has a name among the first k occurred ahead of it? -/
def dup (L : List Ob) : Nat → Bool
  | 0 => false
  | k + 1 => dup L k || decide (0 < cnt L (ob L k).name k)
def noName (s : ByteArray) : Bool := decide (s.size = 0) || isLoc s
def badn (L : List Ob) : Nat → Bool
  | 0 => false
  | k + 1 => badn L k || noName (ob L k).name
/-- What is wrong with objects' names. -/
def lcheck (L : List Ob) : Int := if dup L L.length = true then 14 else if badn L L.length = true then 2 else 0
theorem dup_stays {L : List Ob} {k : Nat} (h : dup L k = true) : ∀ m, k ≤ m → dup L m = true
  | 0, hm => by obtain rfl : k = 0 := by omega
                exact h
  | m + 1, hm => by
    by_cases he : k = m + 1
    · rw [← he]; exact h
    · show (dup L m || _) = true
      rw [dup_stays h m (by omega), Bool.true_or]
theorem badn_stays {L : List Ob} {k : Nat} (h : badn L k = true) : ∀ m, k ≤ m → badn L m = true
  | 0, hm => by obtain rfl : k = 0 := by omega
                exact h
  | m + 1, hm => by
    by_cases he : k = m + 1
    · rw [← he]; exact h
    · show (badn L m || _) = true
      rw [badn_stays h m (by omega), Bool.true_or]
theorem dup_hit {L : List Ob} {k : Nat} (h : 0 < cnt L (ob L k).name k) : dup L (k + 1) = true := by
  show (dup L k || _) = true
  simp [h]
theorem dup_step {L : List Ob} {k : Nat} (h : dup L k = false) (h2 : cnt L (ob L k).name k = 0) : dup L (k + 1) = false := by
  show (dup L k || _) = false
  simp [h, h2]
theorem badn_hit {L : List Ob} {k : Nat} (h : noName (ob L k).name = true) : badn L (k + 1) = true := by
  show (badn L k || _) = true
  simp [h]
theorem badn_step {L : List Ob} {k : Nat} (h : badn L k = false) (h2 : noName (ob L k).name = false) : badn L (k + 1) = false := by
  show (badn L k || _) = false
  simp [h, h2]
theorem lc_dup {L : List Ob} (h : dup L L.length = true) : lcheck L = 14 := by unfold lcheck; rw [if_pos h]
theorem lc_badn {L : List Ob} (h : dup L L.length = false) (h2 : badn L L.length = true) : lcheck L = 2 := by unfold lcheck; rw [if_neg (by simp [h]), if_pos h2]
theorem lc_good {L : List Ob} (h : dup L L.length = false) (h2 : badn L L.length = false) : lcheck L = 0 := by unfold lcheck; rw [if_neg (by simp [h]), if_neg (by simp [h2])]

/-- Objects lie so. -/
structure Objs (w : World) (p : Option Addr) (c : Nat) (L : List Ob) : Prop where
  nil : p = none → L.length = 0 ∧ c = 0
  le : L.length ≤ c
  max : c ≤ 9223372036854775807
  cell : 0 < L.length → ∃ b off, p = some ⟨b, off, none⟩ ∧ ∀ i, i < L.length → w.cell? ⟨b, off + i * 2, none⟩ = some (.string (ob L i).name) ∧
    ∃ q m, w.cell? ⟨b, off + i * 2 + 1, none⟩ = some (.slice q (ob L i).items.length m) ∧ Items w q (ob L i).items.length m (litX (ob L i).items)
  name : ∀ i, i < L.length → (ob L i).name.size ≤ maxLen
theorem Objs.below {w w' : World} {p : Option Addr} {c : Nat} {L : List Ob} (h : Objs w p c L) (hb : Below w.heap.size w w') : Objs w' p c L :=
  ⟨h.nil, h.le, h.max, fun hn => by
    obtain ⟨b, off, hp, hc⟩ := h.cell hn
    refine ⟨b, off, hp, fun i hi => ?_⟩
    obtain ⟨h1, q, m, h2, h3⟩ := hc i hi
    exact ⟨(hb.cell (p := ⟨b, off + i * 2, none⟩) (World.block_lt_of_cell? w _ h1)).trans h1, q, m, (hb.cell (p := ⟨b, off + i * 2 + 1, none⟩) (World.block_lt_of_cell? w _ h2)).trans h2, h3.below hb⟩, h.name⟩
theorem Objs.at {w : World} {p : Option Addr} {c : Nat} {L : List Ob} (h : Objs w p c L) {i : Nat} (hi : i < L.length) : ∃ b off q m, p = some ⟨b, off, none⟩ ∧
    w.cell? ⟨b, off + i * 2, none⟩ = some (.string (ob L i).name) ∧ w.cell? ⟨b, off + i * 2 + 1, none⟩ = some (.slice q (ob L i).items.length m) ∧ Items w q (ob L i).items.length m (litX (ob L i).items) := by
  obtain ⟨b, off, hp, hc⟩ := h.cell (by omega)
  obtain ⟨h1, q, m, h2, h3⟩ := hc i hi
  exact ⟨b, off, q, m, hp, h1, h2, h3⟩
/-- Objects that may be gone through. -/
structure Few (L : List Ob) : Prop where
  n : L.length ≤ 8
  items : ∀ i, i < L.length → (ob L i).items.length ≤ 60
  name : ∀ i, i < L.length → (ob L i).name.size ≤ 40
  ok : ∀ i, i < L.length → OkI 40 (ob L i).items
theorem full_word (nm : ByteArray) (x : It) : (full nm x).word = x.word := by unfold full; split <;> rfl
theorem full_kind (nm : ByteArray) (x : It) : (full nm x).kind = x.kind := by unfold full; split <;> rfl
theorem size_cat (a b : ByteArray) : (a ++ b).size = a.size + b.size := ByteArray.size_append
theorem OkI.full {m k : Nat} {M : List It} {nm : ByteArray} (h : OkI m M) (hn : nm.size ≤ k) : OkI (k + m) (M.map (full nm)) := by
  intro y hy
  obtain ⟨x, hx, rfl⟩ := List.mem_map.1 hy
  have h1 := h x hx
  refine ⟨by rw [full_word]; exact h1.1, ?_⟩
  unfold Go.Proofs.YtbplmbignalbgaaDoor.full
  split
  · show (nm ++ x.lab).size ≤ _
    rw [size_cat]; have := h1.2; omega
  · have := h1.2; omega
theorem Few.flat_len {L : List Ob} (h : Few L) : ∀ k, k ≤ L.length → (flat (L.take k)).length ≤ k * 60
  | 0, _ => by simp [flat]
  | k + 1, hk => by
    have ih := h.flat_len k (by omega)
    have := h.items k (by omega)
    rw [flat_take (by omega), List.length_append, List.length_map]
    omega
theorem Few.flat_ok {L : List Ob} (h : Few L) : ∀ k, k ≤ L.length → OkI 80 (flat (L.take k))
  | 0, _ => by intro x hx; simp [flat] at hx
  | k + 1, hk => by
    rw [flat_take (by omega)]
    exact (h.flat_ok k (by omega)).app ((h.ok k (by omega)).full (h.name k (by omega)))
end Go.Proofs.YtbplmbignalbgaaDoor
