/- Plain: objects, all their items one after the other, what is wrong with their names; how they lie in memory. Conditions: none. Contracts: prefixes, own labels; items put behind items. Conditions: the items lie as told. Contracts: the items of an object behind others. Conditions: the items lie as told. Contracts: what is wrong with objects' names. Conditions: the objects lie as told. -/
import Derived.Test.YtbplmbignalbgaaDoorAsF
import Derived.Laws.OwnMore
import Derived.Laws.Strings3
import Derived.Lib.Strings
import Derived.Lib.AppendZeros
import Derived.Deep.QuietTactic
import Derived.Test.YtbplmbignalbgaaDoorAsQ
import Derived.Deep.AppendLies
namespace Go.Proofs.YtbplmbignalbgaaDoor
open Go.RowKit Asm
set_option linter.unusedVariables false
set_option linter.unusedSimpArgs false

/-! ### Rows of items -/
def icells (x : It) : List Value := [.int .i64 x.kind, .int .i64 x.op, .int .i64 x.d, .int .i64 x.a, .int .i64 x.b, .int .i64 x.imm, .string x.lab, .int .u32 x.word]
def rowL (L : List It) : List Value := L.flatMap icells
theorem icells_get (x : It) (k : Nat) (h : k < 8) : (icells x)[k]? = some (icell x k) := by
  rcases (show k = 0 ∨ k = 1 ∨ k = 2 ∨ k = 3 ∨ k = 4 ∨ k = 5 ∨ k = 6 ∨ k = 7 by omega) with rfl | rfl | rfl | rfl | rfl | rfl | rfl | rfl <;> rfl
theorem rowL_len (L : List It) : (rowL L).length = L.length * 8 := by
  induction L with
  | nil => rfl
  | cons x r ih =>
    show (icells x ++ rowL r).length = _
    rw [List.length_append, ih, List.length_cons]
    show 8 + _ = _
    omega
theorem rowL_app (L M : List It) : rowL (L ++ M) = rowL L ++ rowL M := List.flatMap_append
theorem rowL_get : ∀ (L : List It) (j : Nat), j < L.length → ∀ k, k < 8 → (rowL L)[j * 8 + k]? = some (icell (L.getD j default) k)
  | [], j, h, k, hk => by simp at h
  | x :: r, 0, h, k, hk => by
    unfold rowL
    rw [List.flatMap_cons, List.getElem?_append_left (by show _ < 8; omega)]
    simp [icells_get x k hk]
  | x :: r, j + 1, h, k, hk => by
    have ih := rowL_get r j (by simpa using h) k hk
    unfold rowL at ih ⊢
    rw [List.flatMap_cons, List.getElem?_append_right (by show 8 ≤ _; omega)]
    rw [show (j + 1) * 8 + k - (icells x).length = j * 8 + k by show (j + 1) * 8 + k - 8 = _; omega, ih]
    simp
def litX (L : List It) (i : Nat) : It := L.getD i default
theorem litX_mem {L : List It} {i : Nat} (hi : i < L.length) : litX L i ∈ L := by
  unfold litX
  rw [List.getD_eq_getElem?_getD, List.getElem?_eq_getElem hi]
  exact List.getElem_mem hi
/-- Items as they may be, with labels no longer than so. -/
def OkI (m : Nat) (L : List It) : Prop := ∀ x, x ∈ L → (0 ≤ x.word ∧ x.word < 4294967296) ∧ x.lab.size ≤ m
theorem OkI.app {m : Nat} {L M : List It} (h : OkI m L) (k : OkI m M) : OkI m (L ++ M) := fun x hx => (List.mem_append.1 hx).elim (h x) (k x)
theorem OkI.mono {m m' : Nat} {L : List It} (h : OkI m L) (hm : m ≤ m') : OkI m' L := fun x hx => ⟨(h x hx).1, Nat.le_trans (h x hx).2 hm⟩
theorem add_at0 (b off j : Nat) : (⟨b, off, none⟩ : Addr).add j = ⟨b, off + j, none⟩ := by unfold Addr.add; split <;> simp_all
/-- An own row of items is items. -/
theorem own_items {w : World} {B m : Nat} {v : Value} {L : List It} (h : w.ownsRow B 40 8 v L.length (rowL L)) (ok : OkI m L) (hm : m ≤ 1000000000000000) : ∃ p c, v = .slice p L.length c ∧ Items w p L.length c (litX L) ∧ (0 < L.length → ∃ g, p = some ⟨g, 0, none⟩ ∧ B ≤ g) := by
  have hw : ∀ i, i < L.length → 0 ≤ (litX L i).word ∧ (litX L i).word < 4294967296 := fun i hi => (ok _ (litX_mem hi)).1
  have hl : ∀ i, i < L.length → (litX L i).lab.size ≤ maxLen := fun i hi => by have := (ok _ (litX_mem hi)).2; unfold maxLen; omega
  rcases h.2 with ⟨rfl, h0⟩ | ⟨g, cap, cur, rfl, hB, hg, hcap, hmax, hcs, htake⟩
  · exact ⟨none, 0, by rw [h0], ⟨fun _ => ⟨h0, rfl⟩, by omega, by omega, fun h => by omega, hw, hl⟩, fun h => by omega⟩
  · refine ⟨_, cap, rfl, ⟨fun h => (by cases h), hcap, by unfold maxLen at hmax; omega, fun h0 => ⟨g, 0, rfl, fun i hi k hk => ?_⟩, hw, hl⟩, fun _ => ⟨g, rfl, hB⟩⟩
    rw [Nat.zero_add, World.ownsRow.cellAt h (i * 8 + k) (by omega)]
    exact rowL_get L i hi k hk
/-- The cells of items that lie somewhere. -/
theorem items_news {w : World} {b off n c : Nat} {L : List It} (h : Items w (some ⟨b, off, none⟩) n c (litX L)) (hn : n = L.length) : ∀ j u, (rowL L)[j]? = some u → w.cell? ((⟨b, off, none⟩ : Addr).add j) = some u := by
  intro j u hu
  have hj : j < L.length * 8 := by
    have := (List.getElem?_eq_some_iff.1 hu).1
    rw [rowL_len] at this
    exact this
  obtain ⟨b', off', hp, hc⟩ := h.cell (by omega)
  cases hp
  have e : j / 8 * 8 + j % 8 = j := by omega
  have hi : j / 8 < L.length := by omega
  have h1 := hc (j / 8) (by omega) (j % 8) (by omega)
  have h2 := rowL_get L (j / 8) hi (j % 8) (by omega)
  rw [e] at h2
  rw [add_at0, show off + j = off + j / 8 * 8 + j % 8 by omega, h1, ← hu, h2]
  rfl
theorem one_rowL (L : List It) : ∀ u ∈ rowL L, u.oneCell' = true := by
  intro u hu
  unfold rowL at hu
  obtain ⟨x, -, hx⟩ := List.mem_flatMap.1 hu
  unfold icells at hx
  simp only [List.mem_cons, List.not_mem_nil, or_false] at hx
  rcases hx with rfl | rfl | rfl | rfl | rfl | rfl | rfl | rfl <;> rfl
theorem items_congr {w : World} {p : Option Addr} {n c : Nat} {X Y : Nat → It} (h : Items w p n c X) (e : ∀ i, i < n → X i = Y i) : Items w p n c Y :=
  ⟨h.nil, h.le, h.max, fun hn => by
    obtain ⟨b, off, hp, hc⟩ := h.cell hn
    exact ⟨b, off, hp, fun i hi k hk => by rw [← e i hi]; exact hc i hi k hk⟩, fun i hi => by rw [← e i hi]; exact h.word i hi, fun i hi => by rw [← e i hi]; exact h.lab i hi⟩

/-! ### Objects -/
/-- An object. -/
structure Ob where
  name : ByteArray
  items : List It
instance : Inhabited Ob := ⟨⟨ByteArray.empty, []⟩⟩
def ob (L : List Ob) (i : Nat) : Ob := L.getD i default
theorem ob_mem {L : List Ob} {i : Nat} (hi : i < L.length) : ob L i ∈ L := by
  unfold ob
  rw [List.getD_eq_getElem?_getD, List.getElem?_eq_getElem hi]
  exact List.getElem_mem hi
theorem ob_get {L : List Ob} {i : Nat} (hi : i < L.length) : L[i]? = some (ob L i) := by
  unfold ob
  rw [List.getD_eq_getElem?_getD, List.getElem?_eq_getElem hi]
  rfl
/-- Does a label belong to one object alone? -/
def isLoc (s : ByteArray) : Bool := [(46 : UInt8)].isPrefixOf s.data.toList
/-- An item, its label told wholly. -/
def full (nm : ByteArray) (x : It) : It := if isLoc x.lab = true then { x with lab := nm ++ x.lab } else x
/-- All items. -/
def flat (L : List Ob) : List It := L.flatMap fun o => o.items.map (full o.name)
theorem flat_take {L : List Ob} {k : Nat} (hk : k < L.length) : flat (L.take (k + 1)) = flat (L.take k) ++ (ob L k).items.map (full (ob L k).name) := by
  unfold flat
  rw [List.take_add_one, ob_get hk, List.flatMap_append]
  simp
theorem flat_all (L : List Ob) : flat (L.take L.length) = flat L := by rw [List.take_length]
/-- How often a name has occurred among the first k. -/
def cnt (L : List Ob) (s : ByteArray) : Nat → Nat
  | 0 => 0
  | k + 1 => cnt L s k + if (ob L k).name = s then 1 else 0
theorem cnt_le (L : List Ob) (s : ByteArray) : ∀ k, cnt L s k ≤ k
  | 0 => Nat.le_refl _
  | k + 1 => by
    have := cnt_le L s k
    show cnt L s k + _ ≤ _
    split <;> omega
theorem cnt_none {L : List Ob} {s : ByteArray} : ∀ {k : Nat}, (∀ j, j < k → (ob L j).name ≠ s) → cnt L s k = 0
  | 0, _ => rfl
  | k + 1, h => by
    show cnt L s k + _ = 0
    rw [cnt_none (fun j hj => h j (by omega)), if_neg (h k (by omega))]
theorem cnt_some {L : List Ob} {s : ByteArray} : ∀ {k j : Nat}, j < k → (ob L j).name = s → 0 < cnt L s k
  | 0, j, hj, _ => by omega
  | k + 1, j, hj, h => by
    show 0 < cnt L s k + _
    by_cases he : j = k
    · subst he
      rw [if_pos h]; omega
    · have := cnt_some (k := k) (show j < k by omega) h
      omega
/-- Has a name among the first k occurred ahead of it? -/
def dup (L : List Ob) : Nat → Bool
  | 0 => false
  | k + 1 => dup L k || decide (0 < cnt L (ob L k).name k)
def noName (s : ByteArray) : Bool := decide (s.size = 0) || isLoc s
def badn (L : List Ob) : Nat → Bool
  | 0 => false
  | k + 1 => badn L k || noName (ob L k).name
/-- What is wrong with objects' names. -/
def lcheck (L : List Ob) : Int := if dup L L.length = true then 14 else if badn L L.length = true then 2 else 0
theorem dup_stays {L : List Ob} {k : Nat} (h : dup L k = true) : ∀ m, k ≤ m → dup L m = true
  | 0, hm => by obtain rfl : k = 0 := by omega
                exact h
  | m + 1, hm => by
    by_cases he : k = m + 1
    · rw [← he]; exact h
    · show (dup L m || _) = true
      rw [dup_stays h m (by omega), Bool.true_or]
theorem badn_stays {L : List Ob} {k : Nat} (h : badn L k = true) : ∀ m, k ≤ m → badn L m = true
  | 0, hm => by obtain rfl : k = 0 := by omega
                exact h
  | m + 1, hm => by
    by_cases he : k = m + 1
    · rw [← he]; exact h
    · show (badn L m || _) = true
      rw [badn_stays h m (by omega), Bool.true_or]
theorem dup_hit {L : List Ob} {k : Nat} (h : 0 < cnt L (ob L k).name k) : dup L (k + 1) = true := by
  show (dup L k || _) = true
  simp [h]
theorem dup_step {L : List Ob} {k : Nat} (h : dup L k = false) (h2 : cnt L (ob L k).name k = 0) : dup L (k + 1) = false := by
  show (dup L k || _) = false
  simp [h, h2]
theorem badn_hit {L : List Ob} {k : Nat} (h : noName (ob L k).name = true) : badn L (k + 1) = true := by
  show (badn L k || _) = true
  simp [h]
theorem badn_step {L : List Ob} {k : Nat} (h : badn L k = false) (h2 : noName (ob L k).name = false) : badn L (k + 1) = false := by
  show (badn L k || _) = false
  simp [h, h2]
theorem lc_dup {L : List Ob} (h : dup L L.length = true) : lcheck L = 14 := by unfold lcheck; rw [if_pos h]
theorem lc_badn {L : List Ob} (h : dup L L.length = false) (h2 : badn L L.length = true) : lcheck L = 2 := by unfold lcheck; rw [if_neg (by simp [h]), if_pos h2]
theorem lc_good {L : List Ob} (h : dup L L.length = false) (h2 : badn L L.length = false) : lcheck L = 0 := by unfold lcheck; rw [if_neg (by simp [h]), if_neg (by simp [h2])]

/-- Objects lie so. -/
structure Objs (w : World) (p : Option Addr) (c : Nat) (L : List Ob) : Prop where
  nil : p = none → L.length = 0 ∧ c = 0
  le : L.length ≤ c
  max : c ≤ 9223372036854775807
  cell : 0 < L.length → ∃ b off, p = some ⟨b, off, none⟩ ∧ ∀ i, i < L.length → w.cell? ⟨b, off + i * 2, none⟩ = some (.string (ob L i).name) ∧
    ∃ q m, w.cell? ⟨b, off + i * 2 + 1, none⟩ = some (.slice q (ob L i).items.length m) ∧ Items w q (ob L i).items.length m (litX (ob L i).items)
  name : ∀ i, i < L.length → (ob L i).name.size ≤ maxLen
theorem Objs.below {w w' : World} {p : Option Addr} {c : Nat} {L : List Ob} (h : Objs w p c L) (hb : Below w.heap.size w w') : Objs w' p c L :=
  ⟨h.nil, h.le, h.max, fun hn => by
    obtain ⟨b, off, hp, hc⟩ := h.cell hn
    refine ⟨b, off, hp, fun i hi => ?_⟩
    obtain ⟨h1, q, m, h2, h3⟩ := hc i hi
    exact ⟨(hb.cell (p := ⟨b, off + i * 2, none⟩) (World.block_lt_of_cell? w _ h1)).trans h1, q, m, (hb.cell (p := ⟨b, off + i * 2 + 1, none⟩) (World.block_lt_of_cell? w _ h2)).trans h2, h3.below hb⟩, h.name⟩
theorem Objs.at {w : World} {p : Option Addr} {c : Nat} {L : List Ob} (h : Objs w p c L) {i : Nat} (hi : i < L.length) : ∃ b off q m, p = some ⟨b, off, none⟩ ∧
    w.cell? ⟨b, off + i * 2, none⟩ = some (.string (ob L i).name) ∧ w.cell? ⟨b, off + i * 2 + 1, none⟩ = some (.slice q (ob L i).items.length m) ∧ Items w q (ob L i).items.length m (litX (ob L i).items) := by
  obtain ⟨b, off, hp, hc⟩ := h.cell (by omega)
  obtain ⟨h1, q, m, h2, h3⟩ := hc i hi
  exact ⟨b, off, q, m, hp, h1, h2, h3⟩
/-- Objects that may be gone through. -/
structure Few (L : List Ob) : Prop where
  n : L.length ≤ 8
  items : ∀ i, i < L.length → (ob L i).items.length ≤ 60
  name : ∀ i, i < L.length → (ob L i).name.size ≤ 40
  ok : ∀ i, i < L.length → OkI 281474976710656 (ob L i).items
theorem full_word (nm : ByteArray) (x : It) : (full nm x).word = x.word := by unfold full; split <;> rfl
theorem full_kind (nm : ByteArray) (x : It) : (full nm x).kind = x.kind := by unfold full; split <;> rfl
theorem size_cat (a b : ByteArray) : (a ++ b).size = a.size + b.size := ByteArray.size_append
theorem OkI.full {m k : Nat} {M : List It} {nm : ByteArray} (h : OkI m M) (hn : nm.size ≤ k) : OkI (k + m) (M.map (full nm)) := by
  intro y hy
  obtain ⟨x, hx, rfl⟩ := List.mem_map.1 hy
  have h1 := h x hx
  refine ⟨by rw [full_word]; exact h1.1, ?_⟩
  unfold Go.Proofs.YtbplmbignalbgaaDoor.full
  split
  · show (nm ++ x.lab).size ≤ _
    rw [size_cat]; have := h1.2; omega
  · have := h1.2; omega
theorem Few.flat_len {L : List Ob} (h : Few L) : ∀ k, k ≤ L.length → (flat (L.take k)).length ≤ k * 60
  | 0, _ => by simp [flat]
  | k + 1, hk => by
    have ih := h.flat_len k (by omega)
    have := h.items k (by omega)
    rw [flat_take (by omega), List.length_append, List.length_map]
    omega
theorem Few.flat_ok {L : List Ob} (h : Few L) : ∀ k, k ≤ L.length → OkI 281474976710696 (flat (L.take k))
  | 0, _ => by intro x hx; simp [flat] at hx
  | k + 1, hk => by
    rw [flat_take (by omega)]
    exact (h.flat_ok k (by omega)).app ((h.ok k (by omega)).full (h.name k (by omega)))

theorem loc_take (s : ByteArray) : (decide (1 ≤ s.size) && ((s.extract 0 1).toList == [46])) = isLoc s := by
  have h := Lib.hasPrefix_raw s ⟨#[46]⟩
  have e : (⟨#[46]⟩ : ByteArray).size = 1 := rfl
  have e2 : (⟨#[46]⟩ : ByteArray).toList = [46] := by rw [Lib.toList_data]
  rw [e, e2] at h
  exact h
theorem loc_none (s : ByteArray) (h : ¬ 0 < s.size) : isLoc s = false := by
  obtain ⟨⟨l⟩⟩ := s
  cases l with
  | nil => rfl
  | cons c r => exact absurd (by simp [ByteArray.size]) h
theorem loc_first (s : ByteArray) (h : 0 < s.size) : ((s[0].toNat : Int) == 46) = isLoc s := by
  obtain ⟨⟨l⟩⟩ := s
  cases l with
  | nil => simp [ByteArray.size] at h
  | cons c r =>
    show ((c.toNat : Int) == 46) = [(46 : UInt8)].isPrefixOf (c :: r)
    simp only [List.isPrefixOf, Bool.and_true]
    by_cases hc : c = 46
    · subst hc; rfl
    · have h1 : (46 == c) = false := by simp; exact fun e => hc e.symm
      rw [h1]
      have : c.toNat ≠ 46 := fun e => hc (UInt8.toNat_inj.1 e)
      simp
      omega
set_option maxRecDepth 100000 in
set_option maxHeartbeats 1000000 in
theorem prefix_in (s : ByteArray) (w : World) : Calls Tryd.prog 37 #[.string s, .string ⟨#[46]⟩] w fun e w' => e = .returned (.bool (isLoc s)) ∧ w = w' := by
  rw [← loc_take]
  by_cases h : 1 ≤ s.size
  · have d0 : decide (1 ≤ (s.size : Int)) = true := by simp; omega
    have d1 : decide (1 ≤ s.size) = true := by simp [h]
    rw [d1, Bool.true_and]
    clear d1
    go_enter Tryd.func37, Tryd.ntmps37
    go_wp2_with fail
    go_ret
    exact ⟨rfl, rfl⟩
  · have d0 : decide (1 ≤ (s.size : Int)) = false := decide_eq_false (by omega)
    have d1 : decide (1 ≤ s.size) = false := decide_eq_false h
    rw [d1, Bool.false_and]
    clear d1
    go_enter Tryd.func37, Tryd.ntmps37
    go_wp2_with fail
    go_ret
    exact ⟨rfl, rfl⟩
set_option maxRecDepth 100000 in
set_option maxHeartbeats 1000000 in
theorem own_at (s : ByteArray) (w : World) : Calls Tryd.prog 19 #[.string s] w fun e w' => e = .returned (.bool (isLoc s)) ∧ w = w' := by
  by_cases h : 0 < s.size
  · have d0 : decide (0 < (s.size : Int)) = true := by simp; omega
    go_enter Tryd.func19, Tryd.ntmps19
    go_wp2_with fail
    go_ret
    exact ⟨by rw [loc_first s h]; rfl, rfl⟩
  · have d0 : decide (0 < (s.size : Int)) = false := decide_eq_false (by omega)
    go_enter Tryd.func19, Tryd.ntmps19
    go_wp2_with fail
    go_ret
    exact ⟨by rw [loc_none s h]; rfl, rfl⟩
set_option maxRecDepth 100000 in
set_option maxHeartbeats 1000000 in
theorem prefix_at (s : ByteArray) (w : World) : Calls Tryd.prog 26 #[.string s, .string ⟨#[46]⟩] w fun e w' => e = .returned (.bool (isLoc s)) ∧ w = w' := by
  go_enter Tryd.func26, Tryd.ntmps26
  go_wp2_with (go_at_call 37; refine (prefix_in s _).mono ?_; rintro e w' ⟨rfl, rfl⟩)
  go_ret
  exact ⟨rfl, rfl⟩
theorem infoIt : (Tryd.prog.info? 40).map (fun i => (i.zero, i.size, i.bytes)) = some (some (.agg #[.int .i64 0, .int .i64 0, .int .i64 0, .int .i64 0, .int .i64 0, .int .i64 0, .string ByteArray.empty, .int .u32 0]), 8, 72) := by kernel_rfl
theorem infoIt_of : ∃ i, Tryd.prog.info? 40 = some i ∧ i.zero = some (.agg #[.int .i64 0, .int .i64 0, .int .i64 0, .int .i64 0, .int .i64 0, .int .i64 0, .string ByteArray.empty, .int .u32 0]) ∧ i.size = 8 ∧ i.bytes = 72 := by
  obtain ⟨i, hi, hx⟩ := Option.map_eq_some_iff.1 infoIt
  simp only [Prod.mk.injEq] at hx
  exact ⟨i, hi, hx⟩
theorem grownIt_same (w : World) (row : Option Nat) : w.grownBy w row := ⟨rfl, rfl, rfl, Nat.le_refl _, fun _ _ _ => rfl⟩
/-- A row of items, appended to an own row of items. -/
theorem append_items {w : World} {B c : Nat} {v : Value} {p : Option Addr} {A M : List It} (h : w.ownsRow B 40 8 v A.length (rowL A)) (k : Items w p M.length c (litX M)) (hm : A.length + M.length ≤ 1000) (hB : B ≤ w.heap.size) :
    ∃ v' w', (Builtin.append_ #[25, 25] 25 #[v, .slice p M.length c]).run Tryd.prog w = .ok v' w' ∧ w'.ownsRow B 40 8 v' (A.length + M.length) (rowL (A ++ M)) ∧ w.grownBy w' v.ownBlock := by
  obtain ⟨i0, hi, hz0, hz1, hz2⟩ := infoIt_of
  cases p with
  | none =>
    obtain ⟨h0, h1⟩ := k.nil rfl
    have hM : M = [] := List.length_eq_zero_iff.1 h0
    subst hM h1
    refine ⟨v, w, ?_, by rw [List.append_nil]; exact h, grownIt_same _ _⟩
    rcases h.2 with ⟨rfl, hl0⟩ | ⟨g, cap, cur, rfl, -, hg, hcap, hmax, hcs, htake⟩
    · simp [Builtin.append_, run_underlying Tryd.underlying25, sizeOf, typeInfo, hi, Builtin.lenOf, Builtin.firstCells, storeCells]
    · simp [Builtin.append_, run_underlying Tryd.underlying25, sizeOf, typeInfo, hi, Builtin.lenOf, Builtin.firstCells, storeCells, hcap]
  | some ad =>
    have hnews : ∀ j u, (rowL M)[j]? = some u → w.cell? (ad.add j) = some u := by
      by_cases hM : M = []
      · subst hM
        intro j u hu
        simp [rowL] at hu
      · obtain ⟨b, off, hp, -⟩ := k.cell (List.length_pos_iff.2 hM)
        cases hp
        exact items_news k rfl
    obtain ⟨v', w', hr, h1, h2, -⟩ := run_append_own (P := Tryd.prog) w B 25 25 40 i0 (.agg #[.int .i64 0, .int .i64 0, .int .i64 0, .int .i64 0, .int .i64 0, .int .i64 0, .string ByteArray.empty, .int .u32 0]) 8 72 Tryd.underlying25 hi hz0 hz1 hz2 rfl (by decide) v A.length (rowL A) h ad M.length c (rowL M) (rowL_len M) hnews (one_rowL M) (by unfold maxLen; omega) (by omega) hB
    exact ⟨v', w', hr, by rw [rowL_app]; exact h1, h2⟩
/-- Items, of which those behind a and before a + k have their labels told wholly. -/
def mixed (A M : List It) (nm : ByteArray) (k : Nat) : List It := A ++ ((M.take k).map (full nm) ++ M.drop k)
theorem mixed_len (A M : List It) (nm : ByteArray) {k : Nat} (hk : k ≤ M.length) : (mixed A M nm k).length = A.length + M.length := by
  unfold mixed
  simp
  omega
theorem mixed_0 (A M : List It) (nm : ByteArray) : mixed A M nm 0 = A ++ M := by simp [mixed]
theorem mixed_all (A M : List It) (nm : ByteArray) : mixed A M nm M.length = A ++ M.map (full nm) := by simp [mixed]
theorem litX_get {L : List It} {i : Nat} (hi : i < L.length) : L[i]? = some (litX L i) := by
  unfold litX
  rw [List.getD_eq_getElem?_getD, List.getElem?_eq_getElem hi]
  rfl
theorem drop_litX {M : List It} {k : Nat} (hk : k < M.length) : M.drop k = litX M k :: M.drop (k + 1) := by
  rw [List.drop_eq_getElem_cons hk]
  congr 1
  have := litX_get hk
  rw [List.getElem?_eq_getElem hk] at this
  exact Option.some.inj this
theorem mixed_next {A M : List It} {nm : ByteArray} {k : Nat} (hk : k < M.length) : mixed A M nm (k + 1) = A ++ ((M.take k).map (full nm) ++ (full nm (litX M k) :: M.drop (k + 1))) := by
  unfold mixed
  rw [List.take_add_one, litX_get hk, List.map_append]
  simp
theorem mixed_at {A M : List It} {nm : ByteArray} {k : Nat} (hk : k < M.length) : litX (mixed A M nm k) (A.length + k) = litX M k := by
  unfold mixed
  rw [drop_litX hk]
  show (A ++ ((M.take k).map (full nm) ++ _)).getD (A.length + k) default = _
  rw [List.getD_eq_getElem?_getD, List.getElem?_append_right (by omega), show A.length + k - A.length = k by omega, List.getElem?_append_right (by simp; omega)]
  simp [show k - min k M.length = 0 by omega]
theorem mixed_keep {A M : List It} {nm : ByteArray} {k : Nat} (hk : k < M.length) (h : isLoc (litX M k).lab = false) : mixed A M nm (k + 1) = mixed A M nm k := by
  rw [mixed_next hk]
  unfold mixed
  rw [drop_litX hk]
  have e : full nm (litX M k) = litX M k := by unfold full; rw [if_neg (by simp [h])]
  rw [e]
theorem rowL_set : ∀ (L : List It) (j : Nat), j < L.length → ∀ s, (rowL L).set (j * 8 + 6) (.string s) = rowL (L.set j { litX L j with lab := s })
  | [], j, h, s => by simp at h
  | x :: r, 0, h, s => by
    show (icells x ++ rowL r).set 6 _ = icells _ ++ rowL r
    rfl
  | x :: r, j + 1, h, s => by
    have ih := rowL_set r j (by simpa using h) s
    show (icells x ++ rowL r).set ((j + 1) * 8 + 6) _ = icells x ++ rowL (r.set j _)
    rw [List.set_append_right _ _ (by show 8 ≤ _; omega), show (j + 1) * 8 + 6 - (icells x).length = j * 8 + 6 by show (j + 1) * 8 + 6 - 8 = _; omega, ih]
    rfl
theorem mixed_set {A M : List It} {nm : ByteArray} {k : Nat} (hk : k < M.length) (h : isLoc (litX M k).lab = true) : (rowL (mixed A M nm k)).set ((A.length + k) * 8 + 6) (.string (nm ++ (litX M k).lab)) = rowL (mixed A M nm (k + 1)) := by
  rw [rowL_set _ _ (by rw [mixed_len A M nm (by omega)]; omega), mixed_at hk, mixed_next hk]
  unfold mixed
  rw [drop_litX hk]
  congr 1
  have e : full nm (litX M k) = { litX M k with lab := nm ++ (litX M k).lab } := by unfold full; rw [if_pos h]
  rw [e, List.set_append_right _ _ (by omega), show A.length + k - A.length = k by omega, List.set_append_right _ _ (by rw [List.length_map, List.length_take]; omega), show k - ((M.take k).map (full nm)).length = 0 by rw [List.length_map, List.length_take]; omega]
  rfl

theorem own_shape {w : World} {B t m n : Nat} {v : Value} {xs : List Value} (h : w.ownsRow B t m v n xs) : ∃ p c, v = .slice p n c := by
  rcases h.2 with ⟨rfl, h0⟩ | ⟨g, cap, cur, rfl, -⟩
  · exact ⟨none, 0, by rw [h0]⟩
  · exact ⟨_, _, rfl⟩
set_option maxRecDepth 100000 in
set_option maxHeartbeats 4000000 in
theorem join_at {w : World} {B c : Nat} {v : Value} {p : Option Addr} {A M : List It} {nm : ByteArray} (h : w.ownsRow B 40 8 v A.length (rowL A)) (k : Items w p M.length c (litX M)) (hm : A.length + M.length ≤ 1000) (hB : B ≤ w.heap.size) (hnm : nm.size ≤ 1000) (hok : OkI 1000000000000000 M) :
    Calls Tryd.prog 21 #[v, .string nm, .slice p M.length c] w fun e w' => ∃ v', e = .returned v' ∧ w'.ownsRow B 40 8 v' (A.length + M.length) (rowL (A ++ M.map (full nm))) ∧ Below B w w' := by
  obtain ⟨v1, w1, hrun, how, hgr⟩ := append_items h k hm hB
  have hb1 : Below B w w1 := (Below.refl B w).grown hgr hB (fun q hq => (h.lt q hq).1)
  obtain ⟨p0, c0, rfl⟩ := own_shape h
  obtain ⟨N, hN⟩ : ∃ N, N = A.length + M.length := ⟨_, rfl⟩
  rw [← hN] at how
  have HK := Lib.hid hok
  have hlab : ∀ i, i < M.length → (litX M i).lab.size ≤ 1000000000000000 := fun i hi => (hok _ (litX_mem hi)).2
  clear h k hgr hok
  have hAN : (A.length : Int) ≤ (N : Int) := by omega
  by_cases hM : M = []
  · subst hM
    replace hN : N = A.length := by rw [hN]; rfl
    subst hN
    clear hm
    have H1 := Lib.hid (And.intro how hb1)
    rcases how.2 with ⟨rfl, h0⟩ | ⟨g, cap, cur, rfl, -, -, hcap, hmax, -⟩
    · have hA0 : A = [] := List.length_eq_zero_iff.1 (by omega)
      subst hA0
      clear how hb1 h0
      go_enter Tryd.func21, Tryd.ntmps21
      go_wp2_with (first
        | (at_builtin; refine Lib.wpList_append_run w rfl _ _ 25 25 rfl _ _ rfl rfl _ w1 hrun ?_)
        | fail)
      clear hrun
      all_goals
        go_loopw [19] (fun i wr => i = .int .i64 0 ∧ wr = w1) (fun i _ => (intOf i).toNat)
        case atStart => exact ⟨rfl, rfl⟩
        case round =>
          obtain ⟨rfl, rfl⟩ := hrel
          go_wp2_with fail
          go_ret
          exact ⟨_, rfl, by simpa using H1.out.1, H1.out.2⟩
    · have hcN : (A.length : Int) ≤ (cap : Int) := by omega
      by_cases hca : cap = A.length
      · subst hca
        clear how hb1
        go_enter Tryd.func21, Tryd.ntmps21
        go_wp2_with (first
          | (at_builtin; refine Lib.wpList_append_run w rfl _ _ 25 25 rfl _ _ rfl rfl _ w1 hrun ?_)
          | fail)
        clear hrun
        all_goals
          go_loopw [19] (fun i wr => i = .int .i64 0 ∧ wr = w1) (fun i _ => (intOf i).toNat)
          case atStart => exact ⟨rfl, rfl⟩
          case round =>
            obtain ⟨rfl, rfl⟩ := hrel
            go_wp2_with fail
            go_ret
            exact ⟨_, rfl, by simpa using H1.out.1, H1.out.2⟩
      · skip
        clear how hb1
        go_enter Tryd.func21, Tryd.ntmps21
        go_wp2_with (first
          | (at_builtin; refine Lib.wpList_append_run w rfl _ _ 25 25 rfl _ _ rfl rfl _ w1 hrun ?_)
          | fail)
        clear hrun
        all_goals
          go_loopw [19] (fun i wr => i = .int .i64 0 ∧ wr = w1) (fun i _ => (intOf i).toNat)
          case atStart => exact ⟨rfl, rfl⟩
          case round =>
            obtain ⟨rfl, rfl⟩ := hrel
            go_wp2_with fail
            go_ret
            exact ⟨_, rfl, by simpa using H1.out.1, H1.out.2⟩
  · have hpos : 0 < M.length := List.length_pos_iff.2 hM
    have eNA : ((N - A.length : Nat) : Int) = (M.length : Int) := by omega
    rcases how.2 with ⟨rfl, h0⟩ | ⟨g, cap, cur, rfl, -, -, hcap, hmax, -⟩
    · omega
    have H1 := Lib.hid (And.intro how hb1)
    clear how hb1
    have hcN : (N : Int) ≤ (cap : Int) := by omega
    have hcA : ¬ (cap = A.length) := by omega
    go_enter Tryd.func21, Tryd.ntmps21
    go_wp2_with (first
      | (at_builtin; refine Lib.wpList_append_run w rfl _ _ 25 25 rfl _ _ rfl rfl _ w1 hrun ?_)
      | fail)
    clear hrun
    rw [hN] at H1
    have HM := Lib.hid (And.intro hmax (And.intro hN (And.intro hcap hcA)))
    clear hN hcap hmax hcN hcA eNA hAN
    go_loopw [19] (fun i wr => ∃ k : Nat, i = .int .i64 k ∧ k ≤ M.length ∧ wr.ownsRow B 40 8 (.slice (some ⟨g, 0, none⟩) (A.length + M.length) cap) (A.length + M.length) (rowL (mixed A M nm k)) ∧ Below B w wr) (fun i _ => M.length - (intOf i).toNat)
    case atStart => exact ⟨0, rfl, Nat.zero_le _, by rw [mixed_0]; exact H1.out.1, H1.out.2⟩
    case round =>
      obtain ⟨k, rfl, hk, ho, hb⟩ := hrel
      by_cases hlt : k < M.length
      · as_aux_lemma =>
          have d1 : decide ((k : Int) < (M.length : Int)) = true := decide_eq_true (by omega)
          have ek : (k : Int) < (M.length : Int) := by omega
          have ek2 : (A.length : Int) + (k : Int) < ((A.length + M.length : Nat) : Int) := by omega
          have hc : ∀ j, j < 8 → wr.cell? ⟨g, A.length * 8 + k * 8 + j, none⟩ = some (icell (litX M k) j) := by
            intro j hj
            have h1 := ho.cellAt ((A.length + k) * 8 + j) (by omega)
            have h2 := rowL_get (mixed A M nm k) (A.length + k) (by rw [mixed_len A M nm hk]; omega) j hj
            have h3 : (mixed A M nm k).getD (A.length + k) default = litX M k := mixed_at hlt
            rw [show A.length * 8 + k * 8 + j = (A.length + k) * 8 + j by omega, h1, h2, h3]
          have k0 := hc 0 (by decide); have k1 := hc 1 (by decide); have k2 := hc 2 (by decide); have k3 := hc 3 (by decide)
          have k4 := hc 4 (by decide); have k5 := hc 5 (by decide); have k6 := hc 6 (by decide); have k7 := hc 7 (by decide)
          rw [Nat.add_zero] at k0
          have hfz : ∀ o, (wr.alloc o).frozen? ⟨g, (A.length + k) * 8 + 6, none⟩ = false := fun o => (ho.alloc o).frozenAt ((A.length + k) * 8 + 6)
          have h6 : ∀ o, (wr.alloc o).cell? ⟨g, (A.length + k) * 8 + 6, none⟩ = some (icell (litX M k) 6) := fun o => by
            have h2 := rowL_get (mixed A M nm k) (A.length + k) (by rw [mixed_len A M nm hk]; omega) 6 (by decide)
            have h3 : (mixed A M nm k).getD (A.length + k) default = litX M k := mixed_at hlt
            rw [(ho.alloc o).cellAt ((A.length + k) * 8 + 6) (by omega), h2, h3]
          have hll := hlab k hlt
          have hst := fun o => (ho.alloc o).stored ((A.length + k) * 8 + 6) (.string (nm ++ (litX M k).lab))
          obtain ⟨x, hx⟩ : ∃ x, x = litX M k := ⟨_, rfl⟩
          have HX := Lib.hid hx
          simp only [icell, if_true, if_false, Nat.reduceEqDiff, ← hx] at k0 k1 k2 k3 k4 k5 k6 k7 h6 hll
          have HO := Lib.hid (And.intro ho (And.intro hb hst))
          clear ho hb hc hx hst hlab
          cases hloc : isLoc x.lab with
          | true =>
            go_wp2_with (first | (go_at_call 26; refine (prefix_at _ _).mono ?_; rintro e w' ⟨rfl, rfl⟩; rw [hloc]) | fail)
            go_roundw
            case rel =>
              obtain ⟨ho, hb, hst⟩ := HO.out
              obtain ⟨s1, s2⟩ := hst (.cells #[.int .i64 x.kind, .int .i64 x.op, .int .i64 x.d, .int .i64 x.a, .int .i64 x.b, .int .i64 x.imm, .string x.lab, .int .u32 x.word] 40)
              rw [HX.out, mixed_set hlt (by rw [← HX.out]; exact hloc)] at s1
              refine ⟨k + 1, by go_num, hlt, ?_, ?_⟩
              · rw [HX.out]; exact s1
              · rw [HX.out] at s2 ⊢
                exact (hb.alloc (Nat.le_trans hB hb.size) _).grown s2 (by have := hb.size; simp; omega) (fun q hq => by cases hq; exact (ho.lt g rfl).1)
            case measure => simp [intOf]; omega
          | false =>
            go_wp2_with (first | (go_at_call 26; refine (prefix_at _ _).mono ?_; rintro e w' ⟨rfl, rfl⟩; rw [hloc]) | fail)
            go_roundw
            case rel =>
              obtain ⟨ho, hb, hst⟩ := HO.out
              refine ⟨k + 1, by go_num, hlt, ?_, hb.alloc (Nat.le_trans hB hb.size) _⟩
              rw [mixed_keep hlt (by rw [← HX.out]; exact hloc)]
              exact ho.alloc _
            case measure => simp [intOf]; omega
      · as_aux_lemma =>
          have hz : k = M.length := by omega
          subst hz
          have d1 : decide ((M.length : Int) < (M.length : Int)) = false := by simp
          have HO := Lib.hid (And.intro ho hb)
          clear ho hb
          go_wp2_with fail
          go_ret
          exact ⟨_, rfl, by rw [← mixed_all]; exact HO.out.1, HO.out.2⟩

/-- A map that tells how often a name has occurred. -/
def CntAt (w : World) (B : Nat) (L : List Ob) (k : Nat) : Prop :=
  ∃ D : DU, w.ownsMap Tryd.prog 9 (plainElem Tryd.prog 3) B k D ∧ ∀ s : ByteArray, s.size ≤ maxLen → D.atKey (key s) (.lit (.int .i64 0)) = .lit (.int .i64 (cnt L s k : Nat))
theorem CntAt.start (w : World) (L : List Ob) : CntAt (w.alloc (.map #[] 0)) w.heap.size L 0 :=
  ⟨.map [], World.ownsMap_made _ _ _ _, fun s _ => rfl⟩
theorem CntAt.kept {w w' : World} {B : Nat} {L : List Ob} {k : Nat} (h : CntAt w B L k) (hb : w'.heap[B]? = w.heap[B]?) : CntAt w' B L k := by
  obtain ⟨D, ⟨es, clock, hB, r⟩, hD⟩ := h
  exact ⟨D, ⟨es, clock, hb.trans hB, r⟩, hD⟩
theorem CntAt.lt {w : World} {B : Nat} {L : List Ob} {k : Nat} (h : CntAt w B L k) : B < w.heap.size := by
  obtain ⟨D, hD, -⟩ := h
  exact hD.lt
theorem CntAt.below {w w' : World} {B : Nat} {L : List Ob} {k : Nat} (h : CntAt w B L k) (hb : Below w.heap.size w w') : CntAt w' B L k := h.kept (hb.block _ h.lt)
theorem CntAt.look {w : World} {B : Nat} {L : List Ob} {k : Nat} (h : CntAt w B L k) (s : ByteArray) (hs : s.size ≤ maxLen) : (Instr.lookup 69 (.map (some B)) (.string s) false).run Tryd.prog w = .ok (.int .i64 (cnt L s k : Nat)) w := by
  obtain ⟨D, hD, hall⟩ := h
  obtain ⟨c, hrun, hat, -⟩ := hD.lookup_int lawS Tryd.underlying69 Tryd.underlying3 (zeroI w) (WideMaps.keyOf_string_mk Tryd.underlying9 hs)
  have := hall s hs
  rw [show key s = Lit.string s.data.toList from rfl] at this
  rw [this] at hat
  simp only [DataW.lit.injEq, Lit.int.injEq, true_and] at hat
  rw [hrun, hat]
theorem CntAt.new {w : World} {B : Nat} {L : List Ob} {k : Nat} {D0 : DU} {z : Int} (hall : ∀ s : ByteArray, s.size ≤ maxLen → D0.atKey (key s) (.lit (.int .i64 0)) = .lit (.int .i64 (cnt L s k : Nat))) (him : Maps.IsMap D0)
    (hD : w.ownsMap Tryd.prog 9 (plainElem Tryd.prog 3) B (k + 1) (D0.put (key (ob L k).name) (.lit (.int .i64 z)))) (hz : z = (cnt L (ob L k).name k : Nat) + 1) : CntAt w B L (k + 1) := by
  refine ⟨_, hD, fun s hs => ?_⟩
  by_cases he : s = (ob L k).name
  · subst he
    rw [Maps.atKey_put_same him (show WideAt.IsKeyLit (key (ob L k).name) by unfold key; trivial), hz]
    have : cnt L (ob L k).name (k + 1) = cnt L (ob L k).name k + 1 := by
      show cnt L (ob L k).name k + _ = _
      rw [if_pos rfl]
    rw [this]; rfl
  · have hne : key s ≠ key (ob L k).name := fun e => he (key_inj e)
    have : cnt L s (k + 1) = cnt L s k := by
      show cnt L s k + _ = _
      rw [if_neg (fun e => he e.symm)]; rfl
    rw [Maps.atKey_put_other hne, this]
    exact hall s hs
theorem toList_nil (s : ByteArray) : s.toList = [] ↔ s.size = 0 := by
  rw [Lib.toList_data, Lib.size_eq, List.length_eq_zero_iff]
theorem cells2 {w : World} {b t : Nat} {x y : Value} {fr : Nat × Nat} (h : w.heap[b]? = some (.cells #[x, y] t fr)) : w.cell? ⟨b, 0, none⟩ = some x ∧ w.cell? ⟨b, 1, none⟩ = some y :=
  ⟨cell_of_row w b 0 _ t fr h, cell_of_row w b 1 _ t fr h⟩
set_option maxRecDepth 100000 in
set_option maxHeartbeats 4000000 in
theorem names_at {w : World} {p : Option Addr} {c : Nat} {L : List Ob} (h : Objs w p c L) (hn : L.length ≤ 1000) :
    Calls Tryd.prog 20 #[.slice p L.length c] w fun e w' => e = .returned (.int .i64 (lcheck L)) ∧ Below w.heap.size w w' := by
  have hmm := @run_makeMap Tryd.prog
  have H := Lib.hid h
  clear h
  go_enter Tryd.func20, Tryd.ntmps20
  go_wp2_with fail
  have hms := CntAt.start w L
  have hbm := (Below.refl w.heap.size w).alloc (Nat.le_refl _) (.map #[] 0)
  have hBs : w.heap.size ≤ w.heap.size := Nat.le_refl _
  obtain ⟨w1, hw1⟩ : ∃ w1, w1 = w.alloc (.map #[] 0) := ⟨_, rfl⟩
  obtain ⟨B, hB⟩ : ∃ B, B = w.heap.size := ⟨_, rfl⟩
  rw [← hw1] at hms hbm
  rw [← hw1, ← hB]
  rw [show CntAt w1 w.heap.size L 0 = CntAt w1 B L 0 by rw [hB]] at hms
  have HM := Lib.hid (And.intro hms (And.intro hbm (show w.heap.size ≤ B by omega)))
  clear hms hbm hBs hw1 hmm hB
  go_loopw [11] (fun i wr => ∃ k : Nat, i = .int .i64 k ∧ k ≤ L.length ∧ dup L k = false ∧ CntAt wr B L k ∧ Below w.heap.size w wr) (fun i _ => L.length - (intOf i).toNat)
  case atStart => exact ⟨0, rfl, Nat.zero_le _, rfl, HM.out.1, HM.out.2.1⟩
  case round =>
    obtain ⟨k, rfl, hk, hdup, hmap, hb⟩ := hrel
    by_cases hlt : k < L.length
    · as_aux_lemma =>
        have d1 : decide ((k : Int) < (L.length : Int)) = true := decide_eq_true (by omega)
        have ek : (k : Int) < (L.length : Int) := by omega
        obtain ⟨b, off, q, m, rfl, k0, k1, -⟩ := (H.out.below hb).at hlt
        have hnm := H.out.name k hlt
        obtain ⟨nm, hnm2⟩ : ∃ nm, nm = (ob L k).name := ⟨_, rfl⟩
        obtain ⟨n, hn2⟩ : ∃ n, n = (ob L k).items.length := ⟨_, rfl⟩
        rw [← hnm2] at k0 hnm
        rw [← hn2] at k1
        have HN := Lib.hid hnm2
        clear hnm2 hn2
        have hal := (Below.refl wr.heap.size wr).alloc (Nat.le_refl _) (.cells #[.string nm, .slice q n m] 49)
        have hN := cells2 (heap_new wr (.cells #[.string nm, .slice q n m] 49))
        have hmap2 := hmap.below hal
        have hb2 := hb.trans (hal.mono hb.size)
        obtain ⟨w2, hw2⟩ : ∃ w2, w2 = wr.alloc (.cells #[.string nm, .slice q n m] 49) := ⟨_, rfl⟩
        obtain ⟨Q, hQ⟩ : ∃ Q, Q = wr.heap.size := ⟨_, rfl⟩
        rw [← hw2] at hN hmap2 hb2
        rw [← hQ] at hN
        have hQB : Q ≠ B := by have := hmap.lt; omega
        have HB := Lib.hid (And.intro hb2 (And.intro hdup hmap2))
        clear hb hdup hmap hal hb2 hmap2
        go_upto_region 5 with fail
        rw [← hw2, ← hQ]
        clear hw2 hQ k0 k1
        obtain ⟨n0, n1⟩ := hN
        have hl1 := HB.out.2.2.look nm hnm
        have hcl := cnt_le L nm k
        obtain ⟨cn, hcn⟩ : ∃ cn, cn = cnt L nm k := ⟨_, rfl⟩
        rw [← hcn] at hl1 hcl
        obtain ⟨D, hD, hall⟩ := HB.out.2.2
        have hkey : keyOf Tryd.prog 9 (.string nm) = some (key nm) := WideMaps.keyOf_string_mk Tryd.underlying9 hnm
        have HA := Lib.hid (And.intro hall (And.intro hcn hD.isMap))
        clear hall hcn
        go_wp2_with (first
          | (at_mapUpdate; refine wpList_mapUpdate_own _ rfl _ _ _ 69 rfl 9 3 lawS Tryd.underlying69 _ B k _ rfl hD ?c1 _ _ _ rfl rfl hkey _ [] (plainElem_int Tryd.underlying3 (WalkArith.wf_i64 ?c2)) ?_)
          | fail)
        case c1 => unfold maxLen; omega
        case c2 => omega
        intro w3 hD3 hg3
        have hm3 : CntAt w3 B L (k + 1) := CntAt.new HA.out.1 HA.out.2.2 (by rw [← HN.out]; exact hD3) (by rw [← HN.out, ← HA.out.2.1])
        have hb3 : Below w.heap.size w w3 := HB.out.1.grown hg3 HB.out.1.size (fun j hj => by cases hj; exact HM.out.2.2)
        have n3 : w3.cell? ⟨Q, 0, none⟩ = some (.string nm) := (hg3.cell_far ⟨Q, 0, none⟩ (World.block_lt_of_cell? w2 _ n0) (by simpa using hQB)).trans n0
        have hl3 := hm3.look nm hnm
        have hc3 : cnt L nm (k + 1) = cn + 1 := by
          show cnt L nm k + _ = _
          rw [if_pos HN.out.symm, HA.out.2.1]
        rw [hc3] at hl3
        have H3 := Lib.hid (And.intro hm3 hb3)
        clear hm3 hb3 hD3 hg3 hD hkey hl1 n0 n1
        by_cases hz : 0 < cn
        · as_aux_lemma =>
            have d2 : decide (1 < ((cn + 1 : Nat) : Int)) = true := decide_eq_true (by omega)
            go_wp2_with fail
            go_ret
            refine ⟨?_, H3.out.2⟩
            rw [lc_dup (dup_stays (dup_hit (k := k) (by rw [← HN.out, ← HA.out.2.1]; exact hz)) L.length hlt)]
            rfl
        · as_aux_lemma =>
            have d2 : decide (1 < ((cn + 1 : Nat) : Int)) = false := decide_eq_false (by omega)
            go_wp2_with fail
            go_roundw
            case rel => exact ⟨k + 1, by go_num, hlt, dup_step HB.out.2.1 (by rw [← HN.out, ← HA.out.2.1]; omega), H3.out⟩
            case measure => simp [intOf]; omega
    · as_aux_lemma =>
        have hz : k = L.length := by omega
        subst hz
        have d1 : decide ((L.length : Int) < (L.length : Int)) = false := by simp
        have HY := Lib.hid (And.intro hdup hb)
        clear hdup hmap hb
        go_wp2_with fail
        go_loopw [28] (fun i wr => ∃ k : Nat, i = .int .i64 k ∧ k ≤ L.length ∧ badn L k = false ∧ Below w.heap.size w wr) (fun i _ => L.length - (intOf i).toNat)
        case atStart => exact ⟨0, rfl, Nat.zero_le _, rfl, HY.out.2⟩
        case round =>
          obtain ⟨k, rfl, hk, hbad, hb⟩ := hrel
          by_cases hlt : k < L.length
          · as_aux_lemma =>
              have d1 : decide ((k : Int) < (L.length : Int)) = true := decide_eq_true (by omega)
              have ek : (k : Int) < (L.length : Int) := by omega
              obtain ⟨b, off, q, m, rfl, k0, k1, -⟩ := (H.out.below hb).at hlt
              obtain ⟨nm, hnm2⟩ : ∃ nm, nm = (ob L k).name := ⟨_, rfl⟩
              obtain ⟨n, hn2⟩ : ∃ n, n = (ob L k).items.length := ⟨_, rfl⟩
              rw [← hnm2] at k0
              rw [← hn2] at k1
              have HN := Lib.hid hnm2
              clear hnm2 hn2
              have hal := (Below.refl wr.heap.size wr).alloc (Nat.le_refl _) (.cells #[.string nm, .slice q n m] 49)
              have HB := Lib.hid (And.intro (hb.trans (hal.mono hb.size)) hbad)
              clear hb hbad hal
              by_cases hsz : nm.size = 0
              · have ht := (toList_nil nm).2 hsz
                go_wp2_with (first | (go_at_call 26; refine (prefix_at _ _).mono ?_; rintro e w' ⟨rfl, rfl⟩) | fail)
                go_ret
                refine ⟨?_, HB.out.1⟩
                rw [lc_badn HY.out.1 (badn_stays (badn_hit (k := k) (by rw [← HN.out]; unfold noName; simp [hsz])) L.length hlt)]
                rfl
              have ht : ¬ nm.toList = [] := fun h => hsz ((toList_nil nm).1 h)
              have hti : nm.toList.isEmpty = false := by simpa using ht
              cases hloc : isLoc nm with
              | true =>
                go_wp2_with (first | (go_at_call 26; refine (prefix_at _ _).mono ?_; rintro e w' ⟨rfl, rfl⟩; rw [hloc]) | fail)
                go_ret
                refine ⟨?_, HB.out.1⟩
                rw [lc_badn HY.out.1 (badn_stays (badn_hit (k := k) (by rw [← HN.out]; unfold noName; simp [hloc])) L.length hlt)]
                rfl
              | false =>
                go_wp2_with (first | (go_at_call 26; refine (prefix_at _ _).mono ?_; rintro e w' ⟨rfl, rfl⟩; rw [hloc]) | fail)
                go_roundw
                case rel => exact ⟨k + 1, by go_num, hlt, badn_step HB.out.2 (by rw [← HN.out]; unfold noName; simp [hloc, hsz]), HB.out.1⟩
                case measure => simp [intOf]; omega
          · as_aux_lemma =>
              have hz : k = L.length := by omega
              subst hz
              have d1 : decide ((L.length : Int) < (L.length : Int)) = false := by simp
              have HB := Lib.hid (And.intro hbad hb)
              clear hbad hb
              go_wp2_with fail
              go_ret
              exact ⟨by rw [lc_good HY.out.1 HB.out.1]; rfl, HB.out.2⟩
end Go.Proofs.YtbplmbignalbgaaDoor
