/- Contracts: prefixes, own labels; items put behind items. Conditions: the items lie as told. -/
import Derived.Test.YtbplmbignalbgaaDoorLiA
import Derived.Laws.Strings3
import Derived.Lib.Strings
import Derived.Lib.AppendZeros
import Derived.Deep.QuietTactic
namespace Go.Proofs.YtbplmbignalbgaaDoor
open Go.RowKit Asm
set_option linter.unusedVariables false
set_option linter.unusedSimpArgs false

theorem loc_take (s : ByteArray) : (decide (1 ≤ s.size) && ((s.extract 0 1).toList == [46])) = isLoc s := by
  have h := Lib.hasPrefix_raw s ⟨#[46]⟩
  have e : (⟨#[46]⟩ : ByteArray).size = 1 := rfl
  have e2 : (⟨#[46]⟩ : ByteArray).toList = [46] := by rw [Lib.toList_data]
  rw [e, e2] at h
  exact h
theorem loc_none (s : ByteArray) (h : ¬ 0 < s.size) : isLoc s = false := by
  obtain ⟨⟨l⟩⟩ := s
  cases l with
  | nil => rfl
  | cons c r => exact absurd (by simp [ByteArray.size]) h
theorem loc_first (s : ByteArray) (h : 0 < s.size) : ((s[0].toNat : Int) == 46) = isLoc s := by
  obtain ⟨⟨l⟩⟩ := s
  cases l with
  | nil => simp [ByteArray.size] at h
  | cons c r =>
    show ((c.toNat : Int) == 46) = [(46 : UInt8)].isPrefixOf (c :: r)
    simp only [List.isPrefixOf, Bool.and_true]
    by_cases hc : c = 46
    · subst hc; rfl
    · have h1 : (46 == c) = false := by simp; exact fun e => hc e.symm
      rw [h1]
      have : c.toNat ≠ 46 := fun e => hc (UInt8.toNat_inj.1 e)
      simp
      omega
set_option maxRecDepth 100000 in
set_option maxHeartbeats 1000000 in
theorem prefix_in (s : ByteArray) (w : World) : Calls Tryd.prog 37 #[.string s, .string ⟨#[46]⟩] w fun e w' => e = .returned (.bool (isLoc s)) ∧ w = w' := by
  rw [← loc_take]
  by_cases h : 1 ≤ s.size
  · have d0 : decide (1 ≤ (s.size : Int)) = true := by simp; omega
    have d1 : decide (1 ≤ s.size) = true := by simp [h]
    rw [d1, Bool.true_and]
    clear d1
    go_enter Tryd.func37, Tryd.ntmps37
    go_wp2_with fail
    go_ret
    exact ⟨rfl, rfl⟩
  · have d0 : decide (1 ≤ (s.size : Int)) = false := decide_eq_false (by omega)
    have d1 : decide (1 ≤ s.size) = false := decide_eq_false h
    rw [d1, Bool.false_and]
    clear d1
    go_enter Tryd.func37, Tryd.ntmps37
    go_wp2_with fail
    go_ret
    exact ⟨rfl, rfl⟩
set_option maxRecDepth 100000 in
set_option maxHeartbeats 1000000 in
theorem own_at (s : ByteArray) (w : World) : Calls Tryd.prog 19 #[.string s] w fun e w' => e = .returned (.bool (isLoc s)) ∧ w = w' := by
  by_cases h : 0 < s.size
  · have d0 : decide (0 < (s.size : Int)) = true := by simp; omega
    go_enter Tryd.func19, Tryd.ntmps19
    go_wp2_with fail
    go_ret
    exact ⟨by rw [loc_first s h]; rfl, rfl⟩
  · have d0 : decide (0 < (s.size : Int)) = false := decide_eq_false (by omega)
    go_enter Tryd.func19, Tryd.ntmps19
    go_wp2_with fail
    go_ret
    exact ⟨by rw [loc_none s h]; rfl, rfl⟩
set_option maxRecDepth 100000 in
set_option maxHeartbeats 1000000 in
theorem prefix_at (s : ByteArray) (w : World) : Calls Tryd.prog 26 #[.string s, .string ⟨#[46]⟩] w fun e w' => e = .returned (.bool (isLoc s)) ∧ w = w' := by
  go_enter Tryd.func26, Tryd.ntmps26
  go_wp2_with (go_at_call 37; refine (prefix_in s _).mono ?_; rintro e w' ⟨rfl, rfl⟩)
  go_ret
  exact ⟨rfl, rfl⟩
theorem infoIt : (Tryd.prog.info? 40).map (fun i => (i.zero, i.size, i.bytes)) = some (some (.agg #[.int .i64 0, .int .i64 0, .int .i64 0, .int .i64 0, .int .i64 0, .int .i64 0, .string ByteArray.empty, .int .u32 0]), 8, 72) := by kernel_rfl
theorem infoIt_of : ∃ i, Tryd.prog.info? 40 = some i ∧ i.zero = some (.agg #[.int .i64 0, .int .i64 0, .int .i64 0, .int .i64 0, .int .i64 0, .int .i64 0, .string ByteArray.empty, .int .u32 0]) ∧ i.size = 8 ∧ i.bytes = 72 := by
  obtain ⟨i, hi, hx⟩ := Option.map_eq_some_iff.1 infoIt
  simp only [Prod.mk.injEq] at hx
  exact ⟨i, hi, hx⟩
theorem grownIt_same (w : World) (row : Option Nat) : w.grownBy w row := ⟨rfl, rfl, rfl, Nat.le_refl _, fun _ _ _ => rfl⟩
/-- A row of items, appended to an own row of items. -/
theorem append_items {w : World} {B c : Nat} {v : Value} {p : Option Addr} {A M : List It} (h : w.ownsRow B 40 8 v A.length (rowL A)) (k : Items w p M.length c (litX M)) (hm : A.length + M.length ≤ 1000) (hB : B ≤ w.heap.size) :
    ∃ v' w', (Builtin.append_ #[25, 25] 25 #[v, .slice p M.length c]).run Tryd.prog w = .ok v' w' ∧ w'.ownsRow B 40 8 v' (A.length + M.length) (rowL (A ++ M)) ∧ w.grownBy w' v.ownBlock := by
  obtain ⟨i0, hi, hz0, hz1, hz2⟩ := infoIt_of
  cases p with
  | none =>
    obtain ⟨h0, h1⟩ := k.nil rfl
    have hM : M = [] := List.length_eq_zero_iff.1 h0
    subst hM h1
    refine ⟨v, w, ?_, by rw [List.append_nil]; exact h, grownIt_same _ _⟩
    rcases h.2 with ⟨rfl, hl0⟩ | ⟨g, cap, cur, rfl, -, hg, hcap, hmax, hcs, htake⟩
    · simp [Builtin.append_, run_underlying Tryd.underlying25, sizeOf, typeInfo, hi, Builtin.lenOf, Builtin.firstCells, storeCells]
    · simp [Builtin.append_, run_underlying Tryd.underlying25, sizeOf, typeInfo, hi, Builtin.lenOf, Builtin.firstCells, storeCells, hcap]
  | some ad =>
    have hnews : ∀ j u, (rowL M)[j]? = some u → w.cell? (ad.add j) = some u := by
      by_cases hM : M = []
      · subst hM
        intro j u hu
        simp [rowL] at hu
      · obtain ⟨b, off, hp, -⟩ := k.cell (List.length_pos_iff.2 hM)
        cases hp
        exact items_news k rfl
    obtain ⟨v', w', hr, h1, h2, -⟩ := run_append_own (P := Tryd.prog) w B 25 25 40 i0 (.agg #[.int .i64 0, .int .i64 0, .int .i64 0, .int .i64 0, .int .i64 0, .int .i64 0, .string ByteArray.empty, .int .u32 0]) 8 72 Tryd.underlying25 hi hz0 hz1 hz2 rfl (by decide) v A.length (rowL A) h ad M.length c (rowL M) (rowL_len M) hnews (one_rowL M) (by unfold maxLen; omega) (by omega) hB
    exact ⟨v', w', hr, by rw [rowL_app]; exact h1, h2⟩
/-- Items, of which those behind a and before a + k have their labels told wholly. -/
def mixed (A M : List It) (nm : ByteArray) (k : Nat) : List It := A ++ ((M.take k).map (full nm) ++ M.drop k)
theorem mixed_len (A M : List It) (nm : ByteArray) {k : Nat} (hk : k ≤ M.length) : (mixed A M nm k).length = A.length + M.length := by
  unfold mixed
  simp
  omega
theorem mixed_0 (A M : List It) (nm : ByteArray) : mixed A M nm 0 = A ++ M := by simp [mixed]
theorem mixed_all (A M : List It) (nm : ByteArray) : mixed A M nm M.length = A ++ M.map (full nm) := by simp [mixed]
theorem litX_get {L : List It} {i : Nat} (hi : i < L.length) : L[i]? = some (litX L i) := by
  unfold litX
  rw [List.getD_eq_getElem?_getD, List.getElem?_eq_getElem hi]
  rfl
theorem drop_litX {M : List It} {k : Nat} (hk : k < M.length) : M.drop k = litX M k :: M.drop (k + 1) := by
  rw [List.drop_eq_getElem_cons hk]
  congr 1
  have := litX_get hk
  rw [List.getElem?_eq_getElem hk] at this
  exact Option.some.inj this
theorem mixed_next {A M : List It} {nm : ByteArray} {k : Nat} (hk : k < M.length) : mixed A M nm (k + 1) = A ++ ((M.take k).map (full nm) ++ (full nm (litX M k) :: M.drop (k + 1))) := by
  unfold mixed
  rw [List.take_add_one, litX_get hk, List.map_append]
  simp
theorem mixed_at {A M : List It} {nm : ByteArray} {k : Nat} (hk : k < M.length) : litX (mixed A M nm k) (A.length + k) = litX M k := by
  unfold mixed
  rw [drop_litX hk]
  show (A ++ ((M.take k).map (full nm) ++ _)).getD (A.length + k) default = _
  rw [List.getD_eq_getElem?_getD, List.getElem?_append_right (by omega), show A.length + k - A.length = k by omega, List.getElem?_append_right (by simp; omega)]
  simp [show k - min k M.length = 0 by omega]
theorem mixed_keep {A M : List It} {nm : ByteArray} {k : Nat} (hk : k < M.length) (h : isLoc (litX M k).lab = false) : mixed A M nm (k + 1) = mixed A M nm k := by
  rw [mixed_next hk]
  unfold mixed
  rw [drop_litX hk]
  have e : full nm (litX M k) = litX M k := by unfold full; rw [if_neg (by simp [h])]
  rw [e]
theorem rowL_set : ∀ (L : List It) (j : Nat), j < L.length → ∀ s, (rowL L).set (j * 8 + 6) (.string s) = rowL (L.set j { litX L j with lab := s })
  | [], j, h, s => by simp at h
  | x :: r, 0, h, s => by
    show (icells x ++ rowL r).set 6 _ = icells _ ++ rowL r
    rfl
  | x :: r, j + 1, h, s => by
    have ih := rowL_set r j (by simpa using h) s
    show (icells x ++ rowL r).set ((j + 1) * 8 + 6) _ = icells x ++ rowL (r.set j _)
    rw [List.set_append_right _ _ (by show 8 ≤ _; omega), show (j + 1) * 8 + 6 - (icells x).length = j * 8 + 6 by show (j + 1) * 8 + 6 - 8 = _; omega, ih]
    rfl
theorem mixed_set {A M : List It} {nm : ByteArray} {k : Nat} (hk : k < M.length) (h : isLoc (litX M k).lab = true) : (rowL (mixed A M nm k)).set ((A.length + k) * 8 + 6) (.string (nm ++ (litX M k).lab)) = rowL (mixed A M nm (k + 1)) := by
  rw [rowL_set _ _ (by rw [mixed_len A M nm (by omega)]; omega), mixed_at hk, mixed_next hk]
  unfold mixed
  rw [drop_litX hk]
  congr 1
  have e : full nm (litX M k) = { litX M k with lab := nm ++ (litX M k).lab } := by unfold full; rw [if_pos h]
  rw [e, List.set_append_right _ _ (by omega), show A.length + k - A.length = k by omega, List.set_append_right _ _ (by rw [List.length_map, List.length_take]; omega), show k - ((M.take k).map (full nm)).length = 0 by rw [List.length_map, List.length_take]; omega]
  rfl
end Go.Proofs.YtbplmbignalbgaaDoor
