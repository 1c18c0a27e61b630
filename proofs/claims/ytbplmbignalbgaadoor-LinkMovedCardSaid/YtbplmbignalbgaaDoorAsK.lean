/- Contracts: a slice of the call's own is turned round. Conditions: the slice lies as told. -/
import Derived.Test.YtbplmbignalbgaaDoorAsJ
import Derived.Laws.OwnMore
namespace Go.Proofs.YtbplmbignalbgaaDoor
open Go.RowKit Asm
set_option linter.unusedVariables false
set_option linter.unusedSimpArgs false

def rowI (T : List Nat) : List Value := T.map fun k : Nat => .int .i64 (k : Int)
theorem rowI_len (T : List Nat) : (rowI T).length = T.length := by unfold rowI; simp
theorem rowI_get (T : List Nat) {k : Nat} (h : k < T.length) : (rowI T)[k]? = some (.int .i64 (T.getD k 0 : Nat)) := by
  unfold rowI
  rw [List.getElem?_map, List.getElem?_eq_getElem h]
  simp [List.getD, List.getElem?_eq_getElem h]
theorem rowI_set (T : List Nat) (i x : Nat) : (rowI T).set i (.int .i64 x) = rowI (T.set i x) := by unfold rowI; rw [List.map_set]
theorem swap_perm (T : List Nat) {i j : Nat} (hi : i < T.length) (hj : j < T.length) : ((T.set i (T.getD j 0)).set j (T.getD i 0)).Perm T := by
  have e1 : T.getD i 0 = T[i] := by simp [List.getD, List.getElem?_eq_getElem hi]
  have e2 : T.getD j 0 = T[j] := by simp [List.getD, List.getElem?_eq_getElem hj]
  rw [e1, e2]
  exact List.set_set_perm hi hj
theorem Chg.grown1 {w w' : World} {g : Nat} (h : w.grownBy w' (some g)) : Chg (fun k => k = g) w w' := ⟨h.os, h.tape, h.output, h.size, fun k hk hn => h.block k hk (fun e => hn (Option.some.inj e))⟩

set_option maxRecDepth 100000 in
set_option maxHeartbeats 2000000 in
theorem reverse_some {base g cap : Nat} {T : List Nat} {w : World} (h : w.ownsRow base 3 1 (.slice (some ⟨g, 0, none⟩) T.length cap) T.length (rowI T)) (hn : T.length ≤ 1000) :
    Calls Tryd.prog 46 #[.slice (some ⟨g, 0, none⟩) T.length cap] w fun e w' => e = .returned (.tuple #[]) ∧ ∃ T' : List Nat, T'.Perm T ∧ w'.ownsRow base 3 1 (.slice (some ⟨g, 0, none⟩) T.length cap) T.length (rowI T') ∧ Chg (fun k => k = g) w w' := by
  have H := Lib.hid h
  clear h
  go_enter Tryd.func46, Tryd.ntmps46
  go_wp2_with fail
  go_loopw [2, 3] (fun s2 s3 wr => ∃ (i : Nat) (j : Int) (T' : List Nat), s2 = .int .i64 i ∧ s3 = .int .i64 j ∧ -1 ≤ j ∧ j < T.length ∧ i ≤ 1000 ∧ T'.Perm T ∧ wr.ownsRow base 3 1 (.slice (some ⟨g, 0, none⟩) T.length cap) T.length (rowI T') ∧ Chg (fun k => k = g) w wr) (fun _ s3 _ => (intOf s3 + 1).toNat)
  case atStart => exact ⟨0, (T.length : Int) - 1, T, rfl, by first | rfl | (congr 1; unfold wrap64; omega), by omega, by omega, by omega, List.Perm.refl _, H.out, Chg.refl _ _⟩
  case round =>
    obtain ⟨i, j, T', rfl, rfl, hj0, hj1, hi, hp, ho, hC⟩ := hrel
    have hl := hp.length_eq
    by_cases hlt : (i : Int) < j
    · obtain ⟨m, rfl⟩ : ∃ m : Nat, j = m := ⟨j.toNat, by omega⟩
      have ci := ho.cellAt i (by omega)
      have cj := ho.cellAt m (by omega)
      rw [rowI_get T' (by omega)] at ci cj
      have f := ho.frozenAt
      have fi := f i
      have fj := f m
      clear f
      have d1 : decide ((i : Int) < (m : Int)) = true := by simp; omega
      have e1 : (i : Int) < (T.length : Int) := by omega
      have ne : i ≠ m := by omega
      have HH := Lib.hid (And.intro ho (And.intro hC (And.intro hp hl)))
      clear ho hC hp hl
      go_wp2_with fail
      go_region
      all_goals
        go_wp2_with fail
        go_roundw
      case rel =>
        obtain ⟨ho, hC, hp, hl⟩ := HH.out
        obtain ⟨h1, g1⟩ := ho.stored i (.int .i64 (T'.getD m 0 : Nat))
        obtain ⟨h2, g2⟩ := h1.stored m (.int .i64 (T'.getD i 0 : Nat))
        rw [rowI_set, rowI_set] at h2
        have hs := swap_perm T' (i := i) (j := m) (by omega) (by omega)
        exact ⟨i + 1, (m : Int) - 1, (T'.set i (T'.getD m 0)).set m (T'.getD i 0), rfl, rfl, by omega, by omega, by omega, hs.trans hp, h2, (((hC.trans (Chg.grown1 g1) (fun _ h => Or.inl h)).trans (Chg.grown1 g2) (fun _ h => Or.inl h)).drew)⟩
      case measure => simp [intOf]
    · have d1 : decide ((i : Int) < j) = false := by simp; omega
      have HH := Lib.hid (And.intro ho (And.intro hC (And.intro hp hl)))
      clear ho hC hp hl
      go_wp2_with fail
      go_returns
      exact ⟨rfl, T', HH.out.2.2.1, HH.out.1, HH.out.2.1⟩

set_option maxRecDepth 100000 in
set_option maxHeartbeats 2000000 in
theorem reverse_none (w : World) : Calls Tryd.prog 46 #[.slice none 0 0] w fun e w' => e = .returned (.tuple #[]) ∧ w = w' := by
  go_enter Tryd.func46, Tryd.ntmps46
  go_wp2_with fail
  refine wp_loop_rounds 1 ?_
  rw [rounds_succ]
  go_wp2_with fail
  go_returns
  exact ⟨rfl, rfl⟩
theorem reverse_at {base : Nat} {v : Value} {T : List Nat} {w : World} (h : w.ownsRow base 3 1 v T.length (rowI T)) (hn : T.length ≤ 1000) :
    Calls Tryd.prog 46 #[v] w fun e w' => e = .returned (.tuple #[]) ∧ ∃ T' : List Nat, T'.Perm T ∧ w'.ownsRow base 3 1 v T.length (rowI T') ∧ Chg (fun k => v.ownBlock = some k) w w' := by
  rcases h.2 with ⟨rfl, h0⟩ | ⟨g, cap, cur, rfl, -⟩
  · refine (reverse_none w).mono ?_
    rintro e w' ⟨rfl, rfl⟩
    exact ⟨rfl, T, List.Perm.refl _, h, Chg.refl _ _⟩
  · refine (reverse_some h hn).mono ?_
    rintro e w' ⟨rfl, T', hp, ho, hC⟩
    exact ⟨rfl, T', hp, ho, hC.mono fun k hk => by rw [hk]; rfl⟩
end Go.Proofs.YtbplmbignalbgaaDoor
