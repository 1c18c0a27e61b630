/- The walk of AsmLeast: no branch or jump is longer than it must be. Conditions: the items lie as told; the table of forms is as laid. -/
import Derived.Test.YticleblhmkikaaaDoorAsBb
import Derived.Test.YticleblhmkikaaaDoorAsBd
import Derived.Test.YticleblhmkikaaaDoorAsBe
namespace Go.Proofs.YticleblhmkikaaaDoor
open Go.RowKit Asm
set_option linter.unusedVariables false
set_option linter.unusedSimpArgs false

theorem assembled_split {W w' : World} {X : Nat → It} {n : Nat} {base : Int} {e : Ending} (ha : Assembled W w' X n base e) : ∃ wv pv c, e = .returned (.tuple #[wv, pv, .int .i64 c]) ∧
    Outcome X n base (fun k => wv = .slice none 0 0 ∧ pv = .slice none 0 0 ∧ c = k) (fun f => c = 0 ∧ ∃ O, wv = .slice (some ⟨O, 0, none⟩) (wordsL X n base f n).length (wordsL X n base f n).length ∧
      Words w' W.heap.size O (wordsL X n base f n).length (wordsL X n base f n).length (wordsL X n base f n) ∧ w'.ownsRow W.heap.size 53 2 pv (placesL X (ad X base f) n).length (rowP (placesL X (ad X base f) n))) := by
  rcases ha with ⟨h1, rfl⟩ | ⟨h1, f, hl, ⟨h2, rfl⟩ | ⟨h2, O, vp, rfl, h3, h4⟩⟩
  · exact ⟨_, _, _, rfl, Or.inl ⟨h1, rfl, rfl, rfl⟩⟩
  · exact ⟨_, _, _, rfl, Or.inr ⟨h1, f, hl, Or.inl ⟨h2, rfl, rfl, rfl⟩⟩⟩
  · exact ⟨_, _, _, rfl, Or.inr ⟨h1, f, hl, Or.inr ⟨h2, rfl, O, rfl, h3, h4⟩⟩⟩
theorem forms_split {W w' : World} {X : Nat → It} {n : Nat} {base : Int} {e : Ending} (ha : FormsIs W w' X n base e) : ∃ fv c, e = .returned (.tuple #[fv, .int .i64 c]) ∧
    Outcome X n base (fun k => fv = .slice none 0 0 ∧ c = k) (fun f => c = 0 ∧ ∃ F, fv = .slice (some ⟨F, 0, none⟩) n n ∧ w'.heap[F]? = some (.cells (cellsF n (forms f)) 3 (0, 0)) ∧ W.heap.size ≤ F) := by
  rcases ha with ⟨h1, rfl⟩ | ⟨h1, f, hl, ⟨h2, rfl⟩ | ⟨h2, F, rfl, h3, h4⟩⟩
  · exact ⟨_, _, rfl, Or.inl ⟨h1, rfl, rfl⟩⟩
  · exact ⟨_, _, rfl, Or.inr ⟨h1, f, hl, Or.inl ⟨h2, rfl, rfl⟩⟩⟩
  · exact ⟨_, _, rfl, Or.inr ⟨h1, f, hl, Or.inr ⟨h2, rfl, F, rfl, h3, h4⟩⟩⟩
theorem outcome_pair {X : Nat → It} {n : Nat} {base : Int} {fa fb : Int → Prop} {ga gb : (Nat → Nat) → Prop} (ha : Outcome X n base fa ga) (hb : Outcome X n base fb gb) :
    (∃ c, c ≠ 0 ∧ fa c ∧ fb c) ∨ (check X n base = 0 ∧ ∃ f f', Least X n base f ∧ (∀ i, i < n → f' i = f i) ∧ ad X base f n ≤ 67108864 ∧ ga f ∧ gb f') := by
  rcases ha with ⟨h1, h2⟩ | ⟨h1, f, hl, h2⟩
  · rcases hb with ⟨h3, h4⟩ | ⟨h3, -⟩
    · exact Or.inl ⟨_, h1, h2, h4⟩
    · exact absurd h3 h1
  · rcases hb with ⟨h3, -⟩ | ⟨-, f', hl', h4⟩
    · exact absurd h1 h3
    · have e := hl'.unique hl
      have ea : ad X base f' n = ad X base f n := ad_congr e
      rw [ea] at h4
      rcases h2 with ⟨h5, h6⟩ | ⟨h5, h6⟩
      · rcases h4 with ⟨-, h7⟩ | ⟨h7, -⟩
        · exact Or.inl ⟨3, by decide, h6, h7⟩
        · omega
      · rcases h4 with ⟨h7, -⟩ | ⟨-, h7⟩
        · omega
        · exact Or.inr ⟨h1, f, f', hl, e, h5, h6, h7⟩
theorem rowP_get (L : List (ByteArray × Int)) {j : Nat} (hj : j < L.length) : (rowP L)[j * 2]? = some (.string L[j].1) ∧ (rowP L)[j * 2 + 1]? = some (.int .i64 L[j].2) := by
  induction L generalizing j with
  | nil => simp at hj
  | cons q r ih =>
    have e : rowP (q :: r) = .string q.1 :: .int .i64 q.2 :: rowP r := rfl
    rw [e]
    cases j with
    | zero => exact ⟨rfl, rfl⟩
    | succ j =>
      rw [show (j + 1) * 2 = j * 2 + 2 by omega]
      have := ih (j := j) (by simpa using hj)
      exact ⟨this.1, this.2⟩
theorem rowP_len (L : List (ByteArray × Int)) : (rowP L).length = L.length * 2 := by
  induction L with
  | nil => rfl
  | cons q r ih =>
    have e : rowP (q :: r) = .string q.1 :: .int .i64 q.2 :: rowP r := rfl
    rw [e, List.length_cons, List.length_cons, ih, List.length_cons]
    omega
/-- What is said of one item. -/
theorem verdict {X : Nat → It} {n : Nat} {base : Int} {f : Nat → Nat} (hl : Least X n base f) (hc : check X n base = 0) (hw : ∀ k, k < n → 0 ≤ (X k).word) {i : Nat} (hi : i < n) {T a N D : Int} (ha : a = ad X base f i) (hN : N = isz (X i) (f i))
    (hT : T = match st X (X i).lab n with | some j => ad X base f j | none => a) (hD : D = if a < T then T - a - N else T - a - 1) :
    ((X i).kind = 3 → (1 ≤ f i ∧ f i ≤ 3) ∧ (f i = 2 → (T ≤ a → D < -32768) ∧ (a < T → 32767 < D)) ∧ (f i = 3 → a < T → 1048575 < D)) ∧ ((X i).kind = 4 → (1 ≤ f i ∧ f i ≤ 2) ∧ (f i = 2 → D < -1048576 ∨ 1048575 < D)) := by
  obtain ⟨-, hbad, htw, hlost⟩ := check_parts hc
  have key : ((X i).kind = 3 ∨ (X i).kind = 4) → (tgt X n i < i ∧ T ≤ a ∧ D = T - a - 1 ∧ T = ad X base f (tgt X n i)) ∨ (i < tgt X n i ∧ a < T ∧ D = T - ad X base f (i + 1) ∧ T = ad X base f (tgt X n i)) := by
    intro hk
    have hs := lost_parts hlost i hi (by unfold named; simp; omega)
    have hne := tgt_ne hi hk hs
    have ht : T = ad X base f (tgt X n i) := by
      rw [hT]
      unfold tgt
      cases hst : st X (X i).lab n with
      | none => rw [hst] at hs; cases hs
      | some j => rfl
    have htl := tgt_lt (X := X) hi
    rcases Nat.lt_or_ge (tgt X n i) i with h | h
    · have hm := ad_mono (X := X) (base := base) (f := f) (i := tgt X n i) (j := i) (fun k hk => hw k (by omega)) (by omega)
      refine Or.inl ⟨h, by omega, ?_, ht⟩
      rw [hD, if_neg (by omega)]
    · have h' : i < tgt X n i := by omega
      have hm := ad_mono (X := X) (base := base) (f := f) (i := i + 1) (j := tgt X n i) (fun k hk => hw k (by omega)) (by omega)
      have e1 : ad X base f (i + 1) = ad X base f i + isz (X i) (f i) := rfl
      have h1 : 1 ≤ isz (X i) (f i) := by
        have := hl.1.1.one hi hk
        unfold isz
        rcases hk with hk | hk <;> rw [hk] <;> (repeat' split) <;> omega
      refine Or.inr ⟨h', by omega, ?_, ht⟩
      rw [hD, if_pos (by omega)]
      omega
  have hv := hl.1.1 i hi
  refine ⟨fun hk => ?_, fun hk => ?_⟩
  · rw [if_pos hk] at hv
    have hz1 : isz (X i) 1 = 1 := by unfold isz; rw [hk]; rfl
    have hr1 : reach (X i) 1 = 32768 := by unfold reach; rw [hk]; rfl
    have hr2 : reach (X i) 2 = 1048576 := by unfold reach; rw [hk]; rfl
    refine ⟨hv, fun h2 => ?_, fun h3 hgt => ?_⟩
    · have hn := lower hl hw hi (Or.inl hk) (v := 1) (Nat.le_refl _) (by omega)
      unfold fits at hn
      simp only [if_true] at hn
      rw [hr1] at hn
      rcases key (Or.inl hk) with ⟨h, h4, h5, h6⟩ | ⟨h, h4, h5, h6⟩
      · rw [lower_back h, hz1, ← h6, ← ha, ← h5] at hn
        unfold far at hn
        refine ⟨fun _ => ?_, fun h => by omega⟩
        split at hn <;> omega
      · rw [lower_ahead h, ← h6, ← h5] at hn
        unfold far at hn
        have hm := ad_mono (X := X) (base := base) (f := f) (i := i + 1) (j := tgt X n i) (fun k hk => hw k (by have := tgt_lt (X := X) hi; omega)) (by omega)
        refine ⟨fun h => by omega, fun _ => ?_⟩
        split at hn <;> omega
    · have hn := lower hl hw hi (Or.inl hk) (v := 2) (by decide) (by omega)
      unfold fits at hn
      simp only [if_true] at hn
      rw [hr2] at hn
      rcases key (Or.inl hk) with ⟨h, h4, h5, h6⟩ | ⟨h, h4, h5, h6⟩
      · omega
      · rw [lower_ahead h, ← h6, ← h5] at hn
        unfold far at hn
        have hm := ad_mono (X := X) (base := base) (f := f) (i := i + 1) (j := tgt X n i) (fun k hk => hw k (by have := tgt_lt (X := X) hi; omega)) (by omega)
        split at hn <;> omega
  · rw [if_neg (by omega), if_pos hk] at hv
    have hz1 : isz (X i) 1 = 1 := by unfold isz; rw [hk]; rfl
    have hr1 : reach (X i) 1 = 1048576 := by unfold reach; rw [hk]; rfl
    refine ⟨hv, fun h2 => ?_⟩
    have hn := lower hl hw hi (Or.inr hk) (v := 1) (Nat.le_refl _) (by omega)
    unfold fits at hn
    simp only [if_true] at hn
    rw [hr1] at hn
    rcases key (Or.inr hk) with ⟨h, h4, h5, h6⟩ | ⟨h, h4, h5, h6⟩
    · rw [lower_back h, hz1, ← h6, ← ha, ← h5] at hn
      unfold far at hn
      split at hn <;> omega
    · rw [lower_ahead h, ← h6, ← h5] at hn
      unfold far at hn
      split at hn <;> omega
end Go.Proofs.YticleblhmkikaaaDoor
