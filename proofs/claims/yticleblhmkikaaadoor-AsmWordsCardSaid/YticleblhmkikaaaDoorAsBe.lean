/- Plain: what is longer than it must be; where a label is found among places. Conditions: none. -/
import Derived.Test.YticleblhmkikaaaDoorAsX
namespace Go.Proofs.YticleblhmkikaaaDoor
open Go.RowKit Asm
set_option linter.unusedVariables false
set_option linter.unusedSimpArgs false

/-- An item of the least forms would not fit with a shorter one. -/
theorem lower {X : Nat → It} {n : Nat} {base : Int} {f : Nat → Nat} (hl : Least X n base f) (hw : ∀ k, k < n → 0 ≤ (X k).word) {i : Nat} (hi : i < n) (hk : (X i).kind = 3 ∨ (X i).kind = 4) {v : Nat} (h1 : 1 ≤ v) (hv : v < f i) : ¬ fits X n base (fun j => if j = i then v else f j) i := by
  intro hfit
  have hval : valid X n (fun j => if j = i then v else f j) := by
    intro j hj
    have h := hl.1.1 j hj
    by_cases he : j = i
    · subst he
      simp only [if_true]
      rcases hk with hk | hk
      · rw [if_pos hk] at h ⊢; omega
      · rw [if_neg (by omega), if_pos hk] at h ⊢; omega
    · simp only [if_neg he]
      exact h
  have hle : ∀ j, j < n → (if j = i then v else f j) ≤ f j := by
    intro j hj
    split
    · rename_i he; subst he; omega
    · exact Nat.le_refl _
  have hF : Fits X n base (fun j => if j = i then v else f j) := by
    intro j hj
    by_cases he : j = i
    · subst he; exact hfit
    · exact fits_mono hw hval hle hj (by simp only [if_neg he]) (hl.2 j hj)
  have := hl.1.2 _ hval hF i hi
  simp only [if_true] at this
  omega
theorem ad_shift {X : Nat → It} {base : Int} {f g : Nat → Nat} {i j : Nat} (hm : ∀ k, i ≤ k → k < j → f k = g k) (h : i ≤ j) : ad X base f j - ad X base f i = ad X base g j - ad X base g i :=
  Int.le_antisymm (ad_between (fun k h1 h2 => by rw [hm k h1 h2]; exact Int.le_refl _) h) (ad_between (fun k h1 h2 => by rw [hm k h1 h2]; exact Int.le_refl _) h)
theorem lower_back {X : Nat → It} {n : Nat} {base : Int} {f : Nat → Nat} {i v : Nat} (h : tgt X n i < i) : dist X n base (fun j => if j = i then v else f j) i = ad X base f (tgt X n i) - ad X base f i - isz (X i) v := by
  unfold dist
  have e1 : ad X base (fun j => if j = i then v else f j) (tgt X n i) = ad X base f (tgt X n i) := ad_congr fun k hk => if_neg (by omega)
  have e2 : ad X base (fun j => if j = i then v else f j) (i + 1) = ad X base (fun j => if j = i then v else f j) i + isz (X i) (if i = i then v else f i) := rfl
  have e3 : ad X base (fun j => if j = i then v else f j) i = ad X base f i := ad_congr fun k hk => if_neg (by omega)
  rw [e1, e2, e3, if_pos rfl]
  omega
theorem lower_ahead {X : Nat → It} {n : Nat} {base : Int} {f : Nat → Nat} {i v : Nat} (h : i < tgt X n i) : dist X n base (fun j => if j = i then v else f j) i = ad X base f (tgt X n i) - ad X base f (i + 1) := by
  unfold dist
  exact ad_shift (fun k h1 h2 => if_neg (by omega)) h
theorem tgt_ne {X : Nat → It} {n i : Nat} (hi : i < n) (hk : (X i).kind = 3 ∨ (X i).kind = 4) (hl : (st X (X i).lab n).isSome = true) : tgt X n i ≠ i := by
  intro h
  unfold tgt at h
  cases hs : st X (X i).lab n with
  | none => rw [hs] at hl; cases hl
  | some j =>
    rw [hs] at h
    have := (st_lt hs).2.1
    have hj : j = i := h
    rw [hj] at this
    omega

/-- Where a label is found among places: the last one; or what was before. -/
def tl (s : ByteArray) : List (ByteArray × Int) → Int → Int
  | [], d => d
  | q :: r, d => tl s r (if q.1 = s then q.2 else d)
theorem tl_app (s : ByteArray) : ∀ (P Q : List (ByteArray × Int)) (d : Int), tl s (P ++ Q) d = tl s Q (tl s P d)
  | [], Q, d => rfl
  | q :: r, Q, d => tl_app s r Q _
theorem tl_take (s : ByteArray) (P : List (ByteArray × Int)) (d : Int) {j : Nat} (hj : j < P.length) : tl s (P.take (j + 1)) d = if P[j].1 = s then P[j].2 else tl s (P.take j) d := by
  rw [List.take_add_one, List.getElem?_eq_getElem hj, tl_app]
  rfl
theorem twice_parts {X : Nat → It} {k : Nat} (h : twice X (k + 1) = false) : twice X k = false ∧ ((X k).kind = 2 → st X (X k).lab k = none) := by
  have e : twice X (k + 1) = (twice X k || (decide ((X k).kind = 2) && (st X (X k).lab k).isSome)) := rfl
  rw [e, Bool.or_eq_false_iff] at h
  refine ⟨h.1, fun hk => ?_⟩
  have h2 := h.2
  rw [hk] at h2
  simpa using h2
theorem tl_places {X : Nat → It} {g : Nat → Int} {s : ByteArray} {d : Int} : ∀ {k : Nat}, twice X k = false → tl s (placesL X g k) d = match st X s k with | some j => g j | none => d
  | 0, _ => rfl
  | k + 1, h => by
    obtain ⟨h1, h2⟩ := twice_parts h
    have ih := tl_places (g := g) (s := s) (d := d) h1
    have e : placesL X g (k + 1) = if (X k).kind = 2 then placesL X g k ++ [((X k).lab, g k)] else placesL X g k := rfl
    have es : st X s (k + 1) = match st X s k with | some j => some j | none => if (X k).kind = 2 ∧ (X k).lab = s then some k else none := rfl
    by_cases hk : (X k).kind = 2
    · rw [e, if_pos hk, tl_app, ih]
      by_cases hs : (X k).lab = s
      · have hn := h2 hk
        rw [hs] at hn
        rw [es, hn]
        show (if (X k).lab = s then g k else _) = _
        rw [if_pos hs, if_pos ⟨hk, hs⟩]
      · rw [es]
        show (if (X k).lab = s then g k else _) = _
        rw [if_neg hs]
        cases st X s k with
        | some j => rfl
        | none => show d = _; rw [if_neg (fun h => hs h.2)]
    · rw [e, if_neg hk, ih, es]
      cases st X s k with
      | some j => rfl
      | none => show d = _; rw [if_neg (fun h => hk h.1)]
theorem lost_parts {X : Nat → It} {n : Nat} : ∀ {k : Nat}, lost X n k = false → ∀ i, i < k → named (X i) = true → (st X (X i).lab n).isSome = true
  | 0, _, i, hi, _ => by omega
  | k + 1, h, i, hi, hn => by
    have e : lost X n (k + 1) = (lost X n k || (named (X k) && (st X (X k).lab n).isNone)) := rfl
    rw [e, Bool.or_eq_false_iff] at h
    by_cases he : i = k
    · subst he
      have h2 := h.2
      rw [hn] at h2
      cases hs : st X (X i).lab n with
      | none => rw [hs] at h2; cases h2
      | some j => rfl
    · exact lost_parts h.1 i (by omega) hn
end Go.Proofs.YticleblhmkikaaaDoor
