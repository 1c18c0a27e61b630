/- Plain: two objects that call their labels alike. Conditions: none. -/
import Derived.Test.YtbplmbignalbgaaDoorLiQ
namespace Go.Proofs.YtbplmbignalbgaaDoor
open Go.RowKit Asm
set_option linter.unusedVariables false
set_option linter.unusedSimpArgs false

def wdI (k : Nat) : It := ⟨6, 0, 0, 0, 0, 0, ⟨#[]⟩, k⟩
def lbI (s : ByteArray) : It := ⟨2, 0, 0, 0, 0, 0, s, 0⟩
def rfI (s : ByteArray) : It := ⟨7, 0, 0, 0, 0, 0, s, 0⟩
/-- The first items, by their numbers. -/
def ownX (n0 n1 : Nat) (la lb : ByteArray) (k : Nat) : It := if k < n0 then wdI k else if k = n0 then lbI la else if k = n0 + 1 then rfI la else if k < n0 + 2 + n1 then wdI (k - n0 - 2) else if k = n0 + 2 + n1 then lbI lb else rfI lb
section
variable {n0 n1 : Nat} {la lb : ByteArray} {X : Nat → It}
def IsX (n0 n1 : Nat) (la lb : ByteArray) (X : Nat → It) : Prop := ∀ k, k < n0 + n1 + 4 → X k = ownX n0 n1 la lb k
theorem x_word (h : IsX n0 n1 la lb X) {k : Nat} (hk : k < n0 ∨ (n0 + 2 ≤ k ∧ k < n0 + 2 + n1)) : (X k).kind = 6 := by
  rw [h k (by omega)]
  unfold ownX
  rcases hk with hk | hk
  · rw [if_pos hk]; rfl
  · rw [if_neg (by omega), if_neg (by omega), if_neg (by omega), if_pos (by omega)]; rfl
theorem x_la (h : IsX n0 n1 la lb X) : X n0 = lbI la := by
  rw [h n0 (by omega)]
  unfold ownX
  rw [if_neg (by omega), if_pos rfl]
theorem x_ra (h : IsX n0 n1 la lb X) : X (n0 + 1) = rfI la := by
  rw [h (n0 + 1) (by omega)]
  unfold ownX
  rw [if_neg (by omega), if_neg (by omega), if_pos rfl]
theorem x_lb (h : IsX n0 n1 la lb X) : X (n0 + 2 + n1) = lbI lb := by
  rw [h (n0 + 2 + n1) (by omega)]
  unfold ownX
  rw [if_neg (by omega), if_neg (by omega), if_neg (by omega), if_neg (by omega), if_pos rfl]
theorem x_rb (h : IsX n0 n1 la lb X) : X (n0 + 3 + n1) = rfI lb := by
  rw [h (n0 + 3 + n1) (by omega)]
  unfold ownX
  rw [if_neg (by omega), if_neg (by omega), if_neg (by omega), if_neg (by omega), if_neg (by omega)]
theorem x_cases (h : IsX n0 n1 la lb X) {k : Nat} (hk : k < n0 + n1 + 4) : ((X k).kind = 6 ∧ (k < n0 ∨ (n0 + 2 ≤ k ∧ k < n0 + 2 + n1))) ∨ (k = n0 ∧ X k = lbI la) ∨ (k = n0 + 1 ∧ X k = rfI la) ∨ (k = n0 + 2 + n1 ∧ X k = lbI lb) ∨ (k = n0 + 3 + n1 ∧ X k = rfI lb) := by
  rcases (show (k < n0 ∨ (n0 + 2 ≤ k ∧ k < n0 + 2 + n1)) ∨ k = n0 ∨ k = n0 + 1 ∨ k = n0 + 2 + n1 ∨ k = n0 + 3 + n1 by omega) with hc | rfl | rfl | rfl | rfl
  · exact Or.inl ⟨x_word h hc, hc⟩
  · exact Or.inr (Or.inl ⟨rfl, x_la h⟩)
  · exact Or.inr (Or.inr (Or.inl ⟨rfl, x_ra h⟩))
  · exact Or.inr (Or.inr (Or.inr (Or.inl ⟨rfl, x_lb h⟩)))
  · exact Or.inr (Or.inr (Or.inr (Or.inr ⟨rfl, x_rb h⟩)))
theorem x_st_la (h : IsX n0 n1 la lb X) (hne : la ≠ lb) : ∀ k, k ≤ n0 + n1 + 4 → st X la k = if k ≤ n0 then none else some n0
  | 0, _ => by rw [if_pos (Nat.zero_le _)]; rfl
  | k + 1, hk => by
    have ih := x_st_la h hne k (by omega)
    rcases x_cases h (show k < n0 + n1 + 4 by omega) with ⟨hw, hc⟩ | ⟨rfl, hx⟩ | ⟨rfl, hx⟩ | ⟨rfl, hx⟩ | ⟨rfl, hx⟩
    · rw [st_other (by omega), ih]
      (repeat' split) <;> first | rfl | omega
    · rw [if_pos (Nat.le_refl _)] at ih
      have := st_new (X := X) (k := k) (by rw [hx]; rfl) (by rw [hx]; exact ih)
      rw [hx] at this
      rw [if_neg (by omega)]
      exact this
    · rw [st_other (by rw [hx]; show ¬ ((7 : Int) = 2 ∧ _); omega), ih, if_neg (by omega), if_neg (by omega)]
    · rw [st_other (by rw [hx]; exact fun e => hne e.2.symm), ih, if_neg (by omega), if_neg (by omega)]
    · rw [st_other (by rw [hx]; show ¬ ((7 : Int) = 2 ∧ _); omega), ih, if_neg (by omega), if_neg (by omega)]
theorem x_st_lb (h : IsX n0 n1 la lb X) (hne : la ≠ lb) : ∀ k, k ≤ n0 + n1 + 4 → st X lb k = if k ≤ n0 + 2 + n1 then none else some (n0 + 2 + n1)
  | 0, _ => by rw [if_pos (Nat.zero_le _)]; rfl
  | k + 1, hk => by
    have ih := x_st_lb h hne k (by omega)
    rcases x_cases h (show k < n0 + n1 + 4 by omega) with ⟨hw, hc⟩ | ⟨rfl, hx⟩ | ⟨rfl, hx⟩ | ⟨rfl, hx⟩ | ⟨rfl, hx⟩
    · rw [st_other (by omega), ih]
      (repeat' split) <;> first | rfl | omega
    · rw [st_other (by rw [hx]; exact fun e => hne e.2), ih, if_pos (by omega), if_pos (by omega)]
    · rw [st_other (by rw [hx]; show ¬ ((7 : Int) = 2 ∧ _); omega), ih, if_pos (by omega), if_pos (by omega)]
    · rw [if_pos (Nat.le_refl _)] at ih
      have := st_new (X := X) (k := n0 + 2 + n1) (by rw [hx]; rfl) (by rw [hx]; exact ih)
      rw [hx] at this
      rw [if_neg (by omega)]
      exact this
    · rw [st_other (by rw [hx]; show ¬ ((7 : Int) = 2 ∧ _); omega), ih, if_neg (by omega), if_neg (by omega)]
theorem x_bad (h : IsX n0 n1 la lb X) : ∀ k, k ≤ n0 + n1 + 4 → bad X k = 0
  | 0, _ => rfl
  | k + 1, hk => by
    refine bad_step (x_bad h k (by omega)) ?_
    rcases x_cases h (show k < n0 + n1 + 4 by omega) with ⟨hw, hc⟩ | ⟨rfl, hx⟩ | ⟨rfl, hx⟩ | ⟨rfl, hx⟩ | ⟨rfl, hx⟩
    · unfold citem; rw [hw]; rw [if_neg (by omega), if_neg (by rintro (⟨h1, -⟩ | ⟨h1, -⟩ | ⟨h1, -⟩) <;> omega)]
    all_goals rw [hx]; rfl
theorem x_twice (h : IsX n0 n1 la lb X) (hne : la ≠ lb) : ∀ k, k ≤ n0 + n1 + 4 → twice X k = false
  | 0, _ => rfl
  | k + 1, hk => by
    refine twice_step (x_twice h hne k (by omega)) fun h2 => ?_
    rcases x_cases h (show k < n0 + n1 + 4 by omega) with ⟨hw, hc⟩ | ⟨rfl, hx⟩ | ⟨rfl, hx⟩ | ⟨rfl, hx⟩ | ⟨rfl, hx⟩
    · omega
    · have := x_st_la h hne k (by omega)
      rw [if_pos (Nat.le_refl _)] at this
      rw [hx]
      show (st X la k).isSome = false
      rw [this]; rfl
    · rw [hx] at h2; cases h2
    · have := x_st_lb h hne (n0 + 2 + n1) (by omega)
      rw [if_pos (Nat.le_refl _)] at this
      rw [hx]
      show (st X lb _).isSome = false
      rw [this]; rfl
    · rw [hx] at h2; cases h2
theorem x_lost (h : IsX n0 n1 la lb X) (hne : la ≠ lb) : ∀ k, k ≤ n0 + n1 + 4 → lost X (n0 + n1 + 4) k = false
  | 0, _ => rfl
  | k + 1, hk => by
    refine lost_step (x_lost h hne k (by omega)) ?_
    have sa := x_st_la h hne (n0 + n1 + 4) (Nat.le_refl _)
    have sb := x_st_lb h hne (n0 + n1 + 4) (Nat.le_refl _)
    rw [if_neg (by omega)] at sa sb
    rcases x_cases h (show k < n0 + n1 + 4 by omega) with ⟨hw, hc⟩ | ⟨rfl, hx⟩ | ⟨rfl, hx⟩ | ⟨rfl, hx⟩ | ⟨rfl, hx⟩
    · unfold named; rw [hw]; rfl
    · rw [hx]; rfl
    · rw [hx]
      show (true && (st X la _).isNone) = false
      rw [sa]; rfl
    · rw [hx]; rfl
    · rw [hx]
      show (true && (st X lb _).isNone) = false
      rw [sb]; rfl
theorem x_check (h : IsX n0 n1 la lb X) (hne : la ≠ lb) : check X (n0 + n1 + 4) 0 = 0 :=
  ck_good (by omega) (x_bad h _ (Nat.le_refl _)) (x_twice h hne _ (Nat.le_refl _)) (x_lost h hne _ (Nat.le_refl _))
theorem x_least (h : IsX n0 n1 la lb X) : Least X (n0 + n1 + 4) 0 (fun i => first (X i)) := by
  refine ⟨Under.start, fun i hi => Or.inl ?_⟩
  have hk : (X i).kind ≠ 3 ∧ (X i).kind ≠ 4 := by
    rcases x_cases h hi with ⟨hw, hc⟩ | ⟨rfl, hx⟩ | ⟨rfl, hx⟩ | ⟨rfl, hx⟩ | ⟨rfl, hx⟩
    · omega
    all_goals rw [hx]; simp [lbI, rfI]
  unfold reach
  rw [if_neg (fun e => hk.1 e.1), if_neg (fun e => e.elim (fun e => hk.1 e.1) (fun e => hk.2 e.1))]
theorem x_ad (h : IsX n0 n1 la lb X) (f : Nat → Nat) : ∀ k, k ≤ n0 + n1 + 4 → ad X 0 f k = if k ≤ n0 then (k : Int) else if k ≤ n0 + 2 + n1 then (k : Int) - 1 else (k : Int) - 2
  | 0, _ => by rw [if_pos (Nat.zero_le _)]; rfl
  | k + 1, hk => by
    have ih := x_ad h f k (by omega)
    have e : ad X 0 f (k + 1) = ad X 0 f k + isz (X k) (f k) := rfl
    rw [e, ih]
    rcases x_cases h (show k < n0 + n1 + 4 by omega) with ⟨hw, hc⟩ | ⟨rfl, hx⟩ | ⟨rfl, hx⟩ | ⟨rfl, hx⟩ | ⟨rfl, hx⟩
    · have hz : isz (X k) (f k) = 1 := by unfold isz; rw [hw]; rfl
      rw [hz]
      (repeat' split) <;> omega
    · have hz : isz (X k) (f k) = 0 := by rw [hx]; rfl
      rw [hz]
      (repeat' split) <;> omega
    · have hz : isz (X (n0 + 1)) (f (n0 + 1)) = 1 := by rw [hx]; rfl
      rw [hz]
      (repeat' split) <;> omega
    · have hz : isz (X (n0 + 2 + n1)) (f (n0 + 2 + n1)) = 0 := by rw [hx]; rfl
      rw [hz]
      (repeat' split) <;> omega
    · have hz : isz (X (n0 + 3 + n1)) (f (n0 + 3 + n1)) = 1 := by rw [hx]; rfl
      rw [hz]
      (repeat' split) <;> omega
theorem x_places (h : IsX n0 n1 la lb X) (f : Nat → Nat) : ∀ k, k ≤ n0 + n1 + 4 → placesL X (ad X 0 f) k = if k ≤ n0 then [] else if k ≤ n0 + 2 + n1 then [(la, (n0 : Int))] else [(la, (n0 : Int)), (lb, (n0 : Int) + 1 + n1)]
  | 0, _ => by rw [if_pos (Nat.zero_le _)]; rfl
  | k + 1, hk => by
    have ih := x_places h f k (by omega)
    have hadk := x_ad h f k (by omega)
    rcases x_cases h (show k < n0 + n1 + 4 by omega) with ⟨hw, hc⟩ | ⟨rfl, hx⟩ | ⟨rfl, hx⟩ | ⟨rfl, hx⟩ | ⟨rfl, hx⟩
    · show (if (X k).kind = 2 then _ else _) = _
      rw [if_neg (by omega), ih]
      (repeat' split) <;> first | rfl | omega
    · show (if (X k).kind = 2 then _ else _) = _
      rw [if_pos (by rw [hx]; rfl), ih, if_pos (Nat.le_refl _), if_neg (by omega), if_pos (by omega), hadk, if_pos (Nat.le_refl _), hx]
      rfl
    · show (if (X (n0 + 1)).kind = 2 then _ else _) = _
      rw [if_neg (by rw [hx]; show ¬ (7 : Int) = 2; omega), ih, if_neg (by omega), if_pos (by omega), if_neg (by omega), if_pos (by omega)]
    · show (if (X (n0 + 2 + n1)).kind = 2 then _ else _) = _
      rw [if_pos (by rw [hx]; rfl), ih, if_neg (by omega), if_pos (Nat.le_refl _), if_neg (by omega), if_neg (by omega), hadk, if_neg (by omega), if_pos (Nat.le_refl _), hx]
      show [(la, (n0 : Int))] ++ [(lb, _)] = _
      rw [show (((n0 + 2 + n1 : Nat) : Int) - 1) = (n0 : Int) + 1 + n1 by omega]
      rfl
    · show (if (X (n0 + 3 + n1)).kind = 2 then _ else _) = _
      rw [if_neg (by rw [hx]; show ¬ (7 : Int) = 2; omega), ih, if_neg (by omega), if_neg (by omega), if_neg (by omega), if_neg (by omega)]
end
/-- The words of an item stand where those ahead of it end. -/
theorem wordsL_nth {X : Nat → It} {n : Nat} {base : Int} {f : Nat → Nat} {i j : Nat} (hj : j < (iw X n base f i).length) : ∀ {m : Nat}, i < m → (wordsL X n base f m)[(wordsL X n base f i).length + j]? = (iw X n base f i)[j]?
  | 0, h => by omega
  | m + 1, h => by
    show (wordsL X n base f m ++ iw X n base f m)[_]? = _
    by_cases he : i = m
    · subst he
      rw [List.getElem?_append_right (by omega), Nat.add_sub_cancel_left]
    · have ih := wordsL_nth (n := n) (base := base) (f := f) hj (m := m) (by omega)
      have hlt : (wordsL X n base f i).length + j < (wordsL X n base f m).length := by
        rcases Nat.lt_or_ge ((wordsL X n base f i).length + j) (wordsL X n base f m).length with hh | hh
        · exact hh
        · rw [List.getElem?_eq_none hh, List.getElem?_eq_getElem hj] at ih
          cases ih
      rw [List.getElem?_append_left hlt, ih]
end Go.Proofs.YtbplmbignalbgaaDoor
