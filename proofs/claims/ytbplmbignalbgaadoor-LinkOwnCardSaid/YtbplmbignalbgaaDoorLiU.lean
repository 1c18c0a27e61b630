/- Plain: what is made of two objects that call their labels alike; what is refused. Conditions: none. -/
import Derived.Test.YtbplmbignalbgaaDoorLiT
namespace Go.Proofs.YtbplmbignalbgaaDoor
open Go.RowKit Asm
set_option linter.unusedVariables false
set_option linter.unusedSimpArgs false

theorem litX_app (A B : List It) (k : Nat) : litX (A ++ B) k = if k < A.length then litX A k else litX B (k - A.length) := by
  unfold litX
  rw [List.getD_eq_getElem?_getD, List.getD_eq_getElem?_getD, List.getD_eq_getElem?_getD]
  split
  · rw [List.getElem?_append_left (by assumption)]
  · rw [List.getElem?_append_right (by omega)]
def wds (n : Nat) : List It := (List.range n).map fun k => wdI k
theorem wds_len (n : Nat) : (wds n).length = n := by simp [wds]
theorem wds_next (n : Nat) : wds (n + 1) = wds n ++ [wdI n] := by unfold wds; rw [List.range_succ, List.map_append]; rfl
theorem wds_at {n k : Nat} (h : k < n) : litX (wds n) k = wdI k := by
  unfold litX wds
  rw [List.getD_eq_getElem?_getD, List.getElem?_map, List.getElem?_range h]
  rfl
theorem wds_full (nm : ByteArray) (n : Nat) : (wds n).map (full nm) = wds n := by
  unfold wds
  rw [List.map_map]
  rfl
def dot (s : ByteArray) : ByteArray := ⟨#[46]⟩ ++ s
theorem dot_loc (s : ByteArray) : isLoc (dot s) = true := by
  unfold isLoc dot
  rw [ByteArray.data_append, Array.toList_append]
  rfl
theorem dot_size (s : ByteArray) : (dot s).size = 1 + s.size := size_cat _ _
def ownI (s : ByteArray) (n : Nat) : List It := wds n ++ [lbI (dot s), rfI (dot s)]
theorem ownI_len (s : ByteArray) (n : Nat) : (ownI s n).length = n + 2 := by simp [ownI, wds_len]
theorem full_lb {nm s : ByteArray} (h : isLoc s = true) : full nm (lbI s) = lbI (nm ++ s) := by unfold full; rw [if_pos (show isLoc (lbI s).lab = true from h)]; rfl
theorem full_rf {nm s : ByteArray} (h : isLoc s = true) : full nm (rfI s) = rfI (nm ++ s) := by unfold full; rw [if_pos (show isLoc (rfI s).lab = true from h)]; rfl
theorem ownI_full (nm s : ByteArray) (n : Nat) : (ownI s n).map (full nm) = wds n ++ [lbI (nm ++ dot s), rfI (nm ++ dot s)] := by
  unfold ownI
  rw [List.map_append, wds_full]
  show _ ++ [full nm (lbI (dot s)), full nm (rfI (dot s))] = _
  rw [full_lb (dot_loc s), full_rf (dot_loc s)]
def ownL (s : ByteArray) (n0 n1 : Nat) : List Ob := [⟨⟨#[97]⟩, ownI s n0⟩, ⟨⟨#[98]⟩, ownI s n1⟩]
def ownL2 (s : ByteArray) (n0 : Nat) : List Ob := [⟨⟨#[97]⟩, ownI s n0⟩, ⟨⟨#[98]⟩, [rfI (dot s)]⟩]
def nmA (s : ByteArray) : ByteArray := ⟨#[97]⟩ ++ dot s
def nmB (s : ByteArray) : ByteArray := ⟨#[98]⟩ ++ dot s
theorem nm_ne (s : ByteArray) : nmA s ≠ nmB s := by
  intro h
  have h1 : (nmA s).data.toList = (nmB s).data.toList := by rw [h]
  unfold nmA nmB at h1
  rw [ByteArray.data_append, ByteArray.data_append, Array.toList_append, Array.toList_append] at h1
  have h2 : (97 : UInt8) :: (dot s).data.toList = (98 : UInt8) :: (dot s).data.toList := h1
  have h3 := (List.cons.inj h2).1
  exact absurd h3 (by decide)
theorem ownL_flat (s : ByteArray) (n0 n1 : Nat) : flat (ownL s n0 n1) = (wds n0 ++ [lbI (nmA s), rfI (nmA s)]) ++ (wds n1 ++ [lbI (nmB s), rfI (nmB s)]) := by
  show (ownI s n0).map (full ⟨#[97]⟩) ++ ((ownI s n1).map (full ⟨#[98]⟩) ++ []) = _
  rw [List.append_nil, ownI_full, ownI_full]
  rfl
theorem ownL_len (s : ByteArray) (n0 n1 : Nat) : (flat (ownL s n0 n1)).length = n0 + n1 + 4 := by
  rw [ownL_flat]
  simp [wds_len]
  omega
theorem ownL_isX (s : ByteArray) (n0 n1 : Nat) : IsX n0 n1 (nmA s) (nmB s) (litX (flat (ownL s n0 n1))) := by
  intro k hk
  have hl : (wds n0 ++ [lbI (nmA s), rfI (nmA s)]).length = n0 + 2 := by simp [wds_len]
  rw [ownL_flat, litX_app, hl]
  unfold ownX
  by_cases h1 : k < n0 + 2
  · rw [if_pos h1, litX_app, wds_len]
    by_cases h2 : k < n0
    · rw [if_pos h2, if_pos h2, wds_at h2]
    · rw [if_neg h2, if_neg h2]
      by_cases h3 : k = n0
      · subst h3
        rw [if_pos rfl, Nat.sub_self]; rfl
      · have h4 : k = n0 + 1 := by omega
        subst h4
        rw [if_neg h3, if_pos rfl, show n0 + 1 - n0 = 1 by omega]; rfl
  · rw [if_neg h1, litX_app, wds_len]
    rw [if_neg (show ¬ k < n0 by omega), if_neg (show ¬ k = n0 by omega), if_neg (show ¬ k = n0 + 1 by omega)]
    by_cases h2 : k < n0 + 2 + n1
    · rw [if_pos (show k - (n0 + 2) < n1 by omega), if_pos h2, wds_at (by omega), show k - (n0 + 2) = k - n0 - 2 by omega]
    · rw [if_neg (show ¬ k - (n0 + 2) < n1 by omega), if_neg h2]
      by_cases h3 : k = n0 + 2 + n1
      · subst h3
        rw [if_pos rfl, show n0 + 2 + n1 - (n0 + 2) - n1 = 0 by omega]; rfl
      · have h4 : k = n0 + 3 + n1 := by omega
        subst h4
        rw [if_neg h3, show n0 + 3 + n1 - (n0 + 2) - n1 = 1 by omega]; rfl
theorem ownL2_flat (s : ByteArray) (n0 : Nat) : flat (ownL2 s n0) = (wds n0 ++ [lbI (nmA s), rfI (nmA s)]) ++ [rfI (nmB s)] := by
  show (ownI s n0).map (full ⟨#[97]⟩) ++ ([full ⟨#[98]⟩ (rfI (dot s))] ++ []) = _
  rw [List.append_nil, ownI_full, full_rf (dot_loc s)]
  rfl
theorem ownL2_len (s : ByteArray) (n0 : Nat) : (flat (ownL2 s n0)).length = n0 + 3 := by
  rw [ownL2_flat]
  simp [wds_len]
def Is2 (n0 : Nat) (la lb : ByteArray) (X : Nat → It) : Prop := ∀ k, k < n0 + 3 → ((X k).kind = 6 ∧ k < n0) ∨ (k = n0 ∧ X k = lbI la) ∨ (k = n0 + 1 ∧ X k = rfI la) ∨ (k = n0 + 2 ∧ X k = rfI lb)
theorem ownL2_is (s : ByteArray) (n0 : Nat) : Is2 n0 (nmA s) (nmB s) (litX (flat (ownL2 s n0))) := by
  intro k hk
  have hl : (wds n0 ++ [lbI (nmA s), rfI (nmA s)]).length = n0 + 2 := by simp [wds_len]
  rw [ownL2_flat, litX_app, hl]
  by_cases h1 : k < n0 + 2
  · rw [if_pos h1, litX_app, wds_len]
    by_cases h2 : k < n0
    · rw [if_pos h2, wds_at h2]
      exact Or.inl ⟨rfl, h2⟩
    · rw [if_neg h2]
      by_cases h3 : k = n0
      · subst h3
        rw [Nat.sub_self]
        exact Or.inr (Or.inl ⟨rfl, rfl⟩)
      · have h4 : k = n0 + 1 := by omega
        subst h4
        rw [show n0 + 1 - n0 = 1 by omega]
        exact Or.inr (Or.inr (Or.inl ⟨rfl, rfl⟩))
  · have h4 : k = n0 + 2 := by omega
    subst h4
    rw [if_neg h1, Nat.sub_self]
    exact Or.inr (Or.inr (Or.inr ⟨rfl, rfl⟩))
section
variable {n0 : Nat} {la lb : ByteArray} {X : Nat → It}
theorem x2_st_la (h : Is2 n0 la lb X) : ∀ k, k ≤ n0 + 3 → st X la k = if k ≤ n0 then none else some n0
  | 0, _ => by rw [if_pos (Nat.zero_le _)]; rfl
  | k + 1, hk => by
    have ih := x2_st_la h k (by omega)
    rcases h k (by omega) with ⟨hw, hc⟩ | ⟨rfl, hx⟩ | ⟨rfl, hx⟩ | ⟨rfl, hx⟩
    · rw [st_other (by omega), ih]
      (repeat' split) <;> first | rfl | omega
    · rw [if_pos (Nat.le_refl _)] at ih
      have := st_new (X := X) (k := k) (by rw [hx]; rfl) (by rw [hx]; exact ih)
      rw [hx] at this
      rw [if_neg (by omega)]
      exact this
    · rw [st_other (by rw [hx]; show ¬ ((7 : Int) = 2 ∧ _); omega), ih, if_neg (by omega), if_neg (by omega)]
    · rw [st_other (by rw [hx]; show ¬ ((7 : Int) = 2 ∧ _); omega), ih, if_neg (by omega), if_neg (by omega)]
theorem x2_st_lb (h : Is2 n0 la lb X) (hne : la ≠ lb) : ∀ k, k ≤ n0 + 3 → st X lb k = none
  | 0, _ => rfl
  | k + 1, hk => by
    have ih := x2_st_lb h hne k (by omega)
    rcases h k (by omega) with ⟨hw, hc⟩ | ⟨rfl, hx⟩ | ⟨rfl, hx⟩ | ⟨rfl, hx⟩
    · rw [st_other (by omega), ih]
    · rw [st_other (by rw [hx]; exact fun e => hne e.2), ih]
    · rw [st_other (by rw [hx]; show ¬ ((7 : Int) = 2 ∧ _); omega), ih]
    · rw [st_other (by rw [hx]; show ¬ ((7 : Int) = 2 ∧ _); omega), ih]
theorem x2_bad (h : Is2 n0 la lb X) : ∀ k, k ≤ n0 + 3 → bad X k = 0
  | 0, _ => rfl
  | k + 1, hk => by
    refine bad_step (x2_bad h k (by omega)) ?_
    rcases h k (by omega) with ⟨hw, hc⟩ | ⟨rfl, hx⟩ | ⟨rfl, hx⟩ | ⟨rfl, hx⟩
    · unfold citem; rw [hw]; rw [if_neg (by omega), if_neg (by rintro (⟨h1, -⟩ | ⟨h1, -⟩ | ⟨h1, -⟩) <;> omega)]
    all_goals rw [hx]; rfl
theorem x2_twice (h : Is2 n0 la lb X) : ∀ k, k ≤ n0 + 3 → twice X k = false
  | 0, _ => rfl
  | k + 1, hk => by
    refine twice_step (x2_twice h k (by omega)) fun h2 => ?_
    rcases h k (by omega) with ⟨hw, hc⟩ | ⟨rfl, hx⟩ | ⟨rfl, hx⟩ | ⟨rfl, hx⟩
    · omega
    · have := x2_st_la h k (by omega)
      rw [if_pos (Nat.le_refl _)] at this
      rw [hx]
      show (st X la k).isSome = false
      rw [this]; rfl
    · rw [hx] at h2; cases h2
    · rw [hx] at h2; cases h2
theorem x2_check (h : Is2 n0 la lb X) (hne : la ≠ lb) : check X (n0 + 3) 0 = 12 := by
  refine ck_lost (by omega) (x2_bad h _ (Nat.le_refl _)) (x2_twice h _ (Nat.le_refl _)) (lost_hit (k := n0 + 2) ?_)
  rcases h (n0 + 2) (by omega) with ⟨hw, hc⟩ | ⟨hc, hx⟩ | ⟨hc, hx⟩ | ⟨hc, hx⟩
  · omega
  · omega
  · omega
  · rw [hx]
    show (true && (st X lb _).isNone) = true
    rw [x2_st_lb h hne _ (Nat.le_refl _)]; rfl
end
theorem ownL_lc (s : ByteArray) (n0 n1 : Nat) : lcheck (ownL s n0 n1) = 0 := by
  refine lc_good ?_ ?_
  · show dup (ownL s n0 n1) 2 = false
    rfl
  · show badn (ownL s n0 n1) 2 = false
    rfl
theorem ownL2_lc (s : ByteArray) (n0 : Nat) : lcheck (ownL2 s n0) = 0 := by
  refine lc_good ?_ ?_
  · show dup (ownL2 s n0) 2 = false
    rfl
  · show badn (ownL2 s n0) 2 = false
    rfl
theorem ownI_ok (s : ByteArray) (n : Nat) (hs : s.size ≤ 20) (hn : n ≤ 31) : OkI 40 (ownI s n) := by
  intro x hx
  unfold ownI at hx
  rcases List.mem_append.1 hx with hx | hx
  · unfold wds at hx
    obtain ⟨k, hk, rfl⟩ := List.mem_map.1 hx
    have := List.mem_range.1 hk
    exact ⟨⟨by show (0 : Int) ≤ k; omega, by show (k : Int) < _; omega⟩, by show (0 : Nat) ≤ 40; omega⟩
  · simp only [List.mem_cons, List.not_mem_nil, or_false] at hx
    have hd := dot_size s
    rcases hx with rfl | rfl
    · exact ⟨⟨by show (0 : Int) ≤ 0; omega, by show (0 : Int) < 4294967296; omega⟩, by show (dot s).size ≤ 40; omega⟩
    · exact ⟨⟨by show (0 : Int) ≤ 0; omega, by show (0 : Int) < 4294967296; omega⟩, by show (dot s).size ≤ 40; omega⟩
theorem ownL_few (s : ByteArray) (n0 n1 : Nat) (hs : s.size ≤ 20) (h0 : n0 ≤ 31) (h1 : n1 ≤ 31) : Few (ownL s n0 n1) := by
  refine ⟨by show (2 : Nat) ≤ 8; omega, fun i hi => ?_, fun i hi => ?_, fun i hi => ?_⟩ <;> rcases (show i = 0 ∨ i = 1 by have : i < 2 := hi; omega) with rfl | rfl
  · show (ownI s n0).length ≤ 60; rw [ownI_len]; omega
  · show (ownI s n1).length ≤ 60; rw [ownI_len]; omega
  · show (1 : Nat) ≤ 40; omega
  · show (1 : Nat) ≤ 40; omega
  · exact ownI_ok s n0 hs h0
  · exact ownI_ok s n1 hs h1
theorem ownL2_few (s : ByteArray) (n0 : Nat) (hs : s.size ≤ 20) (h0 : n0 ≤ 31) : Few (ownL2 s n0) := by
  refine ⟨by show (2 : Nat) ≤ 8; omega, fun i hi => ?_, fun i hi => ?_, fun i hi => ?_⟩ <;> rcases (show i = 0 ∨ i = 1 by have : i < 2 := hi; omega) with rfl | rfl
  · show (ownI s n0).length ≤ 60; rw [ownI_len]; omega
  · show (1 : Nat) ≤ 60; omega
  · show (1 : Nat) ≤ 40; omega
  · show (1 : Nat) ≤ 40; omega
  · exact ownI_ok s n0 hs h0
  · intro x hx
    have hd := dot_size s
    rcases List.mem_singleton.1 hx with rfl
    exact ⟨⟨by show (0 : Int) ≤ 0; omega, by show (0 : Int) < 4294967296; omega⟩, by show (dot s).size ≤ 40; omega⟩
/-- The words of the image at the two places of references, and how many there are. -/
theorem own_words {n0 n1 : Nat} {la lb : ByteArray} {X : Nat → It} (h : IsX n0 n1 la lb X) (hne : la ≠ lb) (h0 : n0 ≤ 31) (h1 : n1 ≤ 31) (f : Nat → Nat) (hf : valid X (n0 + n1 + 4) f) (hw : ∀ i, i < n0 + n1 + 4 → 0 ≤ (X i).word) :
    (wordsL X (n0 + n1 + 4) 0 f (n0 + n1 + 4)).length = n0 + n1 + 2 ∧ (wordsL X (n0 + n1 + 4) 0 f (n0 + n1 + 4))[n0]? = some ((4 * n0 : Nat) : Int) ∧ (wordsL X (n0 + n1 + 4) 0 f (n0 + n1 + 4))[n0 + 1 + n1]? = some ((4 * (n0 + 1 + n1) : Nat) : Int) := by
  have hk := kind_of (x_check h hne)
  have len : ∀ k, k ≤ n0 + n1 + 4 → ((wordsL X (n0 + n1 + 4) 0 f k).length : Int) = ad X 0 f k - 0 := wordsL_len hf hw hk
  have sa := x_st_la h hne (n0 + n1 + 4) (Nat.le_refl _)
  have sb := x_st_lb h hne (n0 + n1 + 4) (Nat.le_refl _)
  rw [if_neg (by omega)] at sa sb
  have a0 := x_ad h f (n0 + n1 + 4) (Nat.le_refl _)
  have a1 := x_ad h f (n0 + 1) (by omega)
  have a2 := x_ad h f (n0 + 3 + n1) (by omega)
  have a3 := x_ad h f n0 (by omega)
  have a4 := x_ad h f (n0 + 2 + n1) (by omega)
  rw [if_neg (by omega), if_neg (by omega)] at a0 a2
  rw [if_neg (by omega), if_pos (by omega)] at a1 a4
  rw [if_pos (Nat.le_refl _)] at a3
  have l0 := len (n0 + n1 + 4) (Nat.le_refl _)
  have l1 := len (n0 + 1) (by omega)
  have l2 := len (n0 + 3 + n1) (by omega)
  rw [a0] at l0
  rw [a1] at l1
  rw [a2] at l2
  refine ⟨by omega, ?_, ?_⟩
  · have hi : iw X (n0 + n1 + 4) 0 f (n0 + 1) = [((4 * n0 : Nat) : Int)] := by
      have hx := x_ra h
      unfold iw taddr tgt
      rw [hx]
      show [(4 * ad X 0 f ((st X la _).getD 0) + 0) % 4294967296] = _
      rw [sa]
      show [(4 * ad X 0 f n0 + 0) % 4294967296] = _
      rw [a3, show (4 * (n0 : Int) + 0) % 4294967296 = ((4 * n0 : Nat) : Int) by omega]
    have := wordsL_nth (X := X) (n := n0 + n1 + 4) (base := 0) (f := f) (i := n0 + 1) (j := 0) (by rw [hi]; exact Nat.one_pos) (m := n0 + n1 + 4) (by omega)
    rw [hi, show (wordsL X (n0 + n1 + 4) 0 f (n0 + 1)).length + 0 = n0 by omega] at this
    exact this
  · have hi : iw X (n0 + n1 + 4) 0 f (n0 + 3 + n1) = [((4 * (n0 + 1 + n1) : Nat) : Int)] := by
      have hx := x_rb h
      unfold iw taddr tgt
      rw [hx]
      show [(4 * ad X 0 f ((st X lb _).getD 0) + 0) % 4294967296] = _
      rw [sb]
      show [(4 * ad X 0 f (n0 + 2 + n1) + 0) % 4294967296] = _
      rw [a4, show (4 * (((n0 + 2 + n1 : Nat) : Int) - 1) + 0) % 4294967296 = ((4 * (n0 + 1 + n1) : Nat) : Int) by omega]
    have := wordsL_nth (X := X) (n := n0 + n1 + 4) (base := 0) (f := f) (i := n0 + 3 + n1) (j := 0) (by rw [hi]; exact Nat.one_pos) (m := n0 + n1 + 4) (by omega)
    rw [hi, show (wordsL X (n0 + n1 + 4) 0 f (n0 + 3 + n1)).length + 0 = n0 + 1 + n1 by omega] at this
    exact this
end Go.Proofs.YtbplmbignalbgaaDoor
