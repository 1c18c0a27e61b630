/- What the words of a branch and of a jump do, among all words. Conditions: the words lie as told; the table of forms is as laid. -/
import Derived.Test.YticleblhmkikaaaDoorAsBj
import Derived.Test.YticleblhmkikaaaDoorAsBf
namespace Go.Proofs.YticleblhmkikaaaDoor
open Go.RowKit Asm
set_option linter.unusedVariables false
set_option linter.unusedSimpArgs false

theorem wordsL_get {X : Nat → It} {n : Nat} {base : Int} {f : Nat → Nat} {i j : Nat} (hj : j < (iw X n base f i).length) : ∀ k, i < k → (wordsL X n base f k)[(wordsL X n base f i).length + j]? = (iw X n base f i)[j]?
  | 0, h => by omega
  | k + 1, h => by
    show (wordsL X n base f k ++ iw X n base f k)[_]? = _
    by_cases he : i = k
    · subst he
      rw [List.getElem?_append_right (by omega)]
      congr 1
      omega
    · have ih := wordsL_get hj k (by omega)
      have hlt : (wordsL X n base f i).length + j < (wordsL X n base f k).length := by
        rw [List.getElem?_eq_getElem hj] at ih
        exact (List.getElem?_eq_some_iff.1 ih).1
      rw [List.getElem?_append_left hlt, ih]
theorem own_cell {w : World} {B O M n : Nat} {X : Nat → It} {base : Int} {f : Nat → Nat} (h : Words w B O M M (wordsL X n base f n)) {i j : Nat} {x : Int} (hi : i < n) (hx : (iw X n base f i)[j]? = some x) {off : Nat} (ho : off = (wordsL X n base f i).length) : w.cell? ⟨O, off + j, none⟩ = some (.int .u32 x) := by
  have hj : j < (iw X n base f i).length := (List.getElem?_eq_some_iff.1 hx).1
  have hg := wordsL_get hj n hi
  have hlt : (wordsL X n base f i).length + j < (wordsL X n base f n).length := by
    rw [hx] at hg
    exact (List.getElem?_eq_some_iff.1 hg).1
  have hlen := h.len
  rw [ho, World.ownsRow.cellAt h _ (by omega)]
  unfold byW
  rw [List.getElem?_map, hg, hx]
  rfl
theorem citem_of {X : Nat → It} {n : Nat} {base : Int} (h : check X n base = 0) {i : Nat} (hi : i < n) : citem (X i) = 0 := bad_zero (check_parts h).2.1 i hi
theorem jump_reg {x : It} (h : citem x = 0) (hk : x.kind = 4) : 0 ≤ x.d ∧ x.d ≤ 31 := by
  unfold citem at h
  rw [if_neg (by omega)] at h
  split at h
  · cases h
  · rename_i hn
    by_cases hd : 0 ≤ x.d ∧ x.d ≤ 31
    · exact hd
    · exact absurd (Or.inr (Or.inr ⟨Or.inl hk, hd⟩)) hn
theorem branch_reg {x : It} (h : citem x = 0) (hk : x.kind = 3) : (26 ≤ x.op ∧ x.op ≤ 31) ∧ (0 ≤ x.a ∧ x.a ≤ 31) ∧ (0 ≤ x.b ∧ x.b ≤ 31) := by
  unfold citem at h
  rw [if_neg (by omega)] at h
  split at h
  · cases h
  · rename_i hn
    have h1 : turned x.op ≠ 0 := fun e => hn (Or.inr (Or.inl ⟨hk, Or.inl e⟩))
    refine ⟨?_, ?_, ?_⟩
    · unfold turned at h1
      (repeat' split at h1) <;> omega
    · by_cases hd : 0 ≤ x.a ∧ x.a ≤ 31
      · exact hd
      · exact absurd (Or.inr (Or.inl ⟨hk, Or.inr (Or.inl hd)⟩)) hn
    · by_cases hd : 0 ≤ x.b ∧ x.b ≤ 31
      · exact hd
      · exact absurd (Or.inr (Or.inl ⟨hk, Or.inr (Or.inr hd)⟩)) hn
theorem turned_range {op : Int} (h : 26 ≤ op ∧ op ≤ 31) : 26 ≤ turned op ∧ turned op ≤ 31 := by
  unfold turned
  (repeat' split) <;> omega
theorem fits_range {X : Nat → It} {n : Nat} {base : Int} {f : Nat → Nat} {i : Nat} {r : Int} (h : fits X n base f i) (hr : reach (X i) (f i) = r) (h0 : r ≠ 0) : -r ≤ dist X n base f i ∧ dist X n base f i < r := by
  unfold fits far at h
  rw [hr] at h
  rcases h with h | h
  · exact absurd h h0
  · split at h <;> omega
/-- What is known of one item of the least forms. -/
structure OneIt (w : World) (B O M n : Nat) (X : Nat → It) (base : Int) (f : Nat → Nat) (i off : Nat) (a T : Int) : Prop where
  words : Words w B O M M (wordsL X n base f n)
  env : Env w
  least : Least X n base f
  check : check X n base = 0
  wd : ∀ i, i < n → 0 ≤ (X i).word
  le : ad X base f n ≤ 67108864
  lt : i < n
  off : off = (wordsL X n base f i).length
  at_ : a = ad X base f i
  to_ : T = ad X base f (tgt X n i)
theorem OneIt.below {w w' : World} {B O M n : Nat} {X : Nat → It} {base : Int} {f : Nat → Nat} {i off : Nat} {a T : Int} (h : OneIt w B O M n X base f i off a T) (hb : Below w.heap.size w w') : OneIt w' B O M n X base f i off a T :=
  ⟨h.words.keep (hb.block _ h.words.lt.2), h.env.below hb, h.least, h.check, h.wd, h.le, h.lt, h.off, h.at_, h.to_⟩
theorem OneIt.bounds {w : World} {B O M n : Nat} {X : Nat → It} {base : Int} {f : Nat → Nat} {i off : Nat} {a T : Int} (h : OneIt w B O M n X base f i off a T) : (0 ≤ a ∧ a ≤ 67108864) ∧ (0 ≤ T ∧ T ≤ 67108864) ∧ a + isz (X i) (f i) = ad X base f (i + 1) := by
  have hb := (check_parts h.check).1
  have e0 : ad X base f 0 = base := rfl
  have m1 := ad_mono (X := X) (base := base) (f := f) (i := 0) (j := i) (fun k hk => h.wd k (by have := h.lt; omega)) (Nat.zero_le _)
  have m2 := ad_mono (X := X) (base := base) (f := f) (i := i) (j := n) (fun k hk => h.wd k hk) (Nat.le_of_lt h.lt)
  have ht := tgt_lt (X := X) h.lt
  have m3 := ad_mono (X := X) (base := base) (f := f) (i := 0) (j := tgt X n i) (fun k hk => h.wd k (by omega)) (Nat.zero_le _)
  have m4 := ad_mono (X := X) (base := base) (f := f) (i := tgt X n i) (j := n) (fun k hk => h.wd k hk) (Nat.le_of_lt ht)
  have := h.le
  have := h.at_
  have := h.to_
  refine ⟨by omega, by omega, ?_⟩
  rw [h.at_]
  rfl
theorem lands_item {w : World} {B O M n : Nat} {X : Nat → It} {base : Int} {f : Nat → Nat} {i off : Nat} {a T : Int} (h : OneIt w B O M n X base f i off a T) (hk : (X i).kind = 4) (N : Nat) (hN : (N : Int) = isz (X i) (f i)) (c : Nat) :
    Calls Tryd.prog 23 #[.slice (some ⟨O, off, none⟩) N c, .int .i64 a] w fun e w' => e = .returned (.int .i64 T) ∧ Below w.heap.size w w' := by
  have hv := h.least.1.1 i h.lt
  rw [if_neg (by omega), if_pos hk] at hv
  have hd := jump_reg (citem_of h.check h.lt) hk
  obtain ⟨ha, hT, hs⟩ := h.bounds
  have hdist : dist X n base f i = T - ad X base f (i + 1) := by rw [h.to_]; rfl
  have hiw : iw X n base f i = (jumpL X n base f i (X i).d (f i)).map insW := by
    unfold iw
    rw [if_neg (by omega), if_neg (by omega), if_pos hk]
  rcases (show f i = 1 ∨ f i = 2 by omega) with hf | hf
  · have hz : isz (X i) (f i) = 1 := by unfold isz; rw [hk, hf]; rfl
    obtain rfl : N = 1 := by omega
    have hr := fits_range (h.least.2 i h.lt) (r := 1048576) (by unfold reach; rw [hk, hf]; rfl) (by decide)
    have hw : (iw X n base f i)[0]? = some (insW ⟨32, (X i).d, 0, 0, dist X n base f i⟩) := by
      rw [hiw]
      unfold jumpL
      rw [if_pos hf]
      rfl
    have hc := own_cell h.words h.lt hw h.off
    refine (lands_one (x := ⟨32, (X i).d, 0, 0, dist X n base f i⟩) (c := c) (ok_jal2 hd (by omega)) h.env hc a (by omega) (show -2000000000 ≤ dist X n base f i ∧ dist X n base f i ≤ 2000000000 by omega)).mono ?_
    rintro e w' ⟨rfl, hb⟩
    refine ⟨?_, hb⟩
    have e : a + 1 + dist X n base f i = T := by omega
    show Ending.returned (.int .i64 (a + 1 + dist X n base f i)) = _
    rw [e]
  · have hz : isz (X i) (f i) = 3 := by unfold isz; rw [hk, hf]; rfl
    obtain rfl : N = 3 := by omega
    have hTm : T % 4294967296 = T := by omega
    have hj : jumpL X n base f i (X i).d (f i) = [⟨23, 25, 0, 0, T / 65536⟩, ⟨17, 25, 25, 0, T % 65536⟩, ⟨33, (X i).d, 25, 0, 0⟩] := by
      unfold jumpL
      rw [if_neg (by omega), ← h.to_, hTm]
      rfl
    rw [hj] at hiw
    exact lands_three hd (by omega) (by omega) h.env a (own_cell h.words h.lt (j := 0) (by rw [hiw]; rfl) h.off) (own_cell h.words h.lt (j := 1) (by rw [hiw]; rfl) h.off) (own_cell h.words h.lt (j := 2) (by rw [hiw]; rfl) h.off)
theorem takes_item {w : World} {B O M n : Nat} {X : Nat → It} {base : Int} {f : Nat → Nat} {i off : Nat} {a T : Int} (h : OneIt w B O M n X base f i off a T) (hk : (X i).kind = 3) (N : Nat) (hN : (N : Int) = isz (X i) (f i)) (c : Nat) (hc1 : N ≤ c) (hc2 : c ≤ 1000000000) :
    Calls Tryd.prog 24 #[.slice (some ⟨O, off, none⟩) N c, iv (X i), .int .i64 a, .int .i64 T] w fun e w' => e = .returned (.bool true) ∧ Below w.heap.size w w' := by
  have hv := h.least.1.1 i h.lt
  rw [if_pos hk] at hv
  obtain ⟨hop, hra, hrb⟩ := branch_reg (citem_of h.check h.lt) hk
  have hto := turned_range hop
  obtain ⟨ha, hT, hs⟩ := h.bounds
  have hdist : dist X n base f i = T - ad X base f (i + 1) := by rw [h.to_]; rfl
  have hiw : iw X n base f i = (branchL X n base f i).map insW := by
    unfold iw
    rw [if_neg (by omega), if_pos hk]
  rcases (show f i = 1 ∨ f i = 2 ∨ f i = 3 by omega) with hf | hf | hf
  · have hz : isz (X i) (f i) = 1 := by unfold isz; rw [hk, hf]; rfl
    obtain rfl : N = 1 := by omega
    have hr := fits_range (h.least.2 i h.lt) (r := 32768) (by unfold reach; rw [hk, hf]; rfl) (by decide)
    have hw : (iw X n base f i)[0]? = some (insW ⟨(X i).op, 0, (X i).a, (X i).b, dist X n base f i⟩) := by
      rw [hiw]
      unfold branchL
      rw [if_pos hf]
      rfl
    exact takes_one (ok_br hop hra hrb (by omega)) (own_cell h.words h.lt hw h.off) h.env a T (by omega) (by omega) (by omega)
  · have hz : isz (X i) (f i) = 2 := by unfold isz; rw [hk, hf]; rfl
    obtain rfl : N = 2 := by omega
    have hr := fits_range (h.least.2 i h.lt) (r := 1048576) (by unfold reach; rw [hk, hf]; rfl) (by decide)
    have hj : branchL X n base f i = [⟨turned (X i).op, 0, (X i).a, (X i).b, 1⟩, ⟨32, 0, 0, 0, dist X n base f i⟩] := by
      unfold branchL jumpL
      rw [if_neg (by omega), if_pos (by omega)]
      rfl
    rw [hj] at hiw
    refine takes_2 (ok_br hto hra hrb (by omega)) (own_cell h.words h.lt (j := 0) (by rw [hiw]; rfl) h.off) h.env a T (by omega) hc1 hc2 (fun w' hb => ?_)
    have h' := h.below hb
    have hcell := own_cell h'.words h.lt (j := 1) (x := insW ⟨32, 0, 0, 0, dist X n base f i⟩) (by rw [hiw]; rfl) h.off
    refine (lands_one (x := ⟨32, 0, 0, 0, dist X n base f i⟩) (c := c - 1) (ok_jal2 (by omega) (by omega)) h'.env hcell (a + 1) (by omega) (show -2000000000 ≤ dist X n base f i ∧ dist X n base f i ≤ 2000000000 by omega)).mono ?_
    rintro e w2 ⟨rfl, hb2⟩
    refine ⟨?_, hb2⟩
    have e : a + 1 + 1 + dist X n base f i = T := by omega
    show Ending.returned (.int .i64 (a + 1 + 1 + dist X n base f i)) = _
    rw [e]
  · have hz : isz (X i) (f i) = 4 := by unfold isz; rw [hk, hf]; rfl
    obtain rfl : N = 4 := by omega
    have hTm : T % 4294967296 = T := by omega
    have hj : branchL X n base f i = [⟨turned (X i).op, 0, (X i).a, (X i).b, 3⟩, ⟨23, 25, 0, 0, T / 65536⟩, ⟨17, 25, 25, 0, T % 65536⟩, ⟨33, 0, 25, 0, 0⟩] := by
      unfold branchL jumpL
      rw [if_neg (by omega), if_neg (by omega), ← h.to_, hTm]
      rfl
    rw [hj] at hiw
    refine takes_4 (ok_br hto hra hrb (by omega)) (own_cell h.words h.lt (j := 0) (by rw [hiw]; rfl) h.off) h.env a T (by omega) hc1 hc2 (fun w' hb => ?_)
    have h' := h.below hb
    exact lands_three (d := 0) (by decide) (by omega) (by omega) h'.env (a + 1) (own_cell h'.words h.lt (j := 1) (by rw [hiw]; rfl) h.off) (own_cell h'.words h.lt (j := 2) (by rw [hiw]; rfl) h.off) (own_cell h'.words h.lt (j := 3) (by rw [hiw]; rfl) h.off)
/-- Where the labels of the first items stand among all places. -/
theorem placesL_pre {X : Nat → It} {g : Nat → Int} (i : Nat) : ∀ k, i ≤ k → ∃ r, placesL X g k = placesL X g i ++ r
  | 0, h => by obtain rfl : i = 0 := by omega
               exact ⟨[], by simp⟩
  | k + 1, h => by
    by_cases he : i = k + 1
    · subst he; exact ⟨[], by simp⟩
    · obtain ⟨r, hr⟩ := placesL_pre (X := X) (g := g) i k (by omega)
      have e : placesL X g (k + 1) = if (X k).kind = 2 then placesL X g k ++ [((X k).lab, g k)] else placesL X g k := rfl
      rw [e]
      split
      · exact ⟨r ++ [((X k).lab, g k)], by rw [hr, List.append_assoc]⟩
      · exact ⟨r, hr⟩
theorem placesL_next {X : Nat → It} {g : Nat → Int} {i : Nat} (hk : (X i).kind = 2) : (placesL X g (i + 1)).length = (placesL X g i).length + 1 := by
  show (if (X i).kind = 2 then placesL X g i ++ [((X i).lab, g i)] else placesL X g i).length = _
  rw [if_pos hk]; simp
theorem placesL_stay {X : Nat → It} {g : Nat → Int} {i : Nat} (hk : (X i).kind ≠ 2) : (placesL X g (i + 1)).length = (placesL X g i).length := by
  show (if (X i).kind = 2 then placesL X g i ++ [((X i).lab, g i)] else placesL X g i).length = _
  rw [if_neg hk]
theorem placesL_here {X : Nat → It} {g : Nat → Int} {i n : Nat} (hk : (X i).kind = 2) (hi : i < n) : (placesL X g n)[(placesL X g i).length]? = some ((X i).lab, g i) := by
  obtain ⟨r, hr⟩ := placesL_pre (X := X) (g := g) (i + 1) n hi
  have e : placesL X g (i + 1) = placesL X g i ++ [((X i).lab, g i)] := by
    show (if (X i).kind = 2 then placesL X g i ++ [((X i).lab, g i)] else placesL X g i) = _
    rw [if_pos hk]
  rw [hr, e, List.append_assoc, List.getElem?_append_right (Nat.le_refl _), Nat.sub_self]
  rfl
end Go.Proofs.YticleblhmkikaaaDoor
