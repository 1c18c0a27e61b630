/- Plain: a number's text is read as that number; a text that is read, without noughts ahead. Conditions: none. -/
import Derived.Test.YtihgefllmkicaaaDoorBbC
namespace Go.Proofs.YtihgefllmkicaaaDoor
open Go.RowKit Bg
set_option linter.unusedVariables false
set_option linter.unusedSimpArgs false


open Lib (decDigits)
theorem byL_of (t : List UInt8) : byL ⟨t.toArray⟩ = byI t := by
  unfold byL byI
  simp
theorem size_of_list (t : List UInt8) : (⟨t.toArray⟩ : ByteArray).size = t.length := by simp [ByteArray.size]
theorem allDig_of {t : List UInt8} (h : ∀ b, b ∈ t → okDig (b.toNat : Int) = true) : allDig (byI t) = true := by
  unfold allDig
  rw [List.all_eq_true]
  intro c hc
  obtain ⟨b, hb, rfl⟩ := List.mem_map.1 hc
  exact h b hb
theorem dec_ok (u : Nat) : ∀ b, b ∈ decDigits u → okDig (b.toNat : Int) = true := fun b hb => ok_dec u _ (List.mem_map.2 ⟨b, hb, rfl⟩)
theorem dec_ne (u : Nat) : 0 < (decDigits u).length := by rw [Lib.decDigits_length]; exact Lib.nDigits_pos u
theorem getD_head (b : UInt8) (t : List UInt8) : (byI (b :: t)).getD 0 0 = (b.toNat : Int) := rfl
theorem data_extract (s : ByteArray) (a b : Nat) : (s.extract a b).data.toList = (s.data.toList.drop a).take (b - a) := by
  rw [ByteArray.data_extract, Array.toList_extract]
theorem size_list (s : ByteArray) : s.size = s.data.toList.length := by rw [Array.length_toList]; rfl
theorem byI_get (t : List UInt8) {m : Nat} (h : m < t.length) : (byI t).getD m 0 = (t[m].toNat : Int) := by
  unfold byI
  rw [List.getD_eq_getElem?_getD, List.getElem?_map, List.getElem?_eq_getElem h]
  rfl
theorem pBody_list (s : ByteArray) : (pBody s).data.toList = s.data.toList.drop (if 0 < s.size ∧ ((byL s).getD 0 0 = 45 ∨ (byL s).getD 0 0 = 43) then 1 else 0) := by
  unfold pBody
  split
  · rw [data_extract, List.take_of_length_le]
    rw [List.length_drop, size_list]
    omega
  · rw [List.drop_zero]
theorem byL_list (s : ByteArray) : byL s = byI s.data.toList := rfl
theorem isDec_list (s : ByteArray) : isDec s = (decide (0 < s.data.toList.length) && allDig (byI s.data.toList)) := by
  unfold isDec
  rw [size_list]
  rfl
/-- A number's text is read as that number. -/
theorem txt_read (x : Int) : isDec (pBody ⟨(txt x).toArray⟩) = true ∧ pVal ⟨(txt x).toArray⟩ = x := by
  by_cases hx : x < 0
  · have ht : txt x = 45 :: decDigits (-x).toNat := by unfold txt; rw [if_pos hx]
    have hn : pNeg ⟨(txt x).toArray⟩ = true := by
      unfold pNeg
      rw [decide_eq_true_eq, size_of_list, byL_of, ht]
      exact ⟨by simp, rfl⟩
    have hb : (pBody ⟨(txt x).toArray⟩).data.toList = decDigits (-x).toNat := by
      rw [pBody_list, if_pos]
      · rw [ht]; rfl
      · rw [size_of_list, byL_of, ht]
        exact ⟨by simp, Or.inl rfl⟩
    refine ⟨?_, ?_⟩
    · rw [isDec_list, hb, decide_eq_true (dec_ne _), allDig_of (dec_ok _)]; rfl
    · unfold pVal
      rw [if_pos hn, byL_list, hb, decv_dec]
      omega
  · have ht : txt x = decDigits x.toNat := by unfold txt; rw [if_neg hx]
    have hh : ¬ ((byL ⟨(txt x).toArray⟩).getD 0 0 = 45 ∨ (byL ⟨(txt x).toArray⟩).getD 0 0 = 43) := by
      rw [byL_of, ht]
      have h0 := dec_ne x.toNat
      have h1 := dec_ok x.toNat
      generalize decDigits x.toNat = L at *
      cases L with
      | nil => simp at h0
      | cons b r =>
        rw [getD_head]
        have := dig_byte (h1 b (by simp))
        omega
    have hn : pNeg ⟨(txt x).toArray⟩ = false := by
      unfold pNeg
      rw [decide_eq_false_iff_not]
      exact fun h => hh (Or.inl h.2)
    have hb : (pBody ⟨(txt x).toArray⟩).data.toList = decDigits x.toNat := by
      rw [pBody_list, if_neg (fun h => hh h.2), ht]
      rfl
    refine ⟨?_, ?_⟩
    · rw [isDec_list, hb, decide_eq_true (dec_ne _), allDig_of (dec_ok _)]; rfl
    · unfold pVal
      rw [hn, if_neg (by decide), byL_list, hb, decv_dec]
      omega
theorem txt_len {x : Int} {n : Nat} (h : x.natAbs < 10 ^ n) (hn : 0 < n) : (txt x).length ≤ n + 1 := by
  unfold txt
  split
  · rw [List.length_cons]
    have := dec_len (u := (-x).toNat) (n := n) (by omega) hn
    omega
  · have := dec_len (u := x.toNat) (n := n) (by omega) hn
    omega
theorem txt_short {x : Int} (h : Bnd 60 x) : (⟨(txt x).toArray⟩ : ByteArray).size ≤ 300 := by
  rw [size_of_list]
  have h1 := bnd_abs.1 h
  have h2 : (65536 : Int) ^ 60 ≤ 10 ^ 289 := by decide +kernel
  have h3 : x.natAbs < 10 ^ 289 := by
    have : ((10 ^ 289 : Nat) : Int) = (10 : Int) ^ 289 := by decide +kernel
    omega
  have := txt_len h3 (by decide)
  omega
/-- Noughts ahead change nothing. -/
theorem decI_drop (t : List UInt8) : ∀ (n : Nat) (m : Nat), (∀ i, m ≤ i → i < m + n → ((byI t).getD i 0) = 48) → m + n ≤ t.length → decI (t.drop (m + n)) = decI (t.drop m)
  | 0, m, _, _ => rfl
  | n + 1, m, h, hl => by
    have hm : m < t.length := by omega
    have h1 := decI_drop t n (m + 1) (fun i hi hi2 => h i (by omega) (by omega)) (by omega)
    rw [show m + (n + 1) = m + 1 + n by omega, h1, List.drop_eq_getElem_cons hm]
    have h2 := h m (Nat.le_refl _) (by omega)
    have h3 : (byI t).getD m 0 = (t[m].toNat : Int) := byI_get t hm
    exact (decI_nought _ (by omega)).symm
/-- What is read, as a text again: without noughts ahead. -/
theorem read_txt (s : ByteArray) (hd : isDec (pBody s) = true) {f0 f : Nat} (hf0 : f0 = if 0 < s.size ∧ ((byL s).getD 0 0 = 45 ∨ (byL s).getD 0 0 = 43) then 1 else 0) (h0 : f0 ≤ f) (hf : f + 1 ≤ s.size)
    (hz : ∀ i, f0 ≤ i → i < f → (byL s).getD i 0 = 48) (he : f + 1 = s.size ∨ (byL s).getD f 0 ≠ 48) :
    txt (pVal s) = (if pNeg s = true ∧ s.data.toList.drop f ≠ [48] then 45 :: s.data.toList.drop f else s.data.toList.drop f) := by
  have hbl := pBody_list s
  rw [← hf0] at hbl
  clear hf0
  have hdl := hd
  rw [isDec_list, hbl, Bool.and_eq_true] at hdl
  obtain ⟨t, ht⟩ : ∃ t, t = s.data.toList.drop f := ⟨_, rfl⟩
  have hlen : t.length = s.size - f := by rw [ht, List.length_drop, size_list]
  have hdig : ∀ b, b ∈ t → okDig (b.toNat : Int) = true := by
    intro b hb
    have h1 := hdl.2
    unfold allDig at h1
    rw [List.all_eq_true] at h1
    refine h1 _ (List.mem_map.2 ⟨b, ?_, rfl⟩)
    rw [ht] at hb
    have : s.data.toList.drop f = (s.data.toList.drop f0).drop (f - f0) := by rw [List.drop_drop]; congr 1; omega
    rw [this] at hb
    exact List.mem_of_mem_drop hb
  have hv : decv (byL (pBody s)) = decI t := by
    rw [byL_list, hbl, ht]
    have := decI_drop s.data.toList (f - f0) f0 (fun i hi hi2 => hz i hi (by omega)) (by rw [← size_list]; omega)
    rw [show f0 + (f - f0) = f by omega] at this
    exact this.symm
  have hl1 : t.length = (s.size - f - 1) + 1 := by omega
  have hhead : s.size - f - 1 = 0 ∨ ∃ b r, t = b :: r ∧ b.toNat ≠ 48 := by
    rcases he with h | h
    · exact Or.inl (by omega)
    · refine Or.inr ?_
      have hm : f < s.data.toList.length := by rw [← size_list]; omega
      refine ⟨s.data.toList[f], s.data.toList.drop (f + 1), by rw [ht, List.drop_eq_getElem_cons hm], ?_⟩
      have h3 : (byL s).getD f 0 = (s.data.toList[f].toNat : Int) := by rw [byL_list]; exact byI_get _ hm
      intro e
      apply h
      rw [h3, e]
      rfl
  have hback := dec_back (s.size - f - 1) t hl1 hdig hhead
  have hnn := decI_nonneg hdig
  have hzero : decI t = 0 ↔ t = [48] := by
    constructor
    · intro e
      rw [← hback, e]
      exact dec_zero
    · intro e; rw [e]; rfl
  rw [← ht]
  unfold pVal
  by_cases hn : pNeg s = true
  · rw [if_pos hn, hv]
    by_cases h48 : t = [48]
    · rw [if_neg (fun h => h.2 h48), hzero.2 h48, h48]
      exact dec_zero
    · have hpos : 0 < decI t := by
        have : decI t ≠ 0 := fun e => h48 (hzero.1 e)
        omega
      rw [if_pos ⟨hn, h48⟩]
      unfold txt
      rw [if_pos (by omega), Int.neg_neg, hback]
  · rw [if_neg hn, if_neg (fun h => hn h.1), hv]
    unfold txt
    rw [if_neg (by omega), hback]
end Go.Proofs.YtihgefllmkicaaaDoor
