/- Plain: numbers as decimal texts. Conditions: none. -/
import Derived.Test.YtihgefllmkicaaaDoorBgX
import Derived.Lib.ItoaNum
namespace Go.Proofs.YtihgefllmkicaaaDoor
open Go.RowKit Bg
set_option linter.unusedVariables false
set_option linter.unusedSimpArgs false


open Lib (decDigits)
theorem dec_snoc {u d : Nat} (hu : 0 < u) (hd : d < 10) : decDigits (u * 10 + d) = decDigits u ++ [UInt8.ofNat (48 + d)] := by
  rw [Lib.decDigits, dif_neg (by omega), show (u * 10 + d) / 10 = u by omega, show (u * 10 + d) % 10 = d by omega]
/-- Four digits more. -/
theorem dec_four {u d : Nat} (hu : 0 < u) (hd : d < 10000) : decDigits (u * 10000 + d) = decDigits u ++ [UInt8.ofNat (48 + d / 1000), UInt8.ofNat (48 + d / 100 % 10), UInt8.ofNat (48 + d / 10 % 10), UInt8.ofNat (48 + d % 10)] := by
  rw [show u * 10000 + d = (((u * 10 + d / 1000) * 10 + d / 100 % 10) * 10 + d / 10 % 10) * 10 + d % 10 by omega, dec_snoc (by omega) (by omega), dec_snoc (by omega) (by omega), dec_snoc (by omega) (by omega), dec_snoc hu (by omega)]
  simp [List.append_assoc]
/-- Bytes as numbers. -/
def byI (t : List UInt8) : List Int := t.map fun b => (b.toNat : Int)
theorem byI_app (a b : List UInt8) : byI (a ++ b) = byI a ++ byI b := List.map_append
theorem byI_len (a : List UInt8) : (byI a).length = a.length := List.length_map _
theorem byI_cells (a : List UInt8) : (byI a).map (Value.int .u8) = Lib.byteCells a := by unfold byI Lib.byteCells; rw [List.map_map]; rfl
theorem byte_of {d : Nat} (hd : d < 10) : ((UInt8.ofNat (48 + d)).toNat : Int) = 48 + (d : Int) := by
  rw [UInt8.toNat_ofNat']
  omega
/-- A number's text. -/
def txt (x : Int) : List UInt8 := if x < 0 then 45 :: decDigits (-x).toNat else decDigits x.toNat
theorem dec_zero : decDigits 0 = [48] := by rw [Lib.decDigits, dif_pos (by decide)]; rfl
/-- The leading digits to the base 10000 stand for more than 0. -/
theorem val_drop_pos {B : Int} (hB : 1 < B) {l : List Int} (h : Dig B l) (t : Tidy l) {i : Nat} (hi : i < l.length) : 0 < val B (l.drop i) := by
  have h1 : l.drop i ≠ [] := by
    intro e
    have := congrArg List.length e
    rw [List.length_drop, List.length_nil] at this
    omega
  have h2 : Tidy (l.drop i) := by
    unfold Tidy
    rw [List.getLast?_drop, if_neg (by omega)]
    exact t
  have := val_ge (by omega) (h.drop i) h2 h1
  have := pow_pos' (show 0 < B by omega) ((l.drop i).length - 1)
  omega
/-- One group more. -/
theorem dec_group {l : List Int} (h : Dig 10000 l) (t : Tidy l) {i : Nat} (hi : i + 1 < l.length) : decDigits (val 10000 (l.drop i)).toNat = decDigits (val 10000 (l.drop (i + 1))).toNat ++ [UInt8.ofNat (48 + (l.getD i 0).toNat / 1000), UInt8.ofNat (48 + (l.getD i 0).toNat / 100 % 10), UInt8.ofNat (48 + (l.getD i 0).toNat / 10 % 10), UInt8.ofNat (48 + (l.getD i 0).toNat % 10)] := by
  have hp := val_drop_pos (by decide) h t hi
  have hd := h.getD (by decide) i
  rw [← dec_four (by omega) (by omega), val_drop l (show i < l.length by omega)]
  congr 1
  omega
theorem dec_top {l : List Int} (h : Dig 10000 l) {i : Nat} (hi : i + 1 = l.length) : decDigits (val 10000 (l.drop i)).toNat = decDigits (l.getD i 0).toNat := by
  rw [val_drop l (show i < l.length by omega), List.drop_eq_nil_of_le (by omega)]
  show decDigits (l.getD i 0 + 10000 * 0).toNat = _
  rw [Int.mul_zero, Int.add_zero]
theorem dec_len {u : Nat} {n : Nat} (h : u < 10 ^ n) (hn : 0 < n) : (decDigits u).length ≤ n := by
  induction n generalizing u with
  | zero => omega
  | succ n ih =>
    rw [Lib.decDigits]
    split
    · simp
    · rename_i hu
      rw [List.length_append]
      have h1 : u / 10 < 10 ^ n := by rw [Nat.pow_succ] at h; omega
      have hn' : 0 < n := by
        rcases Nat.eq_zero_or_pos n with h0 | h0
        · subst h0; simp at h1; omega
        · exact h0
      have := ih h1 hn'
      simp
      omega
/-- What a text of digits stands for. -/
def decI (t : List UInt8) : Int := decv (byI t)
theorem ok_dec : ∀ (u : Nat), ∀ c, c ∈ byI (decDigits u) → okDig c = true := by
  intro u
  induction u using Nat.strongRecOn with
  | _ u ih =>
    intro c hc
    rw [Lib.decDigits] at hc
    split at hc
    · rename_i h
      unfold byI at hc
      rw [List.map_cons, List.map_nil, List.mem_singleton] at hc
      rw [hc, byte_of h]
      unfold okDig
      rw [decide_eq_true_eq]
      omega
    · rename_i h
      rw [byI_app, List.mem_append] at hc
      rcases hc with hc | hc
      · exact ih (u / 10) (by omega) c hc
      · unfold byI at hc
        rw [List.map_cons, List.map_nil, List.mem_singleton] at hc
        rw [hc, byte_of (by omega)]
        unfold okDig
        rw [decide_eq_true_eq]
        omega
theorem decv_dec : ∀ (u : Nat), decv (byI (decDigits u)) = (u : Int) := by
  intro u
  induction u using Nat.strongRecOn with
  | _ u ih =>
    rw [Lib.decDigits]
    split
    · rename_i h
      show 0 * 10 + (((UInt8.ofNat (48 + u)).toNat : Int) - 48) = _
      rw [byte_of h]
      omega
    · rename_i h
      rw [byI_app]
      show decv (byI (decDigits (u / 10)) ++ [((UInt8.ofNat (48 + u % 10)).toNat : Int)]) = _
      rw [decv_snoc, ih (u / 10) (by omega), byte_of (by omega)]
      omega
theorem dig_byte {b : UInt8} (h : okDig (b.toNat : Int) = true) : 48 ≤ b.toNat ∧ b.toNat ≤ 57 := by
  unfold okDig at h
  rw [decide_eq_true_eq] at h
  omega
theorem decI_snoc (t : List UInt8) (b : UInt8) : decI (t ++ [b]) = decI t * 10 + ((b.toNat : Int) - 48) := by
  unfold decI
  rw [byI_app]
  exact decv_snoc _ _
theorem decI_nonneg {t : List UInt8} (h : ∀ b, b ∈ t → okDig (b.toNat : Int) = true) : 0 ≤ decI t := by
  refine (decv_bound (byI t) (fun c hc => ?_)).1
  obtain ⟨b, hb, rfl⟩ := List.mem_map.1 hc
  exact h b hb
/-- A text of digits that does not begin with a nought, and is not empty, stands for more than 0. -/
theorem decI_pos : ∀ (n : Nat) (t : List UInt8), t.length = n → (∀ b, b ∈ t → okDig (b.toNat : Int) = true) → (∃ b r, t = b :: r ∧ b.toNat ≠ 48) → 0 < decI t := by
  intro n
  induction n with
  | zero => intro t ht _ h; obtain ⟨b, r, rfl, _⟩ := h; cases ht
  | succ n ih =>
    intro t ht hd h
    have hne : t ≠ [] := fun e => by rw [e] at ht; cases ht
    have e := List.dropLast_concat_getLast hne
    have hl := dig_byte (hd _ (List.getLast_mem hne))
    rw [← e, decI_snoc]
    obtain ⟨b, r, hbr, hb⟩ := h
    by_cases hr : r = []
    · subst hr
      subst hbr
      show 0 < decI [] * 10 + ((b.toNat : Int) - 48)
      have : decI [] = 0 := rfl
      have := dig_byte (hd b (by simp))
      omega
    · have := ih t.dropLast (by rw [List.length_dropLast]; omega) (fun b hb => hd b (List.dropLast_subset _ hb)) ⟨b, r.dropLast, by rw [hbr, List.dropLast_cons_of_ne_nil hr], hb⟩
      omega
/-- The numeral of what such a text stands for is the text. -/
theorem dec_back : ∀ (n : Nat) (t : List UInt8), t.length = n + 1 → (∀ b, b ∈ t → okDig (b.toNat : Int) = true) → (n = 0 ∨ ∃ b r, t = b :: r ∧ b.toNat ≠ 48) → decDigits (decI t).toNat = t := by
  intro n
  induction n with
  | zero =>
    intro t ht hd h
    obtain ⟨b, rfl⟩ := List.length_eq_one_iff.1 ht
    have := dig_byte (hd b (by simp))
    show decDigits (0 * 10 + ((b.toNat : Int) - 48)).toNat = _
    rw [Lib.decDigits, dif_pos (by omega)]
    congr 1
    apply UInt8.toNat_inj.1
    rw [UInt8.toNat_ofNat']
    omega
  | succ n ih =>
    intro t ht hd h
    have h' : ∃ b r, t = b :: r ∧ b.toNat ≠ 48 := h.resolve_left (by omega)
    have hne : t ≠ [] := fun e => by rw [e] at ht; cases ht
    have e := List.dropLast_concat_getLast hne
    have hl := dig_byte (hd _ (List.getLast_mem hne))
    obtain ⟨b, r, hbr, hb⟩ := h'
    have hr : r ≠ [] := fun e => by rw [hbr, e] at ht; simp at ht
    have hq : ∃ b' r', t.dropLast = b' :: r' ∧ b'.toNat ≠ 48 := ⟨b, r.dropLast, by rw [hbr, List.dropLast_cons_of_ne_nil hr], hb⟩
    have hd' : ∀ b, b ∈ t.dropLast → okDig (b.toNat : Int) = true := fun b hb => hd b (List.dropLast_subset _ hb)
    have hlen : t.dropLast.length = n + 1 := by rw [List.length_dropLast]; omega
    have hp := decI_pos (n + 1) t.dropLast hlen hd' hq
    have hi := ih t.dropLast hlen hd' (Or.inr hq)
    have h1 : decI t = decI t.dropLast * 10 + (((t.getLast hne).toNat : Int) - 48) := by rw [← decI_snoc, e]
    rw [h1, show (decI t.dropLast * 10 + (((t.getLast hne).toNat : Int) - 48)).toNat = (decI t.dropLast).toNat * 10 + ((t.getLast hne).toNat - 48) by omega, dec_snoc (by omega) (by omega), hi]
    conv => rhs; rw [← e]
    congr 2
    apply UInt8.toNat_inj.1
    rw [UInt8.toNat_ofNat']
    omega
/-- A nought ahead changes nothing. -/
theorem decI_nought (t : List UInt8) {b : UInt8} (h : b.toNat = 48) : decI (b :: t) = decI t := by
  unfold decI
  show decv (((b.toNat : Int)) :: byI t) = _
  rw [h]
  show (byI t).foldl _ (0 * 10 + (48 - 48)) = _
  rfl
end Go.Proofs.YtihgefllmkicaaaDoor
