/- Plain: what is written as a text is read from it. Conditions: none. -/
import Derived.Lib.AtoiTie
import Derived.Lib.IndexMore
import Derived.Lib.Strings
import Derived.Test.YtmgheeldoadnhaaDoorSpecD
namespace Go.Proofs.YtmgheeldoadnhaaDoor
namespace Isa

/-- No blank. -/
def Solid (l : List UInt8) : Prop := ∀ x ∈ l, x ≠ 32
theorem index_at : ∀ (l r : List UInt8), Solid l → Lib.index (l ++ 32 :: r) [32] = l.length
  | [], r, _ => by simp [Lib.index]
  | b :: l, r, h => by
    have hb : b ≠ 32 := h b (List.mem_cons_self ..)
    have ih := index_at l r (fun x hx => h x (List.mem_cons_of_mem _ hx))
    have hp : ([32] : List UInt8).isPrefixOf (b :: (l ++ 32 :: r)) = false := by
      simp [List.isPrefixOf]; exact fun e => hb e.symm
    simp only [List.cons_append, Lib.index, hp, ih, Bool.false_eq_true, if_false, List.length_cons]
    rw [if_neg (by simp)]
    omega
theorem index_none : ∀ (l : List UInt8), Solid l → Lib.index l [32] = -1
  | [], _ => by simp [Lib.index]
  | b :: l, h => by
    have hb : b ≠ 32 := h b (List.mem_cons_self ..)
    have ih := index_none l (fun x hx => h x (List.mem_cons_of_mem _ hx))
    have hp : ([32] : List UInt8).isPrefixOf (b :: l) = false := by
      simp [List.isPrefixOf]; exact fun e => hb e.symm
    simp only [Lib.index, hp, ih, Bool.false_eq_true, if_false]
    simp
theorem cut_join (x : List UInt8) (ws : List (List UInt8)) (h : Solid x) : (Lib.cut (Lib.join (x :: ws) [32]) [32]).1 = x ∧ (Lib.cut (Lib.join (x :: ws) [32]) [32]).2.1 = Lib.join ws [32] := by
  cases ws with
  | nil =>
    rw [Lib.join_one, Lib.join_nil]
    unfold Lib.cut
    rw [index_none x h, if_neg (by decide)]
    exact ⟨rfl, rfl⟩
  | cons y r =>
    have e : Lib.join (x :: y :: r) [32] = x ++ 32 :: Lib.join (y :: r) [32] := by
      rw [Lib.join_cons, Lib.join_cons]
      simp [Lib.joinTail]
    rw [e]
    unfold Lib.cut
    rw [index_at x _ h, if_pos (by omega)]
    simp

theorem digit_ok {k : Nat} (h : k < 10) : (UInt8.ofNat (48 + k)).toNat = 48 + k := by
  rw [UInt8.toNat_ofNat']; omega
theorem digitVal_ok {k : Nat} (h : k < 10) : Lib.digitVal (UInt8.ofNat (48 + k)) = some k := by
  unfold Lib.digitVal
  rw [digit_ok h, if_pos (by omega)]
  congr 1; omega
theorem decFrom_one (acc k : Nat) (h : k < 10) : Lib.decFrom acc [UInt8.ofNat (48 + k)] = some (acc * 10 + k) := by
  show (match Lib.digitVal (UInt8.ofNat (48 + k)) with | some d => Lib.decFrom (acc * 10 + d) [] | none => none) = _
  rw [digitVal_ok h]
  rfl
theorem decFrom_append (l : List UInt8) : ∀ (acc n k : Nat), Lib.decFrom acc l = some n → k < 10 → Lib.decFrom acc (l ++ [UInt8.ofNat (48 + k)]) = some (n * 10 + k) := by
  induction l with
  | nil =>
    intro acc n k h hk
    simp only [Lib.decFrom, Option.some.injEq] at h
    subst h
    exact decFrom_one _ _ hk
  | cons b r ih =>
    intro acc n k h hk
    simp only [List.cons_append, Lib.decFrom] at h ⊢
    cases hd : Lib.digitVal b with
    | none => rw [hd] at h; cases h
    | some d =>
      rw [hd] at h
      exact ih _ n k h hk
theorem decFrom_digits : ∀ (f u : Nat), u ≤ f → Lib.decFrom 0 (Lib.decDigits u) = some u
  | 0, u, h => by
    have : u = 0 := by omega
    subst this
    rw [Lib.decDigits, dif_pos (by decide)]
    exact decFrom_one 0 0 (by decide)
  | f + 1, u, h => by
    rw [Lib.decDigits]
    split
    · rename_i hu
      rw [decFrom_one 0 u hu]
      congr 1; omega
    · rename_i hu
      have ih := decFrom_digits f (u / 10) (by omega)
      rw [decFrom_append _ _ _ _ ih (by omega)]
      congr 1; omega
theorem decDigits_ne (u : Nat) : Lib.decDigits u ≠ [] := by
  rw [Lib.decDigits]
  split <;> simp
theorem decNat_digits (u : Nat) : Lib.decNat (Lib.decDigits u) = some u := by
  unfold Lib.decNat
  have := decDigits_ne u
  rw [if_neg (by simpa using this)]
  exact decFrom_digits u u (Nat.le_refl _)
theorem digits_mem : ∀ (f u : Nat), u ≤ f → ∀ x ∈ Lib.decDigits u, 48 ≤ x.toNat ∧ x.toNat ≤ 57
  | 0, u, h => by
    have : u = 0 := by omega
    subst this
    rw [Lib.decDigits, dif_pos (by decide)]
    intro x hx
    rw [List.mem_singleton.1 hx]; decide
  | f + 1, u, h => by
    rw [Lib.decDigits]
    split
    · rename_i hu
      intro x hx
      rw [List.mem_singleton.1 hx, digit_ok hu]; omega
    · rename_i hu
      intro x hx
      rcases List.mem_append.1 hx with hx | hx
      · exact digits_mem f (u / 10) (by omega) x hx
      · rw [List.mem_singleton.1 hx, digit_ok (by omega)]; omega
theorem digits_byte {u : Nat} {x : UInt8} (h : x ∈ Lib.decDigits u) : x ≠ 32 ∧ x ≠ 43 ∧ x ≠ 45 := by
  have := digits_mem u u (Nat.le_refl _) x h
  refine ⟨?_, ?_, ?_⟩ <;> (intro e; subst e; revert this; decide)
theorem atoi_digits (u : Nat) : Lib.atoi (Lib.decDigits u) = some (u : Int) := by
  have hn := decNat_digits u
  cases hd : Lib.decDigits u with
  | nil => exact absurd hd (decDigits_ne u)
  | cons b r =>
    have hb := digits_byte (u := u) (x := b) (by rw [hd]; exact List.mem_cons_self ..)
    rw [hd] at hn
    unfold Lib.atoi
    simp only
    rw [if_neg (by simpa using hb.2.2), if_neg (by simpa using hb.2.1), hn]
    rfl
theorem atoi_itoa (n : Int) : Lib.atoi (Lib.itoa n) = some n := by
  unfold Lib.itoa
  split
  · rename_i h
    unfold Lib.atoi
    simp only
    rw [if_pos (by decide), decNat_digits]
    simp; omega
  · rename_i h
    rw [atoi_digits]
    congr 1; omega
theorem solid_digits (u : Nat) : Solid (Lib.decDigits u) := fun _ hx => (digits_byte hx).1
theorem solid_itoa (n : Int) : Solid (Lib.itoa n) := by
  unfold Lib.itoa
  split
  · intro x hx
    rcases List.mem_cons.1 hx with rfl | hx
    · decide
    · exact (digits_byte hx).1
  · exact solid_digits _
theorem solid_reg (r : Int) : Solid (regL r) := by
  intro x hx
  rcases List.mem_cons.1 hx with rfl | hx
  · decide
  · exact (digits_byte hx).1
theorem solid_name_all : ∀ i : Fin 37, ∀ x ∈ nameL i.val, x ≠ 32 := by decide
theorem solid_name {i : Nat} (h : i < 37) : Solid (nameL i) := solid_name_all ⟨i, h⟩
theorem trim_reg (r : Int) : Lib.trimPrefix (regL r) [114] = Lib.decDigits r.toNat := by
  unfold Lib.trimPrefix Lib.hasPrefix regL
  simp [List.isPrefixOf]
theorem trim_nil (l : List UInt8) : Lib.trimPrefix l [] = l := by
  unfold Lib.trimPrefix Lib.hasPrefix
  simp
end Isa
end Go.Proofs.YtmgheeldoadnhaaDoor
