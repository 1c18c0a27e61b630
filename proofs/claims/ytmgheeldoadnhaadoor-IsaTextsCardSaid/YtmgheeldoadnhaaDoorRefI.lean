/- Contracts: the document's digits. Conditions: none. -/
import Derived.Test.YtmgheeldoadnhaaDoorRefB
import Derived.Test.YtmgheeldoadnhaaDoorSpecF
import Derived.Laws.BytesArg
namespace Go.Proofs.YtmgheeldoadnhaaDoor
open Go.RowKit

theorem cat_arr (a b : List UInt8) : (⟨a.toArray⟩ : ByteArray) ++ (⟨b.toArray⟩ : ByteArray) = ⟨(a ++ b).toArray⟩ := by
  apply ByteArray.ext
  rw [ByteArray.data_append]
  simp

theorem digit_strOf (u : Nat) (hu : u < 10) : strOfNums [48 + (u : Int)] = ⟨(Lib.decDigits u).toArray⟩ := by
  rw [Lib.decDigits, dif_pos hu]
  unfold strOfNums
  have e : (48 + (u : Int)).toNat = 48 + u := by omega
  simp [e]

set_option maxRecDepth 100000 in
set_option maxHeartbeats 1000000 in
theorem digit_any (u : Nat) (w : World) (hu : u < 10) :
    Calls Tryd.prog 42 #[.int .i64 u] w fun e w' => e = .returned (.string ⟨(Lib.decDigits u).toArray⟩) ∧ Below w.heap.size w w' := by
  have hc := run_convert_bytes_arg (P := Tryd.prog) (w.alloc (.cells #[.int .u8 (48 + (u : Int))] 5)) 62 5 (by kernel_rfl) (by kernel_rfl) w.heap.size 0 1 1 [48 + (u : Int)] rfl
    (by
      intro i hi
      obtain rfl : i = 0 := by omega
      rw [World.cell?_alloc_at _ _ _ _ rfl]; rfl) 9 (by kernel_rfl)
  rw [digit_strOf u hu] at hc
  go_enter Tryd.func42, Tryd.ntmps42
  go_wp2_with fail
  go_ret
  exact ⟨rfl, (Below.refl _ _).alloc (Nat.le_refl _) _⟩

set_option maxRecDepth 100000 in
set_option maxHeartbeats 1000000 in
theorem digits_nat (f : Nat) : ∀ (u : Nat) (w : World), u ≤ f → u < 10000000 →
    Calls Tryd.prog 42 #[.int .i64 u] w fun e w' => e = .returned (.string ⟨(Lib.decDigits u).toArray⟩) ∧ Below w.heap.size w w' := by
  induction f with
  | zero => intro u w h _; exact digit_any u w (by omega)
  | succ f ih =>
    intro u w h hu
    by_cases hs : u < 10
    · exact digit_any u w hs
    · have h1 := ih (u / 10) w (by omega) (by omega)
      have h2 := fun w => digit_any (u % 10) w (by omega)
      rw [show ((u / 10 : Nat) : Int) = (u : Int) / 10 by omega] at h1
      rw [show ((u % 10 : Nat) : Int) = (u : Int) % 10 by omega] at h2
      have hd : Lib.decDigits u = Lib.decDigits (u / 10) ++ Lib.decDigits (u % 10) := by
        rw [Lib.decDigits, dif_neg hs]
        congr 1
        rw [Lib.decDigits, dif_pos (by omega)]
      have l1 := Isa.decDigits_len 6 (u / 10) (by show _ < 10 ^ 7; have : (10 : Nat) ^ 7 = 10000000 := by decide
                                                  omega)
      have l2 := Isa.decDigits_len 6 (u % 10) (by show _ < 10 ^ 7; have : (10 : Nat) ^ 7 = 10000000 := by decide
                                                  omega)
      obtain ⟨A, hA⟩ : ∃ A, A = Lib.decDigits (u / 10) := ⟨_, rfl⟩
      obtain ⟨B, hB⟩ : ∃ B, B = Lib.decDigits (u % 10) := ⟨_, rfl⟩
      rw [← hA] at h1 hd l1
      rw [← hB] at hd l2 h2
      have HH := Lib.hid (And.intro h1 h2)
      rw [hd, ← cat_arr]
      clear h1 h2 hd hA hB ih
      go_enter Tryd.func42, Tryd.ntmps42
      go_wp2_with fail
      refine HH.out.1.mono ?_
      rintro e w1 ⟨rfl, b1⟩
      go_wp2_with fail
      refine (HH.out.2 _).mono ?_
      rintro e w2 ⟨rfl, b2⟩
      go_wp2_with fail
      go_ret
      exact ⟨rfl, b1.trans (b2.mono b1.size)⟩

theorem itoa_neg (m : Nat) (hm : 0 < m) : Lib.itoa (-(m : Int)) = 45 :: Lib.decDigits m := by
  unfold Lib.itoa
  rw [if_pos (by omega)]
  congr 2
  omega
set_option maxRecDepth 100000 in
set_option maxHeartbeats 1000000 in
theorem digits_neg (f : Nat) : ∀ (m : Nat) (w : World), m ≤ f → 0 < m → m < 10000000 →
    Calls Tryd.prog 42 #[.int .i64 (-(m : Int))] w fun e w' => e = .returned (.string ⟨(45 :: Lib.decDigits m).toArray⟩) ∧ Below w.heap.size w w' := by
  induction f with
  | zero => intro m w h h0; omega
  | succ f ih =>
    intro m w h h0 hm
    by_cases hs : m < 10
    · have h2 := fun w => digit_any m w hs
      have l2 := Isa.decDigits_len 6 m (by show _ < 10 ^ 7; have : (10 : Nat) ^ 7 = 10000000 := by decide
                                           omega)
      obtain ⟨B, hB⟩ : ∃ B, B = Lib.decDigits m := ⟨_, rfl⟩
      rw [← hB] at l2 h2 ⊢
      have HH := Lib.hid h2
      rw [show (45 :: B) = [45] ++ B from rfl, ← cat_arr]
      clear h2 hB ih
      go_enter Tryd.func42, Tryd.ntmps42
      go_wp2_with fail
      refine (HH.out _).mono ?_
      rintro e w2 ⟨rfl, b2⟩
      go_wp2_with fail
      go_ret
      exact ⟨rfl, b2⟩
    · have h1 := ih (m / 10) w (by omega) (by omega) (by omega)
      have h2 := fun w => digit_any (m % 10) w (by omega)
      rw [show ((m / 10 : Nat) : Int) = (m : Int) / 10 by omega] at h1
      rw [show ((m % 10 : Nat) : Int) = (m : Int) % 10 by omega] at h2
      have hd : Lib.decDigits m = Lib.decDigits (m / 10) ++ Lib.decDigits (m % 10) := by
        rw [Lib.decDigits, dif_neg hs]
        congr 1
        rw [Lib.decDigits, dif_pos (by omega)]
      have l1 := Isa.decDigits_len 6 (m / 10) (by show _ < 10 ^ 7; have : (10 : Nat) ^ 7 = 10000000 := by decide
                                                  omega)
      have l2 := Isa.decDigits_len 6 (m % 10) (by show _ < 10 ^ 7; have : (10 : Nat) ^ 7 = 10000000 := by decide
                                                  omega)
      obtain ⟨A, hA⟩ : ∃ A, A = Lib.decDigits (m / 10) := ⟨_, rfl⟩
      obtain ⟨B, hB⟩ : ∃ B, B = Lib.decDigits (m % 10) := ⟨_, rfl⟩
      rw [← hA] at h1 hd l1
      rw [← hB] at hd l2 h2
      have hl : (45 :: A : List UInt8).length ≤ 8 := by simp; omega
      obtain ⟨C, hC⟩ : ∃ C, C = (45 :: A : List UInt8) := ⟨_, rfl⟩
      rw [← hC] at h1 hl
      have HH := Lib.hid (And.intro h1 h2)
      rw [hd, show (45 :: (A ++ B)) = (45 :: A) ++ B from rfl, ← hC, ← cat_arr]
      clear h1 h2 hd hA hB hC ih
      go_enter Tryd.func42, Tryd.ntmps42
      go_wp2_with fail
      refine HH.out.1.mono ?_
      rintro e w1 ⟨rfl, b1⟩
      go_wp2_with fail
      refine (HH.out.2 _).mono ?_
      rintro e w2 ⟨rfl, b2⟩
      go_wp2_with fail
      go_ret
      exact ⟨rfl, b1.trans (b2.mono b1.size)⟩

theorem digits_any (n : Int) (w : World) (h0 : -9999999 ≤ n) (h1 : n ≤ 9999999) :
    Calls Tryd.prog 42 #[.int .i64 n] w fun e w' => e = .returned (.string ⟨(Lib.itoa n).toArray⟩) ∧ Below w.heap.size w w' := by
  by_cases hn : n < 0
  · have := digits_neg (-n).toNat (-n).toNat w (Nat.le_refl _) (by omega) (by omega)
    rw [← itoa_neg _ (by omega), show -(((-n).toNat : Nat) : Int) = n by omega] at this
    exact this
  · have := digits_nat n.toNat n.toNat w (Nat.le_refl _) (by omega)
    rw [show ((n.toNat : Nat) : Int) = n by omega] at this
    unfold Lib.itoa
    rw [if_neg hn]
    exact this
end Go.Proofs.YtmgheeldoadnhaaDoor
