/- Plain arithmetic of an instruction's word. Conditions: none. -/
import Derived.Laws.BitsAllLaws
import Derived.Test.YtbplmbignalbgaaDoorIsaSa
namespace Go.Proofs.YtbplmbignalbgaaDoor
namespace Isa
open Go

theorem pow_le_26 {k : Nat} (h : k ≤ 26) : 2 ^ k ≤ 67108864 := by
  have := Nat.pow_le_pow_right (n := 2) (by decide) h
  simpa using this
theorem pow_le_32 {k : Nat} (h : k ≤ 32) : 2 ^ k ≤ 4294967296 := by
  have := Nat.pow_le_pow_right (n := 2) (by decide) h
  simpa using this

theorem mask (n : Int) (k : Nat) (h : k ≤ 26) : bits .and .u32 (n % 4294967296) (((2 : Int) ^ k - 1) % 4294967296) = n % (2 : Int) ^ k := by
  have h1 := pow_le_26 h
  have h0 : 0 < 2 ^ k := Nat.two_pow_pos k
  have e : ((2 : Int) ^ k - 1) % 4294967296 = ((2 ^ k - 1 : Nat) : Int) := by
    have e2 : (2 : Int) ^ k = ((2 ^ k : Nat) : Int) := by simp
    rw [e2]; omega
  rw [e, u32_and _ _ (by omega) (by omega) (by omega) (by omega)]
  have e3 : ((2 ^ k - 1 : Nat) : Int).toNat = 2 ^ k - 1 := by omega
  rw [e3, Nat.and_two_pow_sub_one_eq_mod, Int.natCast_emod]
  have e4 : (((n % 4294967296).toNat : Nat) : Int) = n % 4294967296 := by omega
  rw [e4]
  have e5 : ((2 ^ k : Nat) : Int) = (2 : Int) ^ k := by simp
  rw [e5]
  refine Int.emod_emod_of_dvd n ?_
  have : (4294967296 : Int) = 2 ^ k * 2 ^ (32 - k) := by
    rw [← Int.pow_add, show k + (32 - k) = 32 by omega]; rfl
  rw [this]
  exact Int.dvd_mul_right _ _

/-- A field laid behind the ones ahead. -/
theorem put_word (n v : Int) (k left : Nat) (h2 : k ≤ 26) (h3 : k ≤ left) (h4 : left ≤ 32) (v0 : 0 ≤ v) (v1 : v < 4294967296) (hv : v % (2 : Int) ^ left = 0) :
    bits .or .u32 v (bits .and .u32 (n % 4294967296) (((2 : Int) ^ k - 1) % 4294967296) * (2 : Int) ^ (left - k) % 4294967296) = v + n % (2 : Int) ^ k * (2 : Int) ^ (left - k) := by
  rw [mask n k h2]
  have p0 : 0 < 2 ^ k := Nat.two_pow_pos k
  have e2 : (2 : Int) ^ k = ((2 ^ k : Nat) : Int) := by simp
  have e3 : (2 : Int) ^ (left - k) = ((2 ^ (left - k) : Nat) : Int) := by simp
  have e4 : (2 : Int) ^ left = ((2 ^ left : Nat) : Int) := by simp
  obtain ⟨x, hx⟩ : ∃ x : Nat, n % (2 : Int) ^ k = x := ⟨(n % (2 : Int) ^ k).toNat, by rw [e2]; omega⟩
  have hxl : x < 2 ^ k := by rw [e2] at hx; omega
  obtain ⟨u, hu⟩ : ∃ u : Nat, v = u := ⟨v.toNat, by omega⟩
  have hl := pow_le_32 h4
  have hy : x * 2 ^ (left - k) < 2 ^ left := by
    calc x * 2 ^ (left - k) < 2 ^ k * 2 ^ (left - k) := Nat.mul_lt_mul_of_pos_right hxl (Nat.two_pow_pos _)
      _ = 2 ^ left := by rw [← Nat.pow_add]; congr 1; omega
  have hm : u % 2 ^ left = 0 := by rw [e4, hu] at hv; omega
  rw [hx, e3, hu]
  have e6 : ((x : Int) * ((2 ^ (left - k) : Nat) : Int)) % 4294967296 = ((x * 2 ^ (left - k) : Nat) : Int) := by
    rw [← Int.natCast_mul]
    omega
  rw [e6, u32_or _ _ (by omega) (by omega) (by omega) (by omega)]
  simp only [Int.toNat_natCast]
  rw [nat_join left u _ hm hy, Int.natCast_add, Int.natCast_mul]

/-- The word, by which registers there are. -/
def encW (s0 s1 s2 : Bool) (op d a b imm : Int) : Int :=
  match s0, s1, s2 with
  | true, true, true => op * 67108864 + d * 2097152 + a * 65536 + b * 2048 + imm % 2048
  | true, true, false => op * 67108864 + d * 2097152 + a * 65536 + imm % 65536
  | true, false, false => op * 67108864 + d * 2097152 + imm % 2097152
  | false, true, true => op * 67108864 + a * 2097152 + b * 65536 + imm % 65536
  | false, true, false => op * 67108864 + a * 2097152 + imm % 2097152
  | _, _, _ => 0
def word (op d a b imm : Int) : Int := encW (shape (form op) 0) (shape (form op) 1) (shape (form op) 2) op d a b imm
def enc (op d a b imm : Int) : Int := if ok op d a b imm then word op d a b imm else 0

end Isa
end Go.Proofs.YtbplmbignalbgaaDoor
