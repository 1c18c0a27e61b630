/- Contracts: the document's bits of a number. Conditions: the row is the call's own. -/
import Derived.Test.YtbplmbignalbgaaDoorIsaRe
import Derived.Test.YtbplmbignalbgaaDoorIsaSh
namespace Go.Proofs.YtbplmbignalbgaaDoor
open Go.RowKit

def u8L (l : List Int) : List Value := l.map (Value.int .u8)

theorem info5 : (Tryd.prog.info? 5).map (fun i => (i.zero, i.size, i.bytes)) = some (some (.int .u8 0), 1, 1) := by kernel_rfl
theorem under62 : Tryd.prog.underlying 58 = some (.slice 5) := by kernel_rfl

theorem bit_and (n : Int) : bits .and .i64 n 1 = n % 2 := by
  have h1 : (BitVec.ofInt 64 1).toNat = 2 ^ 1 - 1 := by decide
  have key : (BitVec.ofInt 64 n &&& BitVec.ofInt 64 1).toNat = (n % ((2 ^ 64 : Nat) : Int)).toNat % 2 ^ 1 := by
    rw [BitVec.toNat_and, BitVec.toNat_ofInt, h1, Nat.and_two_pow_sub_one_eq_mod]
  show IntKind.i64.wrap ((BitVec.ofInt 64 n &&& BitVec.ofInt 64 1).toNat : Nat) = n % 2
  rw [key, IntKind.wrap_i64]
  omega
theorem bit_u8 (n : Int) : bits .and .i64 n 1 % 256 = n % 2 := by rw [bit_and]; omega
theorem info5_of : ∃ i, Tryd.prog.info? 5 = some i ∧ i.zero = some (.int .u8 0) ∧ i.size = 1 ∧ i.bytes = 1 := by
  have h := info5
  cases hq : Tryd.prog.info? 5 with
  | none => rw [hq] at h; simp at h
  | some i => rw [hq] at h; simp at h; exact ⟨i, rfl, h.1, h.2.1, h.2.2⟩

set_option maxRecDepth 100000 in
set_option maxHeartbeats 1000000 in
theorem lay_any (base : Nat) (v : Value) (c : Nat) (xs : List Int) (n : Int) (m : Nat) (w : World) (hm : m ≤ 26) (hc : c ≤ 64) (hb : base ≤ w.heap.size)
    (hown : w.ownsRow base 5 1 v c (u8L xs)) :
    Calls Tryd.prog 67 #[v, .int .i64 n, .int .i64 m] w fun e w' => ∃ v', e = .returned v' ∧ w'.ownsRow base 5 1 v' (c + m) (u8L (xs ++ bitsD n m m)) ∧ Below base w w' := by
  obtain ⟨i0, hi, hz0, hz1, hz2⟩ := info5_of
  have HO := Lib.hid hown
  clear hown
  go_enter Tryd.func67, Tryd.ntmps67
  go_wp2_with fail
  go_loopw [0, 7] (fun u i wr => ∃ k : Nat, k ≤ m ∧ i = .int .i64 ((m : Int) - 1 - k) ∧ wr.ownsRow base 5 1 u (c + k) (u8L (xs ++ bitsD n m k)) ∧ Below base w wr)
    (fun _ i _ => (intOf i + 1).toNat)
  case atStart => exact ⟨0, Nat.zero_le _, by go_num, by simpa [bitsD] using HO.out, Below.refl _ _⟩
  case round =>
    obtain ⟨k, hk, rfl, hown, hnx⟩ := hrel
    have HN := Lib.hid (And.intro hown hnx)
    clear hown hnx
    by_cases hlt : k < m
    · go_wp2_with (first
        | (at_builtin; refine wpList_append_own _ rfl _ _ 58 rfl base 5 i0 (.int .u8 0) 1 1 under62 hi hz0 hz1 hz2 rfl (by decide) _ _ _ rfl (HN.out.1.alloc _) ⟨wr.heap.size, 0, none⟩ 1 1 [.int .u8 (bits .and .i64 (n / (2 : Int) ^ (m - 1 - k)) 1 % 256)] rfl rfl ?c1 ?c2 ?c3 ?c4 ?c5 ?_)
        | fail)
      case c1 =>
        intro j u hj
        match j, hj with
        | 0, hj => simp at hj; subst hj; simp [Addr.add]
      case c2 => intro u hu; simp at hu; subst hu; rfl
      case c3 => unfold maxLen; omega
      case c4 => omega
      case c5 => have := HN.out.2.size; simp; omega
      · intro v' w1 hown' hgrow _
        have hs := HN.out.2.size
        have hnx' : Below base w w1 := (HN.out.2.alloc (by omega) (.cells #[.int .u8 (bits .and .i64 (n / (2 : Int) ^ (m - 1 - k)) 1 % 256)] 5)).grown hgrow (by simp; omega) (fun j hj => (HN.out.1.lt j hj).1)
        have H1 := Lib.hid (And.intro hown' hnx')
        clear hown' hnx' hgrow hs
        go_wp2_with fail
        go_roundw
        case rel =>
          refine ⟨k + 1, by omega, by go_num, ?_, H1.out.2⟩
          have := H1.out.1
          rw [bit_u8] at this
          rw [bitsD_succ, ← List.append_assoc]
          unfold u8L at this ⊢
          rw [List.map_append]
          exact this
        case measure => simp [intOf]; omega
    · have hkm : k = m := by omega
      subst hkm
      go_wp2_with fail
      go_ret
      exact ⟨_, rfl, HN.out.1, HN.out.2⟩
end Go.Proofs.YtbplmbignalbgaaDoor
