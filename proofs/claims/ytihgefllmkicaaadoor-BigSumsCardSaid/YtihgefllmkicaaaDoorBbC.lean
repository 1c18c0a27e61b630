/- Contracts: the program's numbers, so long each. Conditions: the digits lie as told; the table lies. -/
import Derived.Test.YtihgefllmkicaaaDoorBbB
import Derived.Test.YtihgefllmkicaaaDoorBgR
import Derived.Test.YtihgefllmkicaaaDoorBgS
import Derived.Test.YtihgefllmkicaaaDoorBgT
import Derived.Test.YtihgefllmkicaaaDoorBgU
import Derived.Test.YtihgefllmkicaaaDoorBgV
import Derived.Test.YtihgefllmkicaaaDoorBgW
namespace Go.Proofs.YtihgefllmkicaaaDoor
open Go.RowKit Bg
set_option linter.unusedVariables false
set_option linter.unusedSimpArgs false


/-- A number that lies, of so many digits at most. -/
structure Nu (n : Nat) (w : World) (s : Bool) (p : Option Addr) (c : Nat) (D : List Int) (x : Int) : Prop extends Nm w s p c D x where
  len : D.length ≤ n
theorem Nu.below {n : Nat} {w w' : World} {s : Bool} {p : Option Addr} {c : Nat} {D : List Int} {x : Int} (h : Nu n w s p c D x) (hb : Below w.heap.size w w') : Nu n w' s p c D x := ⟨h.toNm.below hb, h.len⟩
def Bnd (n : Nat) (x : Int) : Prop := x < 65536 ^ n ∧ -(65536 ^ n) < x
theorem Nu.bnd {n : Nat} {w : World} {s : Bool} {p : Option Addr} {c : Nat} {D : List Int} {x : Int} (h : Nu n w s p c D x) : Bnd n x := by
  have h0 := val_nonneg (show (0 : Int) ≤ 65536 by decide) h.dig
  have h1 := val_lt (show (0 : Int) < 65536 by decide) h.dig
  have h2 := pow_le (show (1 : Int) ≤ 65536 by decide) h.len
  rw [← h.val]
  unfold nv Bnd
  split <;> omega
theorem Bnd.add {n : Nat} {x y : Int} (h : Bnd n x) (k : Bnd n y) : Bnd (n + 1) (x + y) := by
  unfold Bnd at *
  rw [Int.pow_succ]
  omega
theorem Bnd.sub {n : Nat} {x y : Int} (h : Bnd n x) (k : Bnd n y) : Bnd (n + 1) (x - y) := by
  unfold Bnd at *
  rw [Int.pow_succ]
  omega
theorem Bnd.neg {n : Nat} {x : Int} (h : Bnd n x) : Bnd n (-x) := by
  unfold Bnd at *
  omega
theorem bnd_abs {n : Nat} {x : Int} : Bnd n x ↔ ((x.natAbs : Int) < 65536 ^ n) := by
  unfold Bnd
  omega
theorem Bnd.mul {n m : Nat} {x y : Int} (h : Bnd n x) (k : Bnd m y) : Bnd (n + m) (x * y) := by
  rw [bnd_abs] at *
  rw [Int.natAbs_mul, Int.pow_add, Int.natCast_mul]
  have h1 : (x.natAbs : Int) * y.natAbs ≤ x.natAbs * 65536 ^ m := Int.mul_le_mul_of_nonneg_left (Int.le_of_lt k) (by omega)
  have h2 : (x.natAbs : Int) * 65536 ^ m < 65536 ^ n * 65536 ^ m := Int.mul_lt_mul_of_pos_right h (Int.pow_pos (by decide))
  omega
theorem Bnd.le {n : Nat} {x y : Int} (h : Bnd n x) (k : y.natAbs ≤ x.natAbs) : Bnd n y := by
  rw [bnd_abs] at *
  omega
/-- What comes back is a number. -/
def Gives (n B : Nat) (w : World) (e : Ending) (x : Int) : Prop := ∃ s p c D, e = .returned (.agg #[.bool s, .slice p D.length c]) ∧ Nu n w s p c D x ∧ Bg.Can 65536 s D ∧ Own 52 .u16 B w (.slice p D.length c) D
theorem gives_of {n B : Nat} {w : World} {v : Value} {x : Int} (h : IsNum B w v x) (hb : Bnd n x) : ∃ s p c D, v = .agg #[.bool s, .slice p D.length c] ∧ Nu n w s p c D x ∧ Bg.Can 65536 s D ∧ Own 52 .u16 B w (.slice p D.length c) D := by
  obtain ⟨s, sv, D, rfl, oD, cD, vD⟩ := h
  obtain ⟨p, c, rfl, a, -⟩ := oD.arg
  exact ⟨s, p, c, D, rfl, ⟨⟨a, cD.dig, vD⟩, cD.len (by rw [vD]; exact hb)⟩, cD, oD⟩
theorem gives {n B : Nat} {w : World} {e : Ending} {x : Int} (h : ∃ v, e = .returned v ∧ IsNum B w v x) (hb : Bnd n x) : Gives n B w e x := by
  obtain ⟨v, rfl, hn⟩ := h
  obtain ⟨s, p, c, D, rfl, h1, h2, h3⟩ := gives_of hn hb
  exact ⟨s, p, c, D, rfl, h1, h2, h3⟩
section
variable {w : World} {p p' : Option Addr} {c c' : Nat} {l l' : List Int} {s s' : Bool} {x y : Int} {n m : Nat}
theorem add_nu (h : Nu n w s p c l x) (k : Nu n w s' p' c' l' y) (hn : n ≤ 100000) :
    Calls Tryd.prog 24 #[.agg #[.bool s, .slice p l.length c], .agg #[.bool s', .slice p' l'.length c']] w fun e w' => Gives (n + 1) w.heap.size w' e (x + y) ∧ Below w.heap.size w w' := by
  refine (bigAdd_at h.arg k.arg h.dig k.dig (by have := h.len; omega) (by have := k.len; omega)).mono ?_
  rintro e w' ⟨v, he, hv, hb⟩
  rw [h.val, k.val] at hv
  exact ⟨gives ⟨v, he, hv⟩ (h.bnd.add k.bnd), hb⟩
theorem sub_nu (h : Nu n w s p c l x) (k : Nu n w s' p' c' l' y) (hn : n ≤ 100000) :
    Calls Tryd.prog 25 #[.agg #[.bool s, .slice p l.length c], .agg #[.bool s', .slice p' l'.length c']] w fun e w' => Gives (n + 1) w.heap.size w' e (x - y) ∧ Below w.heap.size w w' := by
  refine (sub_at h.arg k.arg h.dig k.dig (by have := h.len; omega) (by have := k.len; omega)).mono ?_
  rintro e w' ⟨v, he, hv, hb⟩
  rw [h.val, k.val] at hv
  exact ⟨gives ⟨v, he, hv⟩ (h.bnd.sub k.bnd), hb⟩
theorem mul_nu (h : Nu n w s p c l x) (k : Nu m w s' p' c' l' y) (hn : n ≤ 100000) (hm : m ≤ 100000) :
    Calls Tryd.prog 26 #[.agg #[.bool s, .slice p l.length c], .agg #[.bool s', .slice p' l'.length c']] w fun e w' => Gives (n + m) w.heap.size w' e (x * y) ∧ Below w.heap.size w w' := by
  refine (mul_at h.arg k.arg h.dig k.dig (by have := h.len; omega) (by have := k.len; omega)).mono ?_
  rintro e w' ⟨v, he, hv, hb⟩
  rw [h.val, k.val] at hv
  exact ⟨gives ⟨v, he, hv⟩ (h.bnd.mul k.bnd), hb⟩
theorem cmp_nu (h : Nu n w s p c l x) (k : Nu m w s' p' c' l' y) (hn : n ≤ 100000) (hm : m ≤ 100000) :
    Calls Tryd.prog 27 #[.agg #[.bool s, .slice p l.length c], .agg #[.bool s', .slice p' l'.length c']] w fun e w' => e = .returned (.int .i64 (sgn x y)) ∧ Below w.heap.size w w' := by
  refine (cmp_at h.arg k.arg h.dig k.dig (by have := h.len; omega) (by have := k.len; omega)).mono ?_
  rintro e w' ⟨he, hb⟩
  rw [h.val, k.val] at he
  exact ⟨he, hb⟩
theorem tidy_nu (h : Nu n w s p c l x) (hn : n ≤ 100000) :
    Calls Tryd.prog 14 #[.agg #[.bool s, .slice p l.length c]] w fun e w' => Gives n w.heap.size w' e x ∧ Below w.heap.size w w' := by
  refine (tidy_at s h.arg h.dig (by have := h.len; omega)).mono ?_
  rintro e w' ⟨v, he, hv, hb⟩
  rw [h.val] at hv
  exact ⟨gives ⟨v, he, hv⟩ h.bnd, hb⟩
theorem positive_nu (h : Nu n w s p c l x) (hn : n ≤ 100000) :
    Calls Tryd.prog 38 #[.agg #[.bool s, .slice p l.length c]] w fun e w' => Gives n w.heap.size w' e (if s = true then -x else x) ∧ Below w.heap.size w w' := by
  refine (positive_at h.toNm (by have := h.len; omega)).mono ?_
  rintro e w' ⟨v, he, hv, hb⟩
  refine ⟨gives ⟨v, he, hv⟩ ?_, hb⟩
  split
  · exact h.bnd.neg
  · exact h.bnd
theorem small_nu (h : Nu n w s p c l x) (hn : n ≤ 100000) :
    Calls Tryd.prog 17 #[.agg #[.bool s, .slice p l.length c]] w fun e w' => e = .returned (.tuple #[.int .i64 (clip64 x), .bool (small64 x)]) ∧ Below w.heap.size w w' := by
  refine (small_at s h.arg h.dig (by have := h.len; omega)).mono ?_
  rintro e w' ⟨he, hb⟩
  rw [h.val] at he
  exact ⟨he, hb⟩
theorem fix_nu (h : Nu n w s p c l x) (hn : n ≤ 100000) :
    Calls Tryd.prog 19 #[.agg #[.bool s, .slice p l.length c]] w fun e w' => e = .returned (.tuple #[.int .i64 (clipFix x), .bool (isFix x)]) ∧ Below w.heap.size w w' := by
  refine (fix_at s h.arg h.dig (by have := h.len; omega)).mono ?_
  rintro e w' ⟨he, hb⟩
  rw [h.val] at he
  exact ⟨he, hb⟩
theorem text_nu (h : Nu n w s p c l x) (hn : n ≤ 300) (ht : Tab w) :
    Calls Tryd.prog 15 #[.agg #[.bool s, .slice p l.length c]] w fun e w' => e = .returned (.string ⟨(txt x).toArray⟩) ∧ Below w.heap.size w w' := by
  refine (text_at s h.arg h.dig (by have := h.len; omega) ht).mono ?_
  rintro e w' ⟨he, hb⟩
  rw [h.val] at he
  exact ⟨he, hb⟩
theorem is_nu (h : Nu n w s p c l x) (hn : n ≤ 300) (ht : Tab w) (t : ByteArray) :
    Calls Tryd.prog 35 #[.agg #[.bool s, .slice p l.length c], .string t] w fun e w' => e = .returned (.bool (decide (txt x = t.data.toList))) ∧ Below w.heap.size w w' :=
  is_at h.toNm (by have := h.len; omega) ht t
theorem is_true (h : Nu n w s p c l x) (hn : n ≤ 300) (ht : Tab w) (t : ByteArray) (hx : txt x = t.data.toList) :
    Calls Tryd.prog 35 #[.agg #[.bool s, .slice p l.length c], .string t] w fun e w' => e = .returned (.bool true) ∧ Below w.heap.size w w' := by
  have := is_nu h hn ht t
  rw [decide_eq_true hx] at this
  exact this
theorem num_nu {t : ByteArray} {x : Int} (hs : t.size ≤ 300) (hd : isDec (pBody t) = true) (hv : pVal t = x) (n : Nat) (hb : Bnd n x) (w : World) :
    Calls Tryd.prog 34 #[.string t] w fun e w' => Gives n w.heap.size w' e x ∧ Below w.heap.size w w' := by
  refine (num_good hs hd hv w).mono ?_
  rintro e w' ⟨v, he, hv, hB⟩
  exact ⟨gives ⟨v, he, hv⟩ hb, hB⟩
/-- What Quo tells, and what it gives. -/
def Quos (n B : Nat) (w : World) (e : Ending) (x y : Int) : Prop := ∃ s p c D s' p' c' D', e = .returned (.tuple #[.agg #[.bool s, .slice p D.length c], .agg #[.bool s', .slice p' D'.length c'], .int .i64 0]) ∧ (Nu n w s p c D (x.tdiv y) ∧ Bg.Can 65536 s D ∧ Own 52 .u16 B w (.slice p D.length c) D) ∧ (Nu n w s' p' c' D' (x.tmod y) ∧ Bg.Can 65536 s' D' ∧ Own 52 .u16 B w (.slice p' D'.length c') D')
theorem quo_nu (h : Nu n w s p c l x) (k : Nu m w s' p' c' l' y) (hn : n ≤ 100000) (hm : m ≤ 100000) (hy : y ≠ 0) :
    Calls Tryd.prog 32 #[.agg #[.bool s, .slice p l.length c], .agg #[.bool s', .slice p' l'.length c']] w fun e w' => Quos n w.heap.size w' e x y ∧ Below w.heap.size w w' := by
  refine (quo_at h.arg k.arg h.dig k.dig (by have := h.len; omega) (by have := k.len; omega)).mono ?_
  rintro e w' ⟨hq, hb⟩
  rw [h.val, k.val] at hq
  refine ⟨?_, hb⟩
  rcases hq with ⟨h0, -⟩ | ⟨-, vq, vr, rfl, hq, hr⟩
  · exact absurd h0 hy
  · obtain ⟨s1, p1, c1, D1, rfl, a1, b1, o1⟩ := gives_of hq (h.bnd.le (y := x.tdiv y) (by rw [Int.natAbs_tdiv]; exact Nat.div_le_self _ _))
    obtain ⟨s2, p2, c2, D2, rfl, a2, b2, o2⟩ := gives_of hr (h.bnd.le (y := x.tmod y) (by rw [Int.natAbs_tmod]; exact Nat.mod_le _ _))
    exact ⟨s1, p1, c1, D1, s2, p2, c2, D2, rfl, ⟨a1, b1, o1⟩, ⟨a2, b2, o2⟩⟩
theorem quo_zero (h : Nu n w s p c l x) (k : Nu m w s' p' c' l' 0) (hn : n ≤ 100000) (hm : m ≤ 100000) :
    Calls Tryd.prog 32 #[.agg #[.bool s, .slice p l.length c], .agg #[.bool s', .slice p' l'.length c']] w fun e w' => e = .returned (.tuple #[.agg #[.bool false, .slice none 0 0], .agg #[.bool false, .slice none 0 0], .int .i64 15]) ∧ Below w.heap.size w w' := by
  refine (quo_at h.arg k.arg h.dig k.dig (by have := h.len; omega) (by have := k.len; omega)).mono ?_
  rintro e w' ⟨hq, hb⟩
  rw [h.val, k.val] at hq
  rcases hq with ⟨-, he⟩ | ⟨h0, -⟩
  · exact ⟨he, hb⟩
  · exact absurd rfl h0
end
end Go.Proofs.YtihgefllmkicaaaDoor
