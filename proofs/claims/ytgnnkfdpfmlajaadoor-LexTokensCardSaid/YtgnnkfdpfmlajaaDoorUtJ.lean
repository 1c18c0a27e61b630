/- Contracts: the program's Get, and what a range over a string yields. Conditions: the tables of Go's library lie. -/
import Derived.Test.YtgnnkfdpfmlajaaDoorUtI
import Derived.Lib.Strings
import Derived.Laws.RangeString
import Derived.Laws.RangeAny
import Derived.Lib.OthersKept
namespace Go.Proofs.YtgnnkfdpfmlajaaDoor
open Go.RowKit Bg
set_option linter.unusedVariables false
set_option linter.unusedSimpArgs false


theorem get_str {l : List Int} (hb : Byts l) (i : Nat) : ((strOfNums l).get! i).toNat = (l.getD i 0).toNat := by
  have e : l.getD i 0 = (((strOfNums l).data.toList.map fun b => (b.toNat : Int)).getD i 0) := by
    conv => lhs; rw [← byL_str hb]
    rfl
  rw [e]
  have hd : (strOfNums l).data.toList.length = l.length := by rw [Array.length_toList]; exact str_size l
  rcases Nat.lt_or_ge i l.length with h | h
  · have h1 : i < (strOfNums l).data.size := by rw [← Array.length_toList, hd]; exact h
    have h2 : (strOfNums l).get! i = (strOfNums l).data[i] := getElem!_pos (strOfNums l).data i h1
    rw [h2, List.getD_eq_getElem?_getD, List.getElem?_map, List.getElem?_eq_getElem (by rw [hd]; exact h)]
    simp
  · have h1 : ¬ i < (strOfNums l).data.size := by rw [← Array.length_toList, hd]; omega
    have h2 : (strOfNums l).get! i = default := getElem!_neg (strOfNums l).data i h1
    rw [h2, List.getD_eq_getElem?_getD, List.getElem?_map, List.getElem?_eq_none (by rw [hd]; omega)]
    rfl
theorem decode_str {l : List Int} (hb : Byts l) (i : Nat) : Utf8.decode (strOfNums l) i = decZ (l.drop i) := by
  rw [Lib.decode_at, get_str hb, get_str hb, get_str hb, get_str hb, str_size]
  unfold decZ
  rw [List.length_drop]
  have e : ∀ k, (l.drop i).getD k 0 = l.getD (i + k) 0 := fun k => by
    rw [List.getD_eq_getElem?_getD, List.getD_eq_getElem?_getD, List.getElem?_drop]
  have e0 : (l.drop i).getD 0 0 = l.getD i 0 := e 0
  rw [e0, e, e, e]
theorem decodeGo_str {l : List Int} (hb : Byts l) (h0 : l ≠ []) : Lib.decodeGo (strOfNums l) = decZ l := by
  unfold Lib.decodeGo
  rw [str_size, if_neg (fun h => h0 (List.length_eq_zero_iff.1 h)), decode_str hb, List.drop_zero]
theorem chr_dec {l : List Int} (h0 : l ≠ []) : (chr l = none ∧ (decZ l).1 = 65533 ∧ (decZ l).2 = 1) ∨ (chr l = some (((decZ l).1 : Int), (decZ l).2) ∧ ¬ ((decZ l).1 = 65533 ∧ (decZ l).2 = 1)) := by
  unfold chr
  rw [if_neg h0]
  by_cases h : (decZ l).1 = 65533 ∧ (decZ l).2 = 1
  · rw [if_pos h]; exact Or.inl ⟨rfl, h⟩
  · rw [if_neg h]; exact Or.inr ⟨rfl, h⟩
/-- The library's tables lie. -/
def Tab (w : World) : Prop := (1 < w.heap.size ∧ 2 < w.heap.size) ∧ Lib.Utf8Tabs 1 2 w
theorem Tab.below {w w' : World} (h : Tab w) (hb : Below w.heap.size w w') : Tab w' := by
  have hs := h.1
  refine ⟨⟨by have := hb.size; omega, by have := hb.size; omega⟩, fun c hc => ?_, fun i hi => ⟨?_, ?_⟩⟩
  · rw [hb.cell (p := ⟨1, c, none⟩) (by show 1 < w.heap.size; omega)]; exact h.2.1 c hc
  · rw [hb.cell (p := ⟨2, 2 * i, none⟩) (by show 2 < w.heap.size; omega)]; exact (h.2.2 i hi).1
  · rw [hb.cell (p := ⟨2, 2 * i + 1, none⟩) (by show 2 < w.heap.size; omega)]; exact (h.2.2 i hi).2
set_option maxRecDepth 100000 in
set_option maxHeartbeats 20000000 in
theorem get_at {w : World} {p : Option Addr} {c : Nat} {l : List Int} (a : Arg .u8 w p c l) (hb : Byts l) (hl : l.length ≤ 1000000) (ht : Tab w) (k : Int) :
    Calls Tryd.prog 58 #[.slice p l.length c, .int .i64 k] w fun e w' => e = .returned (.tuple #[.int .i64 (gC l k), .int .i64 (gN l k), .int .i64 (gE l k)]) ∧ Below w.heap.size w w' := by
  by_cases hk : 0 ≤ k ∧ k < l.length
  · obtain ⟨k, rfl⟩ := Int.eq_ofNat_of_zero_le hk.1
    have hkl : k < l.length := by omega
    obtain ⟨b, off, rfl, hc⟩ := a.at (by omega)
    have hle := a.le
    have hmx := a.max
    obtain ⟨R, hR⟩ : ∃ R, R = l.drop k := ⟨_, rfl⟩
    have hRl : R.length = l.length - k := by rw [hR, List.length_drop]
    have hRb : Byts R := by rw [hR]; exact hb.drop k
    have hR0 : R ≠ [] := fun h => by rw [h] at hRl; simp at hRl; omega
    have T := Tryd.utf8_DecodeRune (strOfNums R) b (off + k) (c - k) w ht.2 (fun j hj => by
      rw [str_size] at hj
      have e := get_str hRb j
      have h1 := hc (k + j) (by omega)
      rw [Nat.add_assoc, h1]
      have h2 : R.getD j 0 = l.getD (k + j) 0 := by rw [hR, List.getD_eq_getElem?_getD, List.getD_eq_getElem?_getD, List.getElem?_drop]
      rw [← h2]
      have h3 := hRb.getD j
      congr 2
      omega)
    rw [decodeGo_str hRb hR0, str_size, hRl] at T
    have hch := chr_dec hR0
    have hbd : ((decZ R).1 : Int) ≤ 1114111 := by
      rcases hch with h | h
      · omega
      · have := isC_iff.1 (chr_some hRb h.1).1
        omega
    obtain ⟨r, hr⟩ : ∃ r, r = (decZ R).1 := ⟨_, rfl⟩
    obtain ⟨n, hn⟩ : ∃ n, n = (decZ R).2 := ⟨_, rfl⟩
    rw [← hr] at T hch hbd
    rw [← hn] at T hch
    have d1 : decide ((k : Int) < 0) = false := by rw [decide_eq_false_iff_not]; omega
    have d2 : decide ((l.length : Int) ≤ (k : Int)) = false := by rw [decide_eq_false_iff_not]; omega
    have f1 : ¬ (k : Int) < 0 := by omega
    have f2 : ¬ (l.length : Int) ≤ (k : Int) := by omega
    have f3 : (k : Int) < (l.length : Int) := by omega
    have f4 : (k : Int) ≤ (l.length : Int) := by omega
    have f5 : ¬ c = k := by omega
    replace T := Lib.hid T
    have hg0 : (chr R = none → gC l k = 0 ∧ gN l k = 0 ∧ gE l k = 4) := fun h => g_none hkl (by rw [← hR]; exact h)
    have hg1 : ∀ c n, chr R = some (c, n) → gC l k = c ∧ gN l k = n ∧ gE l k = 0 := fun c n h => g_some hkl (by rw [← hR]; exact h)
    obtain ⟨L, hL⟩ : ∃ L, L = l.length := ⟨_, rfl⟩
    rw [← hL] at hl hkl hle d2 f2 f3 f4 hk T ⊢
    obtain ⟨vC, hC⟩ : ∃ v, v = gC l k := ⟨_, rfl⟩
    obtain ⟨vN, hN⟩ : ∃ v, v = gN l k := ⟨_, rfl⟩
    obtain ⟨vE, hE⟩ : ∃ v, v = gE l k := ⟨_, rfl⟩
    rw [← hC, ← hN, ← hE] at hg0 hg1 ⊢
    clear a hb ht hc hR hRl hRb hR0 hL hC hN hE hr hn
    rcases hch with ⟨h1, rfl, rfl⟩ | ⟨h1, h2⟩
    · obtain ⟨rfl, rfl, rfl⟩ := hg0 h1
      clear hg0 hg1 h1
      go_enter Tryd.func58, Tryd.ntmps58
      go_wp2_with (go_at_call 67; refine T.out.mono ?_; rintro e w' ⟨rfl, BB⟩; replace BB := Lib.hid BB)
      all_goals (go_ret3; exact ⟨rfl, BB.out⟩)
    · obtain ⟨rfl, rfl, rfl⟩ := hg1 _ _ h1
      clear hg0 hg1 h1
      by_cases hr : r = 65533
      · have hn : ¬ n = 1 := fun h => h2 ⟨hr, h⟩
        have e1 : ((r : Int) == 65533) = true := by rw [beq_iff_eq]; omega
        have e2 : ((n : Int) == 1) = false := by rw [beq_eq_false_iff_ne]; omega
        have e3 : (r : Int) = 65533 := by omega
        have e4 : ¬ (n : Int) = 1 := by omega
        clear h2
        go_enter Tryd.func58, Tryd.ntmps58
        go_wp2_with (go_at_call 67; refine T.out.mono ?_; rintro e w' ⟨rfl, BB⟩; replace BB := Lib.hid BB)
        all_goals (go_ret3; rw [e3]; exact ⟨rfl, BB.out⟩)
      · have e1 : ((r : Int) == 65533) = false := by rw [beq_eq_false_iff_ne]; omega
        have e3 : ¬ (r : Int) = 65533 := by omega
        clear h2
        go_enter Tryd.func58, Tryd.ntmps58
        go_wp2_with (go_at_call 67; refine T.out.mono ?_; rintro e w' ⟨rfl, BB⟩; replace BB := Lib.hid BB)
        all_goals (go_ret3; exact ⟨rfl, BB.out⟩)
  · obtain ⟨h1, h2, h3⟩ := g_out hk
    rw [h1, h2, h3]
    by_cases h0 : k < 0
    · have d1 : decide (k < 0) = true := by rw [decide_eq_true_eq]; omega
      go_enter Tryd.func58, Tryd.ntmps58
      go_wp2_with fail
      all_goals (go_ret3; exact ⟨rfl, Below.refl _ _⟩)
    · have d1 : decide (k < 0) = false := by rw [decide_eq_false_iff_not]; omega
      have d2 : decide ((l.length : Int) ≤ k) = true := by rw [decide_eq_true_eq]; omega
      have d3 : (l.length : Int) ≤ k := by omega
      go_enter Tryd.func58, Tryd.ntmps58
      go_wp2_with fail
      all_goals (go_ret3; exact ⟨rfl, Below.refl _ _⟩)
end Go.Proofs.YtgnnkfdpfmlajaaDoor
