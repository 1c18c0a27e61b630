/- Plain: the cells of new blocks of many cells. Conditions: none. -/
import Derived.Test.YtknnmacmohpanaaDoorMaC
namespace Go.Proofs.YtknnmacmohpanaaDoor
open Go.RowKit

def isW : Value → Bool
  | .int .u32 n => decide (n = 0)
  | _ => false
def isB : Value → Bool
  | .int .u8 n => decide (n = 0)
  | _ => false
theorem isW_eq {v : Value} (h : isW v = true) : v = .int .u32 0 := by
  unfold isW at h
  split at h
  · simp only [decide_eq_true_eq] at h; rw [h]
  · cases h
theorem isB_eq {v : Value} (h : isB v = true) : v = .int .u8 0 := by
  unfold isB at h
  split at h
  · simp only [decide_eq_true_eq] at h; rw [h]
  · cases h
def six : List Value → Bool
  | [] => true
  | a :: b :: c :: d :: e :: f :: r => isW a && (isW b && (isB c && (isB d && (isB e && (isB f && six r)))))
  | _ => false
def zsix (i : Nat) : Value := if i % 6 < 2 then .int .u32 0 else .int .u8 0
theorem six_get : ∀ (l : List Value), six l = true → ∀ i, i < l.length → l[i]? = some (zsix i)
  | [], _, i, hi => by simp at hi
  | [_], h, _, _ => by cases h
  | [_, _], h, _, _ => by cases h
  | [_, _, _], h, _, _ => by cases h
  | [_, _, _, _], h, _, _ => by cases h
  | [_, _, _, _, _], h, _, _ => by cases h
  | a :: b :: c :: d :: e :: f :: r, h, i, hi => by
    unfold six at h
    simp only [Bool.and_eq_true] at h
    obtain ⟨h0, h1, h2, h3, h4, h5, hr⟩ := h
    match i, hi with
    | 0, _ => rw [isW_eq h0]; rfl
    | 1, _ => rw [isW_eq h1]; rfl
    | 2, _ => rw [isB_eq h2]; rfl
    | 3, _ => rw [isB_eq h3]; rfl
    | 4, _ => rw [isB_eq h4]; rfl
    | 5, _ => rw [isB_eq h5]; rfl
    | j + 6, hj =>
      have := six_get r hr j (by simpa using hj)
      simp only [List.getElem?_cons_succ, this]
      unfold zsix
      rw [Nat.add_mod_right]
theorem six117 : six Tryd.zeroCells117.toList = true := by kernel_rfl
theorem zero117 : Tryd.zeroCells117 = cellsF 6144 (fun i => icell ((fun _ : Nat => (0 : Int)) (i / 6)) (i % 6)) := by
  have hs : Tryd.zeroCells117.size = 6144 := Tryd.zeroCells117_size
  apply Array.ext_getElem?
  intro i
  by_cases hi : i < 6144
  · rw [cellsF_get hi]
    have := six_get _ six117 i (by simpa [hs] using hi)
    rw [← Array.getElem?_toList, this]
    unfold zsix icell
    have hd : Isa.dOk 0 = false := by decide
    rw [hd]
    have hm := Nat.mod_lt i (show 0 < 6 by decide)
    by_cases h0 : i % 6 = 0
    · rw [if_pos (by omega), if_pos h0]
    · rw [if_neg h0, if_pos rfl]
      by_cases h1 : i % 6 = 1
      · rw [if_pos (by omega), if_pos h1]
      · rw [if_neg (by omega), if_neg h1]
  · rw [Array.getElem?_eq_none (by omega), Array.getElem?_eq_none (by rw [cellsF_size]; omega)]
set_option maxRecDepth 100000 in
theorem zero109 (l : Lay) (m : MS) (hm : ∀ i, m.mem i = 0) (hl : l.ip = none) : Tryd.zeroCells109 = cellsF 1025 (pcell l m) := by
  have h : Tryd.zeroCells109 = cellsF 1025 (fun i => if i < 1024 then .int .u32 0 else .pointer none) := by kernel_rfl
  rw [h]
  refine cellsF_congr fun i _ => ?_
  unfold pcell
  rw [hm, hl]
  rfl
end Go.Proofs.YtknnmacmohpanaaDoor
