/- Contracts: which numbers are chars, and what is put. Conditions: none. -/
import Derived.Test.YtgnnkfdpfmlajaaDoorUtB
import Derived.Laws.Runes
import Derived.Laws.Strings3
namespace Go.Proofs.YtgnnkfdpfmlajaaDoor
open Go.RowKit Bg
set_option linter.unusedVariables false
set_option linter.unusedSimpArgs false


theorem is_at (c : Int) (w : World) : Calls Tryd.prog 79 #[.int .i64 c] w fun e w' => e = .returned (.bool (isC c)) ∧ w = w' := by
  go_enter Tryd.func79, Tryd.ntmps79
  go_wp2_with fail
  all_goals go_ret
  all_goals refine ⟨retB ?_, rfl⟩
  all_goals rw [Bool.eq_iff_iff, isC_iff]
  all_goals simp only [Bool.or_eq_true, decide_eq_true_eq, true_iff, Bool.false_eq_true, false_iff]
  all_goals omega

theorem ris_at (c : Int) (w : World) : Calls Tryd.prog 31 #[.int .i64 c] w fun e w' => e = .returned (.bool (isC c)) ∧ w = w' := by
  go_enter Tryd.func31, Tryd.ntmps31
  go_wp2_with fail
  all_goals go_ret
  all_goals refine ⟨retB ?_, rfl⟩
  all_goals rw [Bool.eq_iff_iff, isC_iff]
  all_goals simp only [Bool.or_eq_true, decide_eq_true_eq, true_iff, Bool.false_eq_true, false_iff]
  all_goals omega

theorem str_data (l : List Int) : (strOfNums l).data = (l.map fun n => UInt8.ofNat n.toNat).toArray := rfl
theorem utf_enc {c : Int} (h : isC c = true) : Utf8.encode c = strOfNums (enc c) := by
  have hc := isC_iff.1 h
  have hv : Utf8.valid c = true := by
    rw [validRune_eq]
    unfold validRune
    rw [decide_eq_true_eq]
    omega
  unfold Utf8.encode strOfNums
  obtain ⟨n, rfl⟩ := Int.eq_ofNat_of_zero_le hc.1
  rcases enc_cases h with ⟨h1, he⟩ | ⟨h1, h2, he⟩ | ⟨h1, h2, he⟩ | ⟨h1, he⟩
  · rw [he]
    simp only [hv, if_true, Int.toNat_natCast]
    rw [if_pos (by omega)]
    rfl
  · rw [he]
    simp only [hv, if_true, Int.toNat_natCast]
    rw [if_neg (by omega), if_pos (by omega)]
    have e1 : (192 + (n : Int) / 64).toNat = 192 + n / 64 := by omega
    have e2 : (128 + (n : Int) % 64).toNat = 128 + n % 64 := by omega
    simp only [List.map_cons, List.map_nil, e1, e2]
  · rw [he]
    simp only [hv, if_true, Int.toNat_natCast]
    rw [if_neg (by omega), if_neg (by omega), if_pos (by omega)]
    have e1 : (224 + (n : Int) / 4096).toNat = 224 + n / 4096 := by omega
    have e2 : (128 + (n : Int) / 64 % 64).toNat = 128 + n / 64 % 64 := by omega
    have e3 : (128 + (n : Int) % 64).toNat = 128 + n % 64 := by omega
    simp only [List.map_cons, List.map_nil, e1, e2, e3]
  · rw [he]
    simp only [hv, if_true, Int.toNat_natCast]
    rw [if_neg (by omega), if_neg (by omega), if_neg (by omega)]
    have e1 : (240 + (n : Int) / 262144).toNat = 240 + n / 262144 := by omega
    have e2 : (128 + (n : Int) / 4096 % 64).toNat = 128 + n / 4096 % 64 := by omega
    have e3 : (128 + (n : Int) / 64 % 64).toNat = 128 + n / 64 % 64 := by omega
    have e4 : (128 + (n : Int) % 64).toNat = 128 + n % 64 := by omega
    simp only [List.map_cons, List.map_nil, e1, e2, e3, e4]
/-- What Put answers. -/
def pst (c : Int) : ByteArray := if isC c = true then strOfNums (enc c) else { data := #[] }
def pe (c : Int) : Int := if isC c = true then 0 else 2
theorem wrap32_id {c : Int} (h : -2147483648 ≤ c ∧ c ≤ 2147483647) : IntKind.i32.wrap c = c := by
  unfold IntKind.wrap
  have e1 : (2 : Int) ^ 32 = 4294967296 := by decide
  have e2 : (2 : Int) ^ (32 - 1) = 2147483648 := by decide
  simp only [IntKind.bits, IntKind.signed, Bool.true_and, decide_eq_true_eq, e1, e2]
  split <;> omega
theorem own_lit (w : World) (l : List Int) (h : l.length ≤ 100) : Own 5 .u8 w.heap.size (w.alloc (.cells (l.map (Value.int .u8)).toArray 5)) (.slice (some ⟨w.heap.size, 0, none⟩) l.length l.length) l := by
  refine ⟨by rw [List.length_map, Nat.mul_one], Or.inr ⟨w.heap.size, l.length, (l.map (Value.int .u8)).toArray, rfl, Nat.le_refl _, heap_new w _, Nat.le_refl _, by unfold maxLen; omega, by simp, ?_⟩⟩
  exact List.take_of_length_le (by simp)
theorem bytes_at (c : Int) (hI : isC c = true) (w : World) : Calls Tryd.prog 32 #[.int .i64 c] w fun e w' => ∃ v, e = .returned v ∧ Own 5 .u8 w.heap.size w' v (enc c) ∧ Below w.heap.size w w' := by
  have hc := isC_iff.1 hI
  have hb : Below w.heap.size w (w.alloc (.cells ((enc c).map (Value.int .u8)).toArray 5)) := (Below.refl _ _).alloc (Nat.le_refl _) _
  have ho := own_lit w (enc c) (by have := enc_len c; omega)
  rcases enc_cases hI with ⟨h1, he⟩ | ⟨h1, h2, he⟩ | ⟨h1, h2, he⟩ | ⟨h1, he⟩
  · rw [he] at hb ho ⊢
    replace hb := Lib.hid (And.intro hb ho)
    clear ho he hI
    have d1 : c < 128 := h1
    have e1 : IntKind.u8.wrap c = c := by unfold IntKind.wrap; simp [IntKind.bits, IntKind.signed]; omega
    go_enter Tryd.func32, Tryd.ntmps32
    go_wp2_with fail
    go_ret
    exact ⟨_, rfl, hb.out.2, hb.out.1⟩
  · rw [he] at hb ho ⊢
    replace hb := Lib.hid (And.intro hb ho)
    clear ho he hI
    have d1 : ¬ c < 128 := by omega
    go_enter Tryd.func32, Tryd.ntmps32
    go_wp2_with fail
    go_ret
    exact ⟨_, rfl, hb.out.2, hb.out.1⟩
  · rw [he] at hb ho ⊢
    replace hb := Lib.hid (And.intro hb ho)
    clear ho he hI
    have d1 : ¬ c < 128 := by omega
    have d2 : ¬ c < 2048 := by omega
    go_enter Tryd.func32, Tryd.ntmps32
    go_wp2_with fail
    go_ret
    exact ⟨_, rfl, hb.out.2, hb.out.1⟩
  · rw [he] at hb ho ⊢
    replace hb := Lib.hid (And.intro hb ho)
    clear ho he hI
    have d1 : ¬ c < 128 := by omega
    have d2 : ¬ c < 2048 := by omega
    have d3 : ¬ c < 65536 := by omega
    go_enter Tryd.func32, Tryd.ntmps32
    go_wp2_with fail
    go_ret
    exact ⟨_, rfl, hb.out.2, hb.out.1⟩

/-- A row of bytes as a string. -/
theorem conv_own {B : Nat} {w : World} {v : Value} {l : List Int} (h : Own 5 .u8 B w v l) : (convert 22 9 v).run Tryd.prog w = .ok (.string (strOfNums l)) w := by
  obtain ⟨p, c, rfl, a, hp⟩ := h.arg
  rcases hp with rfl | ⟨g, rfl, -, -⟩
  · rw [(a.nil rfl).1]
    exact run_convert_bytes_nil w 22 5 Tryd.underlying22 Tryd.underlying5 _ _ 9 Tryd.underlying9
  · exact run_convert_bytes_arg w 22 5 Tryd.underlying22 Tryd.underlying5 g 0 _ c l rfl (fun i hi => by rw [Nat.zero_add]; exact h.cell i hi) 9 Tryd.underlying9
theorem conv_arg {w : World} {p : Option Addr} {c : Nat} {l : List Int} (h : Arg .u8 w p c l) : (convert 22 9 (.slice p l.length c)).run Tryd.prog w = .ok (.string (strOfNums l)) w := by
  cases l with
  | nil =>
    cases p with
    | none => exact run_convert_bytes_nil w 22 5 Tryd.underlying22 Tryd.underlying5 _ _ 9 Tryd.underlying9
    | some a =>
      show (convert 22 9 (.slice (some a) 0 c)).run Tryd.prog w = _
      rw [run_convert_bytes_string w 22 9 5 (some a) 0 c Tryd.underlying22 Tryd.underlying5 Tryd.underlying9]
      have hl : (loadCells a 0).run Tryd.prog w = .ok #[] w := by
        have := run_loadCells_list (P := Tryd.prog) w a [] (fun j v hj => by simp at hj)
        simpa using this
      rw [run_bytesToString w a 0 c [] (by simpa using hl)]
      rfl
  | cons x l =>
    obtain ⟨b, off, rfl, hc⟩ := h.at (by simp)
    exact run_convert_bytes_arg w 22 5 Tryd.underlying22 Tryd.underlying5 b off _ c (x :: l) rfl hc 9 Tryd.underlying9
end Go.Proofs.YtgnnkfdpfmlajaaDoor
