/- Contracts: the program's small tests of bytes. Conditions: none. -/
import Derived.Test.YtgnnkfdpfmlajaaDoorLxZa
import Derived.Test.YtgnnkfdpfmlajaaDoorLxR
import Derived.Test.YtgnnkfdpfmlajaaDoorLxZb
namespace Go.Proofs.YtgnnkfdpfmlajaaDoor
open Go.RowKit Bg Lx
set_option linter.unusedVariables false
set_option linter.unusedSimpArgs false


theorem pblank_at (c : Int) (w : World) : Calls Tryd.prog 37 #[.int .u8 c] w fun e w' => e = .returned (.bool (blankB c)) ∧ w = w' := by
  go_enter Tryd.func37, Tryd.ntmps37
  go_wp2_with (fail)
  all_goals go_ret
  all_goals refine ⟨retB ?_, rfl⟩
  all_goals rw [Bool.eq_iff_iff]
  all_goals simp only [blankB, Bool.or_eq_true, Bool.and_eq_true, decide_eq_true_eq, beq_iff_eq, true_iff, Bool.false_eq_true, false_iff]
  all_goals omega
theorem pdigit_at (c : Int) (w : World) : Calls Tryd.prog 53 #[.int .u8 c] w fun e w' => e = .returned (.bool (digitB c)) ∧ w = w' := by
  go_enter Tryd.func53, Tryd.ntmps53
  go_wp2_with (fail)
  all_goals go_ret
  all_goals refine ⟨retB ?_, rfl⟩
  all_goals rw [Bool.eq_iff_iff]
  all_goals simp only [digitB, Bool.or_eq_true, Bool.and_eq_true, decide_eq_true_eq, beq_iff_eq, true_iff, Bool.false_eq_true, false_iff]
  all_goals omega
theorem u8_eq {x c : Int} (hx : 0 ≤ x ∧ x < 256) (h0 : 0 ≤ c ∧ c < 256) : (UInt8.ofNat x.toNat == c.toNat.toUInt8) = decide (x = c) := by
  rw [Bool.eq_iff_iff, beq_iff_eq, decide_eq_true_eq]
  constructor
  · intro h
    have := congrArg UInt8.toNat h
    rw [UInt8.toNat_ofNat', Nat.toUInt8, UInt8.toNat_ofNat'] at this
    omega
  · rintro rfl; rfl
/-- Where a byte stands first. -/
def fdI (s : List Int) (c : Int) : Int := match s.findIdx? (fun x => decide (x = c)) with
  | none => -1
  | some d => d
theorem idx_fd {c : Int} (h0 : 0 ≤ c ∧ c < 256) : ∀ {xs : List Int}, Byts xs → Lib.indexByte (Lib.bytesOf xs) c.toNat.toUInt8 = fdI xs c
  | [], _ => rfl
  | x :: xs, hb => by
    have ih := idx_fd h0 hb.cons.2
    show Lib.indexByte (UInt8.ofNat x.toNat :: Lib.bytesOf xs) _ = _
    rw [Lib.indexByte, u8_eq hb.cons.1 h0, ih]
    unfold fdI
    rw [List.findIdx?_cons]
    cases decide (x = c) with
    | true => rfl
    | false =>
      cases hf : xs.findIdx? (fun x => decide (x = c)) with
      | none => rfl
      | some d =>
        simp only [Bool.false_eq_true, if_false, Option.map_some]
        rw [if_neg (by simp only [beq_iff_eq]; omega)]
        rfl
theorem fd_mem (s : List Int) (c : Int) : decide (0 ≤ fdI s c) = s.contains c := by
  unfold fdI
  rw [Bool.eq_iff_iff, decide_eq_true_eq, List.contains_iff_mem]
  cases hf : s.findIdx? (fun x => decide (x = c)) with
  | none =>
    rw [List.findIdx?_eq_none_iff] at hf
    simp only []
    constructor
    · intro h; exact absurd h (by decide)
    · intro h; have := hf c h; simp at this
  | some d =>
    simp only []
    constructor
    · intro _
      obtain ⟨hl, he⟩ := List.findIdx?_eq_some_iff_getElem.1 hf
      have := he.1
      simp only [decide_eq_true_eq] at this
      rw [← this]
      exact List.getElem_mem _
    · intro _; omega
theorem fd_bounds (s : List Int) (c : Int) : fdI s c = -1 ∨ (0 ≤ fdI s c ∧ fdI s c < s.length) := by
  unfold fdI
  cases hf : s.findIdx? (fun x => decide (x = c)) with
  | none => exact Or.inl rfl
  | some d =>
    obtain ⟨hl, he⟩ := List.findIdx?_eq_some_iff_getElem.1 hf
    simp only []
    exact Or.inr ⟨by omega, by omega⟩
theorem sidx_at {t : ByteArray} {xs : List Int} (hx : t = strOfNums xs) (hb : Byts xs) {c : Int} (h0 : 0 ≤ c ∧ c < 256) (w : World) : Calls Tryd.prog 54 #[.string t, .int .u8 c] w fun e w' => e = .returned (.int .i64 (fdI xs c)) ∧ w = w' := by
  have h := Tryd.strings_IndexByte t c w
  rw [hx, show (strOfNums xs).data.toList = Lib.bytesOf xs from rfl, idx_fd h0 hb] at h
  rw [hx]
  refine h.mono ?_
  rintro e w' ⟨rfl, rfl⟩
  exact ⟨rfl, rfl⟩
def delims : List Int := [40, 41, 34, 59, 39]
theorem delims_str : ({ data := #[40, 41, 34, 59, 39] } : ByteArray) = strOfNums delims := by rfl
theorem delims_byts : Byts delims := by
  intro x hx
  simp only [delims, List.mem_cons, List.not_mem_nil, or_false] at hx
  omega
theorem pdelim_at (c : Int) (h0 : 0 ≤ c ∧ c < 256) (w : World) : Calls Tryd.prog 63 #[.int .u8 c] w fun e w' => e = .returned (.bool (delimB c)) ∧ w = w' := by
  have T := pblank_at c w
  have T2 := sidx_at delims_str delims_byts h0 w
  have hm := fd_mem delims c
  have e : delimB c = (blankB c || delims.contains c) := by
    unfold delimB
    congr 1
    rw [Bool.eq_iff_iff, decide_eq_true_eq, List.contains_iff_mem]
    simp [delims]
  rw [e]
  obtain ⟨x, hx⟩ : ∃ x, x = fdI delims c := ⟨_, rfl⟩
  rw [← hx] at T2 hm
  rw [← hm]
  clear hm hx e
  cases hB : blankB c with
  | true =>
    rw [hB] at T
    replace T := Lib.hid T
    go_enter Tryd.func63, Tryd.ntmps63
    go_wp2_with (go_at_call 37; refine T.out.mono ?_; rintro e w' ⟨rfl, rfl⟩)
    go_ret
    exact ⟨retB (by simp), rfl⟩
  | false =>
    rw [hB] at T
    replace T := Lib.hid T
    replace T2 := Lib.hid T2
    go_enter Tryd.func63, Tryd.ntmps63
    go_wp2_with (first | (go_at_call 37; refine T.out.mono ?_; rintro e w' ⟨rfl, rfl⟩) | (go_at_call 54; refine T2.out.mono ?_; rintro e w' ⟨rfl, rfl⟩))
    go_ret
    exact ⟨retB (by simp), rfl⟩
theorem psym_at (c : Int) (h0 : 0 ≤ c ∧ c < 256) (w : World) : Calls Tryd.prog 42 #[.int .u8 c] w fun e w' => e = .returned (.bool (symB c)) ∧ w = w' := by
  have T := pdigit_at c w
  have T2 := sidx_at others_str others_byts h0 w
  have hm := fd_mem others c
  have e : symB c = (decide (97 ≤ c ∧ c ≤ 122) || decide (65 ≤ c ∧ c ≤ 90) || digitB c || others.contains c) := by
    unfold symB
    cases others.contains c <;> cases digitB c <;> cases decide (97 ≤ c ∧ c ≤ 122) <;> cases decide (65 ≤ c ∧ c ≤ 90) <;> rfl
  rw [e]
  obtain ⟨x, hx⟩ : ∃ x, x = fdI others c := ⟨_, rfl⟩
  rw [← hx] at T2 hm
  rw [← hm]
  clear hm hx e h0
  replace T2 := Lib.hid T2
  by_cases h1 : 97 ≤ c ∧ c ≤ 122
  · have d1 : 97 ≤ c := h1.1
    have d2 : c ≤ 122 := h1.2
    rw [decide_eq_true h1]
    clear T h1
    go_enter Tryd.func42, Tryd.ntmps42
    go_wp2_with fail
    go_ret
    exact ⟨retB (by simp), rfl⟩
  · rw [decide_eq_false h1]
    by_cases h2 : 65 ≤ c ∧ c ≤ 90
    · have d1 : 65 ≤ c := h2.1
      have d2 : c ≤ 90 := h2.2
      have d3 : ¬ 97 ≤ c := by omega
      rw [decide_eq_true h2]
      clear T h2 h1
      go_enter Tryd.func42, Tryd.ntmps42
      go_wp2_with fail
      go_ret
      exact ⟨retB (by simp), rfl⟩
    · rw [decide_eq_false h2]
      cases hD : digitB c with
      | true =>
        rw [hD] at T
        replace T := Lib.hid T
        clear T2 hD
        go_enter Tryd.func42, Tryd.ntmps42
        go_wp2_with (go_at_call 53; refine T.out.mono ?_; rintro e w' ⟨rfl, rfl⟩)
        all_goals first
          | (exfalso; omega)
          | (go_ret; exact ⟨retB (by first | (simp; done) | (simp; omega)), rfl⟩)
      | false =>
        rw [hD] at T
        replace T := Lib.hid T
        clear hD
        go_enter Tryd.func42, Tryd.ntmps42
        go_wp2_with (first | (go_at_call 53; refine T.out.mono ?_; rintro e w' ⟨rfl, rfl⟩) | (go_at_call 54; refine T2.out.mono ?_; rintro e w' ⟨rfl, rfl⟩))
        all_goals first
          | (exfalso; omega)
          | (go_ret; exact ⟨retB (by first | (simp; done) | (simp; omega)), rfl⟩)
theorem phexd_at (c : Int) (h0 : 0 ≤ c ∧ c < 256) (w : World) : Calls Tryd.prog 78 #[.int .u8 c] w fun e w' => e = .returned (.int .i64 (hexD c)) ∧ w = w' := by
  have T := pdigit_at c w
  have wr : ∀ x : Int, 0 ≤ x → x < 256 → IntKind.u8.wrap x = x := fun x a b => by unfold IntKind.wrap; simp [IntKind.bits, IntKind.signed]; omega
  unfold hexD
  by_cases h1 : 48 ≤ c ∧ c ≤ 57
  · rw [if_pos h1]
    have hD : digitB c = true := by unfold digitB; exact decide_eq_true h1
    rw [hD] at T
    have w1 := wr (c - 48) (by omega) (by omega)
    replace T := Lib.hid T
    obtain ⟨y, hy⟩ : ∃ y, y = c - 48 := ⟨_, rfl⟩
    have g0 : 0 ≤ c - 48 := by omega
    have g1 : c - 48 ≤ 9 := by omega
    clear wr hD hy
    go_enter Tryd.func78, Tryd.ntmps78
    go_wp2_with (go_at_call 53; refine T.out.mono ?_; rintro e w' ⟨rfl, rfl⟩)
    go_ret
    exact ⟨rfl, rfl⟩
  · rw [if_neg h1]
    have hD : digitB c = false := by unfold digitB; exact decide_eq_false h1
    rw [hD] at T
    replace T := Lib.hid T
    clear hD
    by_cases h2 : 97 ≤ c ∧ c ≤ 102
    · rw [if_pos h2]
      have d1 : 97 ≤ c := h2.1
      have d2 : c ≤ 102 := h2.2
      have w1 := wr (c - 97) (by omega) (by omega)
      have g0 : 0 ≤ c - 97 := by omega
      have g1 : c - 97 ≤ 9 := by omega
      clear wr
      go_enter Tryd.func78, Tryd.ntmps78
      go_wp2_with (go_at_call 53; refine T.out.mono ?_; rintro e w' ⟨rfl, rfl⟩)
      go_ret
      exact ⟨ret_int (by omega), rfl⟩
    · rw [if_neg h2]
      by_cases h3 : 65 ≤ c ∧ c ≤ 70
      · rw [if_pos h3]
        have d1 : 65 ≤ c := h3.1
        have d2 : c ≤ 70 := h3.2
        have d3 : ¬ 97 ≤ c := by omega
        have w1 := wr (c - 65) (by omega) (by omega)
        have g0 : 0 ≤ c - 65 := by omega
        have g1 : c - 65 ≤ 9 := by omega
        clear wr
        go_enter Tryd.func78, Tryd.ntmps78
        go_wp2_with (go_at_call 53; refine T.out.mono ?_; rintro e w' ⟨rfl, rfl⟩)
        go_ret
        exact ⟨ret_int (by omega), rfl⟩
      · rw [if_neg h3]
        clear wr
        go_enter Tryd.func78, Tryd.ntmps78
        go_wp2_with (go_at_call 53; refine T.out.mono ?_; rintro e w' ⟨rfl, rfl⟩)
        all_goals first
          | (exfalso; omega)
          | (go_ret; exact ⟨rfl, rfl⟩)
end Go.Proofs.YtgnnkfdpfmlajaaDoor
