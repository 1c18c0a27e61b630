/- Contracts: a byte's place, escapes. Conditions: none. -/
import Derived.Test.YtgnnkfdpfmlajaaDoorLxBa
namespace Go.Proofs.YtgnnkfdpfmlajaaDoor
open Go.RowKit Bg Lx
set_option linter.unusedVariables false
set_option linter.unusedSimpArgs false

theorem bidx_at {w : World} {p : Option Addr} {c : Nat} {r : List Int} (a : Arg .u8 w p c r) (hb : Byts r) {x : Int} (h0 : 0 ≤ x ∧ x < 256) :
    Calls Tryd.prog 77 #[.slice p r.length c, .int .u8 x] w fun e w' => e = .returned (.int .i64 (fdI r x)) ∧ w = w' := by
  cases p with
  | none =>
    obtain ⟨rfl, rfl⟩ := a.nil rfl
    exact (Tryd.bytes_IndexByte_nil x w).mono fun e w' ⟨h1, h2⟩ => ⟨h1, h2.symm⟩
  | some ad =>
    have h := Tryd.bytes_IndexByte_at ad r.length c r x w rfl (fun i hi => by
      obtain ⟨b, off, hp, hc⟩ := a.cell i hi
      cases hp
      rw [add_at]
      exact hc)
    rw [idx_fd h0 hb] at h
    exact h.mono fun e w' ⟨h1, h2⟩ => ⟨h1, h2.symm⟩
/-- What an escape's reading gives. -/
def EscIs (o : Option (Int × Nat)) (e : Ending) : Prop := match o with
  | some (v, n) => e = .returned (.tuple #[.int .i32 v, .int .i64 n])
  | none => e = .returned (.tuple #[.int .i32 0, .int .i64 0])
theorem escIs_no {o : Option (Int × Nat)} (h : o = none) : EscIs o (.returned (.tuple #[.int .i32 0, .int .i64 0])) := by rw [h]; rfl
theorem escIs_yes {o : Option (Int × Nat)} {v : Int} {n : Nat} {m : Int} (h : o = some (v, n)) (hm : m = n) : EscIs o (.returned (.tuple #[.int .i32 v, .int .i64 m])) := by rw [h, hm]; rfl
theorem hexE_fd (r : List Int) : (fdI (r.drop 2) 59 = -1 ∧ hexE r = none) ∨ ∃ d : Nat, fdI (r.drop 2) 59 = d ∧ d < (r.drop 2).length ∧ hexE r = (hexO ((r.drop 2).take d)).map fun v => (v, 2 + d + 1) := by
  unfold fdI hexE
  cases hf : (r.drop 2).findIdx? (fun x => decide (x = 59)) with
  | none => exact Or.inl ⟨rfl, rfl⟩
  | some d =>
    obtain ⟨Y, e1, e2, e3⟩ := find_split hf
    exact Or.inr ⟨d, rfl, e3, rfl⟩
set_option maxRecDepth 100000 in
set_option maxHeartbeats 8000000 in
theorem phexE_at {w : World} {p : Option Addr} {c : Nat} {r : List Int} (a : Arg .u8 w p c r) (hb : Byts r) (hl : r.length ≤ 1000000) (h2 : 2 ≤ r.length) :
    Calls Tryd.prog 68 #[.slice p r.length c] w fun e w' => EscIs (hexE r) e ∧ w = w' := by
  obtain ⟨b, off, rfl, hcell⟩ := a.at (by omega)
  have hle := a.le
  by_cases h3 : r.length = 2
  · have hn : hexE r = none := by
      unfold hexE
      rw [List.drop_eq_nil_of_le (by omega)]
      rfl
    rw [hn]
    have T : ∀ q c', (q = none → c' = 0) → c' ≤ 9223372036854775807 → Calls Tryd.prog 77 #[.slice q 0 c', .int .u8 59] w fun e w' => e = .returned (.int .i64 (-1)) ∧ w = w' := fun q c' e1 e2 => by
      have := bidx_at (w := w) (p := q) (c := c') (r := []) ⟨fun h => ⟨rfl, e1 h⟩, Nat.zero_le _, e2, fun i hi => absurd hi (Nat.not_lt_zero _)⟩ Byts.nil (x := 59) (by omega)
      exact this
    have hmx := a.max
    rw [h3] at hle ⊢
    by_cases hc : c = 2
    · subst hc
      have T1 := Lib.hid (T (some ⟨b, off, none⟩) 0 (fun h => by cases h) (by omega))
      clear T a hb hl h2 hcell h3 hn
      go_enter Tryd.func68, Tryd.ntmps68
      go_wp2_with (go_at_call 77; refine T1.out.mono ?_; rintro e w' ⟨rfl, rfl⟩)
      go_ret2
      exact ⟨escIs_no rfl, rfl⟩
    · have T1 := Lib.hid (T (some ⟨b, off + 2, none⟩) (c - 2) (fun h => by cases h) (by omega))
      have f1 : (2 : Int) ≤ (c : Int) := by omega
      clear T a hb hl h2 hcell h3 hn
      go_enter Tryd.func68, Tryd.ntmps68
      go_wp2_with (go_at_call 77; refine T1.out.mono ?_; rintro e w' ⟨rfl, rfl⟩)
      go_ret2
      exact ⟨escIs_no rfl, rfl⟩
  · have a2 := a.drop (n := 2) h2
    have e : (Option.map (fun x : Addr => x.add 2) (some ⟨b, off, none⟩)) = some ⟨b, off + 2, none⟩ := congrArg some (add_at b off 2)
    rw [e] at a2
    have T1 := bidx_at a2 (hb.drop 2) (x := 59) (by omega)
    rw [List.length_drop] at T1
    have hc : ¬ c = 2 := by omega
    rcases hexE_fd r with ⟨hf, hn⟩ | ⟨d, hf, hd, hn⟩
    · rw [hf] at T1
      rw [hn]
      obtain ⟨L, hL⟩ : ∃ L, L = r.length := ⟨_, rfl⟩
      rw [← hL] at T1 hl hle h2 h3 ⊢
      have f1 : (2 : Int) ≤ (L : Int) := by omega
      have f2 : (2 : Int) ≤ (c : Int) := by omega
      replace T1 := Lib.hid T1
      clear a hb hcell a2 e hf hn hL
      go_enter Tryd.func68, Tryd.ntmps68
      go_wp2_with (go_at_call 77; refine T1.out.mono ?_; rintro e w' ⟨rfl, rfl⟩)
      go_ret2
      exact ⟨escIs_no rfl, rfl⟩
    · rw [hf] at T1
      rw [hn]
      rw [List.length_drop] at hd
      have T2 := phex_at (a2.take d) ((hb.drop 2).take d) (by rw [List.length_take, List.length_drop]; omega)
      rw [show ((r.drop 2).take d).length = d by rw [List.length_take, List.length_drop]; omega] at T2
      obtain ⟨o, ho⟩ : ∃ o, o = hexO ((r.drop 2).take d) := ⟨_, rfl⟩
      rw [← ho] at T2 ⊢
      obtain ⟨L, hL⟩ : ∃ L, L = r.length := ⟨_, rfl⟩
      rw [← hL] at T1 hl hle h2 h3 hd ⊢
      have f1 : (2 : Int) ≤ (L : Int) := by omega
      have f2 : (2 : Int) ≤ (c : Int) := by omega
      have f3 : ¬ (d : Int) < 0 := by omega
      have d3 : decide ((d : Int) < 0) = false := by rw [decide_eq_false_iff_not]; exact f3
      have f4 : (2 : Int) ≤ 2 + (d : Int) := by omega
      have f5 : 2 + (d : Int) ≤ (c : Int) := by omega
      replace T1 := Lib.hid T1
      clear a hb hcell a2 e hf hn hL ho
      cases o with
      | none =>
        replace T2 := Lib.hid T2
        go_enter Tryd.func68, Tryd.ntmps68
        go_wp2_with (go_at_call 77; refine T1.out.mono ?_; rintro e w' ⟨rfl, rfl⟩)
        refine T2.out.mono ?_
        rintro e w' ⟨⟨x, rfl⟩, rfl⟩
        go_wp2_with fail
        go_ret2
        exact ⟨escIs_no rfl, rfl⟩
      | some v =>
        replace T2 := Lib.hid T2
        go_enter Tryd.func68, Tryd.ntmps68
        go_wp2_with (go_at_call 77; refine T1.out.mono ?_; rintro e w' ⟨rfl, rfl⟩)
        refine T2.out.mono ?_
        rintro e w' ⟨he, rfl⟩
        have he' : e = .returned (.tuple #[.int .i32 v, .bool true]) := he
        subst he'
        go_wp2_with fail
        go_ret2
        exact ⟨escIs_yes (v := v) (n := 2 + d + 1) rfl (by omega), rfl⟩
theorem arg_get {w : World} {p : Option Addr} {c : Nat} {r : List Int} (a : Arg .u8 w p c r) (h2 : 2 ≤ r.length) : ∃ b off, p = some ⟨b, off, none⟩ ∧ w.cell? ⟨b, off + 1, none⟩ = some (.int .u8 (r.getD 1 0)) := by
  obtain ⟨b, off, rfl, hcell⟩ := a.at (by omega)
  exact ⟨b, off, rfl, hcell 1 (by omega)⟩
set_option maxRecDepth 100000 in
set_option maxHeartbeats 8000000 in
theorem pesc_at {w : World} {p : Option Addr} {c : Nat} {r : List Int} (a : Arg .u8 w p c r) (hb : Byts r) (hl : r.length ≤ 1000000) (h2 : 2 ≤ r.length) :
    Calls Tryd.prog 59 #[.slice p r.length c] w fun e w' => EscIs (escO r) e ∧ w = w' := by
  have T := phexE_at a hb hl h2
  obtain ⟨b, off, rfl, hg⟩ := arg_get a h2
  have hx := hb.getD 1
  obtain ⟨x, hxe⟩ : ∃ x, x = r.getD 1 0 := ⟨_, rfl⟩
  have HX := Lib.hid hxe
  rw [← hxe] at hg hx
  obtain ⟨L, hL⟩ : ∃ L, L = r.length := ⟨_, rfl⟩
  rw [← hL] at T hl h2 ⊢
  have f1 : (1 : Int) < (L : Int) := by omega
  clear a hb hL hxe
  have w32 : IntKind.i32.wrap x = x := wrap32_id (by omega)
  by_cases x1 : x = 34
  · subst x1
    have hv : escO r = some (34, 2) := by unfold escO; rw [← HX.out, if_pos (by decide)]
    rw [hv]
    clear T hv
    go_enter Tryd.func59, Tryd.ntmps59
    go_wp2_with fail
    go_ret2
    exact ⟨escIs_yes rfl rfl, rfl⟩
  by_cases x2 : x = 92
  · subst x2
    have hv : escO r = some (92, 2) := by unfold escO; rw [← HX.out, if_pos (by decide)]
    rw [hv]
    clear T hv
    go_enter Tryd.func59, Tryd.ntmps59
    go_wp2_with fail
    go_ret2
    exact ⟨escIs_yes rfl rfl, rfl⟩
  by_cases x3 : x = 110
  · subst x3
    have hv : escO r = some (10, 2) := by unfold escO; rw [← HX.out, if_neg (by decide), if_pos rfl]
    rw [hv]
    clear T hv
    go_enter Tryd.func59, Tryd.ntmps59
    go_wp2_with fail
    go_ret2
    exact ⟨escIs_yes rfl rfl, rfl⟩
  by_cases x4 : x = 116
  · subst x4
    have hv : escO r = some (9, 2) := by unfold escO; rw [← HX.out, if_neg (by decide), if_neg (by decide), if_pos rfl]
    rw [hv]
    clear T hv
    go_enter Tryd.func59, Tryd.ntmps59
    go_wp2_with fail
    go_ret2
    exact ⟨escIs_yes rfl rfl, rfl⟩
  by_cases x5 : x = 120
  · subst x5
    have hv : escO r = hexE r := escO_x HX.out.symm
    rw [hv]
    obtain ⟨o, ho⟩ : ∃ o, o = hexE r := ⟨_, rfl⟩
    rw [← ho] at T ⊢
    clear hv ho
    cases o with
    | none =>
      replace T := Lib.hid T
      go_enter Tryd.func59, Tryd.ntmps59
      go_wp2_with fail
      refine T.out.mono ?_
      rintro e w' ⟨he, rfl⟩
      have he' : e = .returned (.tuple #[.int .i32 0, .int .i64 0]) := he
      subst he'
      go_wp2_with fail
      go_ret2
      exact ⟨escIs_no rfl, rfl⟩
    | some v =>
      obtain ⟨v, n⟩ := v
      replace T := Lib.hid T
      go_enter Tryd.func59, Tryd.ntmps59
      go_wp2_with fail
      refine T.out.mono ?_
      rintro e w' ⟨he, rfl⟩
      have he' : e = .returned (.tuple #[.int .i32 v, .int .i64 n]) := he
      subst he'
      go_wp2_with fail
      go_ret2
      exact ⟨escIs_yes rfl rfl, rfl⟩
  · have hv : escO r = none := escO_other (by rw [← HX.out]; exact x1) (by rw [← HX.out]; exact x2) (by rw [← HX.out]; exact x3) (by rw [← HX.out]; exact x4) (by rw [← HX.out]; exact x5)
    rw [hv]
    have y1 : (x == 34) = false := by rw [beq_eq_false_iff_ne]; exact x1
    have y2 : (x == 92) = false := by rw [beq_eq_false_iff_ne]; exact x2
    have y3 : (x == 110) = false := by rw [beq_eq_false_iff_ne]; exact x3
    have y4 : (x == 116) = false := by rw [beq_eq_false_iff_ne]; exact x4
    have y5 : (x == 120) = false := by rw [beq_eq_false_iff_ne]; exact x5
    clear T hv
    go_enter Tryd.func59, Tryd.ntmps59
    go_wp2_with fail
    go_ret2
    exact ⟨escIs_no rfl, rfl⟩
end Go.Proofs.YtgnnkfdpfmlajaaDoor
