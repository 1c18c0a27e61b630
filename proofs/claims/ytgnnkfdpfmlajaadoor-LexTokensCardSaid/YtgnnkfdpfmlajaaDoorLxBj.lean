/- Contracts: what begins with #. Conditions: none. -/
import Derived.Test.YtgnnkfdpfmlajaaDoorLxBi
import Derived.Test.YtgnnkfdpfmlajaaDoorLxAa
namespace Go.Proofs.YtgnnkfdpfmlajaaDoor
open Go.RowKit Bg Lx
set_option linter.unusedVariables false
set_option linter.unusedSimpArgs false

/-- What stands behind a # comes to. -/
def hashR (s : Sit) (k : Nat) (ts : List Tk) : Rs :=
  if atS (s.l.drop k) [35, 124] = true then comR s k k 0 ts
  else if atS (s.l.drop k) [35, 40] = true then .go (k + 2) (ts ++ [plainTk 4 k])
  else if atS (s.l.drop k) [35, 117, 56, 40] = true then .go (k + 4) (ts ++ [plainTk 5 k])
  else if atS (s.l.drop k) [35, 92] = true then chR s k ts
  else boolR s k ts
theorem lit_byts {t : List Int} (h : t.all (fun x => decide (0 ≤ x ∧ x < 256)) = true) : Byts t := fun x hx => by
  have := List.all_eq_true.1 h x hx
  simpa using this
/-- The result of a callee's is the result. -/
theorem fin_back {s : Sit} {w W w2 wz : World} {R k : Nat} {ts : List Tk} {V : Rs} {e : Ending} {x y : Int} (D : Rd s w R k ts W) (F : Fin s W V e w2) (he : e = .returned (.agg #[.int .i64 x, .int .i64 y])) (hz : wz = (w2.setCell ⟨R, 0, none⟩ (.int .i64 x)).setCell ⟨R, 1, none⟩ (.int .i64 y)) : Fin s w V (.returned (.agg #[.int .i64 x, .int .i64 y])) wz := by
  obtain ⟨hk, hf, hr⟩ := F
  cases V with
  | go k' ts' =>
    obtain ⟨h1, h2⟩ := hr
    rw [he] at h1
    cases h1
    exact (D.kept hk h2).go hz
  | no x' y' =>
    obtain ⟨h1, h2⟩ := hr
    rw [he] at h1
    cases h1
    exact (D.err hk hf).no hz h2
theorem fin_val {s : Sit} {W w2 : World} {V : Rs} {e : Ending} (F : Fin s W V e w2) : ∃ x y : Int, e = .returned (.agg #[.int .i64 x, .int .i64 y]) ∧ Kp W w2 := by
  obtain ⟨hk, hf, hr⟩ := F
  cases V with
  | go k' ts' => exact ⟨_, _, hr.1, hk⟩
  | no x' y' => exact ⟨_, _, hr.1, hk⟩
set_option maxRecDepth 100000 in
set_option maxHeartbeats 16000000 in
theorem hash_at {s : Sit} {k : Nat} {ts : List Tk} {w : World} (h : St s k ts w) (hk : k < s.l.length) :
    Calls Tryd.prog 41 #[.pointer (some ⟨s.b, 0, none⟩)] w (Fin s w (hashR s k ts)) := by
  obtain ⟨W0, hW0⟩ : ∃ W, W = w.alloc (.cells #[.int .i64 0, .int .i64 0] 27) := ⟨_, rfl⟩
  have D0 := Rd.new h
  rw [← hW0] at D0
  obtain ⟨R, hR⟩ : ∃ R, R = w.heap.size := ⟨_, rfl⟩
  rw [← hR] at D0
  have hlen := h.len
  have c0 := D0.st.cell.1
  have c1 := D0.st.cell.2.1
  obtain ⟨V, hV⟩ : ∃ V, V = hashR s k ts := ⟨_, rfl⟩
  rw [← hV]
  unfold hashR at hV
  obtain ⟨b, off, hp, hcell⟩ := h.src.at (by omega)
  have hle := h.src.le
  rw [hp] at c0
  have f5 : ¬ s.c = k := by omega
  have f6 : (k : Int) ≤ (s.l.length : Int) := by omega
  have HD := Lib.hid (And.intro D0 hV)
  have kc := fun (w : World) (C : Array Value) (n c : Nat) => Lib.run_convert_bytes_const (P := Tryd.prog) w 22 5 C n c Tryd.underlying22 Tryd.underlying5
  clear h D0 hV hcell
  go_enter Tryd.func41, Tryd.ntmps41
  go_upto_region 1 with fail
  rw [← hW0, ← hR]
  clear hW0 hR
  go_quiet (fail)
  obtain ⟨W1, hW1⟩ : ∃ W, W = W0.drewN nq := ⟨_, rfl⟩
  have D1 := HD.out.1.below (W' := W1) (by rw [hW1]; exact below_drewN (Below.refl _ _) nq)
  rw [← hW1]
  clear hW1 c0 c1
  have hv := Lib.hid HD.out.2
  have T0 := hasW D1.st hp (Nat.le_of_lt hk) (t := [35, 124]) (lit_byts (by decide)) (by decide) (2, 3)
  simp only [List.map_cons, List.map_nil, List.length_cons, List.length_nil, Nat.zero_add, Nat.reduceAdd] at T0
  obtain ⟨W2, hW2⟩ : ∃ W, W = W1.alloc (.cells #[.int .u8 35, .int .u8 124] 5 (2, 3)) := ⟨_, rfl⟩
  rw [← hW2] at T0
  have D2 := D1.below (W' := W2) (by rw [hW2]; exact (Below.refl _ _).alloc (Nat.le_refl _) _)
  cases hO : atS (s.l.drop k) [35, 124] with
  | true =>
    replace hv := hv.out
    rw [hO] at T0 hv
    replace T0 := Lib.hid T0
    have T := nested_at D2.st
    rw [if_pos rfl] at hv
    rw [← hv] at T
    replace T := Lib.hid T
    have HDi := Lib.hid D2
    clear hv hp hle f5 f6 D1 D2 hO
    go_wp2_with fail
    rw [← hW2]
    refine T0.out.mono ?_
    rintro e w' ⟨rfl, rfl⟩
    clear hW2
    go_wp2_with fail
    refine T.out.mono ?_
    rintro e w2 F
    obtain ⟨x, y, he, hk2⟩ := fin_val F
    subst he
    have rt2 := HDi.out.rt.kp hk2
    obtain ⟨r0, r1, q0, q1, -⟩ := rt2.facts
    have rt := Lib.hid rt2
    have HF := Lib.hid F
    clear F hk2 rt2
    go_wp2_with fail
    obtain ⟨wz, hwz⟩ : ∃ wz, wz = (w2.setCell ⟨R, 0, none⟩ (.int .i64 (x))).setCell ⟨R, 1, none⟩ (.int .i64 (y)) := ⟨_, rfl⟩
    have z := ret_two rt.out (x) (y)
    rw [← hwz] at z
    try rw [← hwz]
    refine bodyPost_ret (v := (.agg #[.int .i64 (x), .int .i64 (y)])) (by simp [results, Tryd.results41, go_sem, z.1, z.2]) rfl ?_
    exact fin_back HDi.out HF.out rfl hwz
  | false =>
    replace hv := hv.out
    rw [hO] at T0 hv
    rw [if_neg (by decide)] at hv
    replace T0 := Lib.hid T0
    replace hv := Lib.hid hv
    clear hO
    go_wp2_with fail
    rw [← hW2]
    refine T0.out.mono ?_
    rintro e w' ⟨rfl, rfl⟩
    clear hW2
    have T1 := hasW D2.st hp (Nat.le_of_lt hk) (t := [35, 40]) (lit_byts (by decide)) (by decide) (2, 3)
    simp only [List.map_cons, List.map_nil, List.length_cons, List.length_nil, Nat.zero_add, Nat.reduceAdd] at T1
    obtain ⟨W3, hW3⟩ : ∃ W, W = W2.alloc (.cells #[.int .u8 35, .int .u8 40] 5 (2, 3)) := ⟨_, rfl⟩
    rw [← hW3] at T1
    have D3 := D2.below (W' := W3) (by rw [hW3]; exact (Below.refl _ _).alloc (Nat.le_refl _) _)
    cases hO : atS (s.l.drop k) [35, 40] with
    | true =>
      replace hv := hv.out
      rw [hO] at T1 hv
      replace T1 := Lib.hid T1
      have hk2 := atS_len hO
      rw [List.length_drop] at hk2
      simp only [List.length_cons, List.length_nil] at hk2
      have T := mark_at D3.st 4 2 (by decide) (by decide) (by omega)
      rw [if_pos rfl] at hv
      replace T := Lib.hid T
      have HV := Lib.hid hv.symm
      have HDi := Lib.hid D3
      clear hv hp hle f5 f6 D1 D2 D3 hO
      go_wp2_with fail
      rw [← hW3]
      refine T1.out.mono ?_
      rintro e w' ⟨rfl, rfl⟩
      clear hW3
      go_wp2_with fail
      refine T.out.mono ?_
      rintro e w2 ⟨rfl, hs2, hk2⟩
      have E2 := HDi.out.kept hk2 hs2
      obtain ⟨r0, r1, q0, q1, -⟩ := E2.rt.facts
      have rt := Lib.hid E2.rt
      have HF := Lib.hid E2
      clear hs2 hk2 E2
      go_wp2_with fail
      obtain ⟨wz, hwz⟩ : ∃ wz, wz = (w2.setCell ⟨R, 0, none⟩ (.int .i64 (0))).setCell ⟨R, 1, none⟩ (.int .i64 (0)) := ⟨_, rfl⟩
      have z := ret_two rt.out (0) (0)
      rw [← hwz] at z
      try rw [← hwz]
      refine bodyPost_ret (v := (.agg #[.int .i64 (0), .int .i64 (0)])) (by simp [results, Tryd.results41, go_sem, z.1, z.2]) rfl ?_
      rw [← HV.out]
      exact HF.out.go hwz
    | false =>
      replace hv := hv.out
      rw [hO] at T1 hv
      rw [if_neg (by decide)] at hv
      replace T1 := Lib.hid T1
      replace hv := Lib.hid hv
      clear hO
      go_wp2_with fail
      rw [← hW3]
      refine T1.out.mono ?_
      rintro e w' ⟨rfl, rfl⟩
      clear hW3
      have T2 := hasW D3.st hp (Nat.le_of_lt hk) (t := [35, 117, 56, 40]) (lit_byts (by decide)) (by decide) (4, 5)
      simp only [List.map_cons, List.map_nil, List.length_cons, List.length_nil, Nat.zero_add, Nat.reduceAdd] at T2
      obtain ⟨W4, hW4⟩ : ∃ W, W = W3.alloc (.cells #[.int .u8 35, .int .u8 117, .int .u8 56, .int .u8 40] 5 (4, 5)) := ⟨_, rfl⟩
      rw [← hW4] at T2
      have D4 := D3.below (W' := W4) (by rw [hW4]; exact (Below.refl _ _).alloc (Nat.le_refl _) _)
      cases hO : atS (s.l.drop k) [35, 117, 56, 40] with
      | true =>
        replace hv := hv.out
        rw [hO] at T2 hv
        replace T2 := Lib.hid T2
        have hk2 := atS_len hO
        rw [List.length_drop] at hk2
        simp only [List.length_cons, List.length_nil] at hk2
        have T := mark_at D4.st 5 4 (by decide) (by decide) (by omega)
        rw [if_pos rfl] at hv
        replace T := Lib.hid T
        have HV := Lib.hid hv.symm
        have HDi := Lib.hid D4
        clear hv hp hle f5 f6 D1 D2 D3 D4 hO
        go_wp2_with fail
        rw [← hW4]
        refine T2.out.mono ?_
        rintro e w' ⟨rfl, rfl⟩
        clear hW4
        go_wp2_with fail
        refine T.out.mono ?_
        rintro e w2 ⟨rfl, hs2, hk2⟩
        have E2 := HDi.out.kept hk2 hs2
        obtain ⟨r0, r1, q0, q1, -⟩ := E2.rt.facts
        have rt := Lib.hid E2.rt
        have HF := Lib.hid E2
        clear hs2 hk2 E2
        go_wp2_with fail
        obtain ⟨wz, hwz⟩ : ∃ wz, wz = (w2.setCell ⟨R, 0, none⟩ (.int .i64 (0))).setCell ⟨R, 1, none⟩ (.int .i64 (0)) := ⟨_, rfl⟩
        have z := ret_two rt.out (0) (0)
        rw [← hwz] at z
        try rw [← hwz]
        refine bodyPost_ret (v := (.agg #[.int .i64 (0), .int .i64 (0)])) (by simp [results, Tryd.results41, go_sem, z.1, z.2]) rfl ?_
        rw [← HV.out]
        exact HF.out.go hwz
      | false =>
        replace hv := hv.out
        rw [hO] at T2 hv
        rw [if_neg (by decide)] at hv
        replace T2 := Lib.hid T2
        replace hv := Lib.hid hv
        clear hO
        go_wp2_with fail
        rw [← hW4]
        refine T2.out.mono ?_
        rintro e w' ⟨rfl, rfl⟩
        clear hW4
        have T3 := hasW D4.st hp (Nat.le_of_lt hk) (t := [35, 92]) (lit_byts (by decide)) (by decide) (2, 3)
        simp only [List.map_cons, List.map_nil, List.length_cons, List.length_nil, Nat.zero_add, Nat.reduceAdd] at T3
        obtain ⟨W5, hW5⟩ : ∃ W, W = W4.alloc (.cells #[.int .u8 35, .int .u8 92] 5 (2, 3)) := ⟨_, rfl⟩
        rw [← hW5] at T3
        have D5 := D4.below (W' := W5) (by rw [hW5]; exact (Below.refl _ _).alloc (Nat.le_refl _) _)
        cases hO : atS (s.l.drop k) [35, 92] with
        | true =>
          replace hv := hv.out
          rw [hO] at T3 hv
          replace T3 := Lib.hid T3
          have T := pchar_at D5.st (by have := atS_len hO; rw [List.length_drop] at this; simp only [List.length_cons, List.length_nil] at this; omega)
          rw [if_pos rfl] at hv
          rw [← hv] at T
          replace T := Lib.hid T
          have HDi := Lib.hid D5
          clear hv hp hle f5 f6 D1 D2 D3 D4 D5 hO
          go_wp2_with fail
          rw [← hW5]
          refine T3.out.mono ?_
          rintro e w' ⟨rfl, rfl⟩
          clear hW5
          go_wp2_with fail
          refine T.out.mono ?_
          rintro e w2 F
          obtain ⟨x, y, he, hk2⟩ := fin_val F
          subst he
          have rt2 := HDi.out.rt.kp hk2
          obtain ⟨r0, r1, q0, q1, -⟩ := rt2.facts
          have rt := Lib.hid rt2
          have HF := Lib.hid F
          clear F hk2 rt2
          go_wp2_with fail
          obtain ⟨wz, hwz⟩ : ∃ wz, wz = (w2.setCell ⟨R, 0, none⟩ (.int .i64 (x))).setCell ⟨R, 1, none⟩ (.int .i64 (y)) := ⟨_, rfl⟩
          have z := ret_two rt.out (x) (y)
          rw [← hwz] at z
          try rw [← hwz]
          refine bodyPost_ret (v := (.agg #[.int .i64 (x), .int .i64 (y)])) (by simp [results, Tryd.results41, go_sem, z.1, z.2]) rfl ?_
          exact fin_back HDi.out HF.out rfl hwz
        | false =>
          replace hv := hv.out
          rw [hO] at T3 hv
          rw [if_neg (by decide)] at hv
          replace T3 := Lib.hid T3
          have T := bool_at D5.st hk
          rw [← hv] at T
          replace T := Lib.hid T
          have HDi := Lib.hid D5
          clear hv hp hle f5 f6 D1 D2 D3 D4 D5 hO
          go_wp2_with fail
          rw [← hW5]
          refine T3.out.mono ?_
          rintro e w' ⟨rfl, rfl⟩
          clear hW5
          go_wp2_with fail
          refine T.out.mono ?_
          rintro e w2 F
          obtain ⟨x, y, he, hk2⟩ := fin_val F
          subst he
          have rt2 := HDi.out.rt.kp hk2
          obtain ⟨r0, r1, q0, q1, -⟩ := rt2.facts
          have rt := Lib.hid rt2
          have HF := Lib.hid F
          clear F hk2 rt2
          go_wp2_with fail
          obtain ⟨wz, hwz⟩ : ∃ wz, wz = (w2.setCell ⟨R, 0, none⟩ (.int .i64 (x))).setCell ⟨R, 1, none⟩ (.int .i64 (y)) := ⟨_, rfl⟩
          have z := ret_two rt.out (x) (y)
          rw [← hwz] at z
          try rw [← hwz]
          refine bodyPost_ret (v := (.agg #[.int .i64 (x), .int .i64 (y)])) (by simp [results, Tryd.results41, go_sem, z.1, z.2]) rfl ?_
          exact fin_back HDi.out HF.out rfl hwz
end Go.Proofs.YtgnnkfdpfmlajaaDoor
