/- Contracts: what begins at a place. Conditions: none. -/
import Derived.Test.YtgnnkfdpfmlajaaDoorLxBj
namespace Go.Proofs.YtgnnkfdpfmlajaaDoor
open Go.RowKit Bg Lx
set_option linter.unusedVariables false
set_option linter.unusedSimpArgs false

/-- What begins at a place comes to. -/
def nextR (s : Sit) (k : Nat) (ts : List Tk) : Rs :=
  if blankB (s.l.getD k 0) = true then .go (k + 1) ts
  else if s.l.getD k 0 = 59 then lineR s k ts
  else if s.l.getD k 0 = 40 then .go (k + 1) (ts ++ [plainTk 1 k])
  else if s.l.getD k 0 = 41 then .go (k + 1) (ts ++ [plainTk 2 k])
  else if s.l.getD k 0 = 39 then .go (k + 1) (ts ++ [plainTk 3 k])
  else if s.l.getD k 0 = 34 then strR s k (k + 1) [] ts
  else if s.l.getD k 0 = 35 then hashR s k ts
  else if symB (s.l.getD k 0) = true then looseR s (k + (run (s.l.drop k)).length) ts (runTk (run (s.l.drop k)) k)
  else .no 4 k
set_option maxRecDepth 100000 in
set_option maxHeartbeats 16000000 in
theorem next_at {s : Sit} {k : Nat} {ts : List Tk} {w : World} (h : St s k ts w) (hk : k < s.l.length) :
    Calls Tryd.prog 29 #[.pointer (some ⟨s.b, 0, none⟩)] w (Fin s w (nextR s k ts)) := by
  obtain ⟨W0, hW0⟩ : ∃ W, W = w.alloc (.cells #[.int .i64 0, .int .i64 0] 27) := ⟨_, rfl⟩
  have D0 := Rd.new h
  rw [← hW0] at D0
  obtain ⟨R, hR⟩ : ∃ R, R = w.heap.size := ⟨_, rfl⟩
  rw [← hR] at D0
  have hlen := h.len
  have c0 := D0.st.cell.1
  have c1 := D0.st.cell.2.1
  obtain ⟨V, hV⟩ : ∃ V, V = nextR s k ts := ⟨_, rfl⟩
  rw [← hV]
  unfold nextR at hV
  obtain ⟨b, off, hp, hcell⟩ := D0.st.src.at (by omega)
  have hg := hcell k hk
  have hx := h.byts.getD k
  have hsy : symB (s.l.getD k 0) = true → s.l.getD k 0 = s.l.getD k 0 := fun _ => rfl
  obtain ⟨x, hxe⟩ : ∃ x, x = s.l.getD k 0 := ⟨_, rfl⟩
  rw [← hxe] at hV hg hx
  rw [hp] at c0
  have f1 : (k : Int) < (s.l.length : Int) := by omega
  have HX := Lib.hid hxe
  have HD := Lib.hid D0
  have hw1 : IntKind.i64.wrap ((k : Int) + 1) = (k : Int) + 1 := by rw [wrap_small _ (by omega) (by omega)]
  have T0 := fun W => pblank_at x W
  clear hcell hsy hxe hp h D0
  have HV := Lib.hid hV
  clear hV
  by_cases hB : blankB x = true
  · have hv := HV.out
    rw [if_pos hB] at hv
    rw [hB] at T0
    replace T0 := Lib.hid T0
    clear HV hB
    go_enter Tryd.func29, Tryd.ntmps29
    go_upto_region 1 with fail
    rw [← hW0, ← hR]
    clear hW0 hR
    go_quiet (fail)
    obtain ⟨W1, hW1⟩ : ∃ W, W = W0.drewN nq := ⟨_, rfl⟩
    have D1 := HD.out.below (W' := W1) (by rw [hW1]; exact below_drewN (Below.refl _ _) nq)
    rw [← hW1]
    clear hW1 c0 c1 hg
    have d1 := D1.st.cell.2.1
    have d2 := D1.st.cell.2.2.2 1
    have G := D1.st.go (k' := k + 1) (by omega) (by omega)
    obtain ⟨w2, hw2⟩ : ∃ w2, w2 = W1.setCell ⟨s.b, 1, none⟩ (.int .i64 ((k : Int) + 1)) := ⟨_, rfl⟩
    have E2 : Rd s w R (k + 1) ts w2 := by rw [hw2]; exact D1.kept G.2 G.1
    obtain ⟨r0, r1, q0, q1, -⟩ := E2.rt.facts
    have rt := Lib.hid E2.rt
    have HF := Lib.hid E2
    have HV2 := Lib.hid hv.symm
    clear hv D1 G E2
    go_upto_region 19 with (go_at_call 37; refine (T0.out _).mono ?_; rintro e w' ⟨rfl, rfl⟩)
    rw [← hw2]
    clear hw2 d1 d2
    go_wp2_with fail
    obtain ⟨wz, hwz⟩ : ∃ wz, wz = (w2.setCell ⟨R, 0, none⟩ (.int .i64 (0))).setCell ⟨R, 1, none⟩ (.int .i64 (0)) := ⟨_, rfl⟩
    have z := ret_two rt.out (0) (0)
    rw [← hwz] at z
    try rw [← hwz]
    refine bodyPost_ret (v := (.agg #[.int .i64 (0), .int .i64 (0)])) (by simp [results, Tryd.results29, go_sem, z.1, z.2]) rfl ?_
    rw [← HV2.out]
    exact HF.out.go hwz
  have hB2 : blankB x = false := by cases h : blankB x with
    | true => exact absurd h hB
    | false => rfl
  rw [hB2] at T0
  replace T0 := Lib.hid T0
  have hv := HV.out
  rw [if_neg hB] at hv
  clear hB hB2 HV
  by_cases x59 : x = 59
  · rw [if_pos x59] at hv
    have hv2 := Lib.hid hv
    clear hv
    subst x59
    go_enter Tryd.func29, Tryd.ntmps29
    go_upto_region 1 with fail
    rw [← hW0, ← hR]
    clear hW0 hR
    go_quiet (fail)
    obtain ⟨W1, hW1⟩ : ∃ W, W = W0.drewN nq := ⟨_, rfl⟩
    have D1 := HD.out.below (W' := W1) (by rw [hW1]; exact below_drewN (Below.refl _ _) nq)
    rw [← hW1]
    clear hW1 c0 c1 hg
    have hv := hv2.out
    have T := line_at D1.st
    rw [← hv] at T
    replace T := Lib.hid T
    have HDi := Lib.hid D1
    clear D1 hv
    go_wp2_with (go_at_call 37; refine (T0.out _).mono ?_; rintro e w' ⟨rfl, rfl⟩)
    refine T.out.mono ?_
    rintro e w2 F
    obtain ⟨x1, y1, he, hk2⟩ := fin_val F
    subst he
    have rt2 := HDi.out.rt.kp hk2
    obtain ⟨r0, r1, q0, q1, -⟩ := rt2.facts
    have rt := Lib.hid rt2
    have HF := Lib.hid F
    clear F hk2 rt2
    go_wp2_with fail
    obtain ⟨wz, hwz⟩ : ∃ wz, wz = (w2.setCell ⟨R, 0, none⟩ (.int .i64 (x1))).setCell ⟨R, 1, none⟩ (.int .i64 (y1)) := ⟨_, rfl⟩
    have z := ret_two rt.out (x1) (y1)
    rw [← hwz] at z
    try rw [← hwz]
    refine bodyPost_ret (v := (.agg #[.int .i64 (x1), .int .i64 (y1)])) (by simp [results, Tryd.results29, go_sem, z.1, z.2]) rfl ?_
    exact fin_back HDi.out HF.out rfl hwz
  rw [if_neg x59] at hv
  have y59 : (x == 59) = false := by rw [beq_eq_false_iff_ne]; exact x59
  by_cases x40 : x = 40
  · rw [if_pos x40] at hv
    have hv2 := Lib.hid hv
    clear hv
    subst x40
    go_enter Tryd.func29, Tryd.ntmps29
    go_upto_region 1 with fail
    rw [← hW0, ← hR]
    clear hW0 hR
    go_quiet (fail)
    obtain ⟨W1, hW1⟩ : ∃ W, W = W0.drewN nq := ⟨_, rfl⟩
    have D1 := HD.out.below (W' := W1) (by rw [hW1]; exact below_drewN (Below.refl _ _) nq)
    rw [← hW1]
    clear hW1 c0 c1 hg
    have hv := hv2.out
    have T := mark_at D1.st 1 1 (by decide) (by decide) (by omega)
    replace T := Lib.hid T
    have HDi := Lib.hid D1
    have HV2 := Lib.hid hv.symm
    clear D1 hv
    go_wp2_with (go_at_call 37; refine (T0.out _).mono ?_; rintro e w' ⟨rfl, rfl⟩)
    refine T.out.mono ?_
    rintro e w2 ⟨rfl, hs2, hk2⟩
    have E2 := HDi.out.kept hk2 hs2
    obtain ⟨r0, r1, q0, q1, -⟩ := E2.rt.facts
    have rt := Lib.hid E2.rt
    have HF := Lib.hid E2
    clear hs2 hk2 E2
    go_wp2_with fail
    obtain ⟨wz, hwz⟩ : ∃ wz, wz = (w2.setCell ⟨R, 0, none⟩ (.int .i64 (0))).setCell ⟨R, 1, none⟩ (.int .i64 (0)) := ⟨_, rfl⟩
    have z := ret_two rt.out (0) (0)
    rw [← hwz] at z
    try rw [← hwz]
    refine bodyPost_ret (v := (.agg #[.int .i64 (0), .int .i64 (0)])) (by simp [results, Tryd.results29, go_sem, z.1, z.2]) rfl ?_
    rw [← HV2.out]
    exact HF.out.go hwz
  rw [if_neg x40] at hv
  have y40 : (x == 40) = false := by rw [beq_eq_false_iff_ne]; exact x40
  by_cases x41 : x = 41
  · rw [if_pos x41] at hv
    have hv2 := Lib.hid hv
    clear hv
    subst x41
    go_enter Tryd.func29, Tryd.ntmps29
    go_upto_region 1 with fail
    rw [← hW0, ← hR]
    clear hW0 hR
    go_quiet (fail)
    obtain ⟨W1, hW1⟩ : ∃ W, W = W0.drewN nq := ⟨_, rfl⟩
    have D1 := HD.out.below (W' := W1) (by rw [hW1]; exact below_drewN (Below.refl _ _) nq)
    rw [← hW1]
    clear hW1 c0 c1 hg
    have hv := hv2.out
    have T := mark_at D1.st 2 1 (by decide) (by decide) (by omega)
    replace T := Lib.hid T
    have HDi := Lib.hid D1
    have HV2 := Lib.hid hv.symm
    clear D1 hv
    go_wp2_with (go_at_call 37; refine (T0.out _).mono ?_; rintro e w' ⟨rfl, rfl⟩)
    refine T.out.mono ?_
    rintro e w2 ⟨rfl, hs2, hk2⟩
    have E2 := HDi.out.kept hk2 hs2
    obtain ⟨r0, r1, q0, q1, -⟩ := E2.rt.facts
    have rt := Lib.hid E2.rt
    have HF := Lib.hid E2
    clear hs2 hk2 E2
    go_wp2_with fail
    obtain ⟨wz, hwz⟩ : ∃ wz, wz = (w2.setCell ⟨R, 0, none⟩ (.int .i64 (0))).setCell ⟨R, 1, none⟩ (.int .i64 (0)) := ⟨_, rfl⟩
    have z := ret_two rt.out (0) (0)
    rw [← hwz] at z
    try rw [← hwz]
    refine bodyPost_ret (v := (.agg #[.int .i64 (0), .int .i64 (0)])) (by simp [results, Tryd.results29, go_sem, z.1, z.2]) rfl ?_
    rw [← HV2.out]
    exact HF.out.go hwz
  rw [if_neg x41] at hv
  have y41 : (x == 41) = false := by rw [beq_eq_false_iff_ne]; exact x41
  by_cases x39 : x = 39
  · rw [if_pos x39] at hv
    have hv2 := Lib.hid hv
    clear hv
    subst x39
    go_enter Tryd.func29, Tryd.ntmps29
    go_upto_region 1 with fail
    rw [← hW0, ← hR]
    clear hW0 hR
    go_quiet (fail)
    obtain ⟨W1, hW1⟩ : ∃ W, W = W0.drewN nq := ⟨_, rfl⟩
    have D1 := HD.out.below (W' := W1) (by rw [hW1]; exact below_drewN (Below.refl _ _) nq)
    rw [← hW1]
    clear hW1 c0 c1 hg
    have hv := hv2.out
    have T := mark_at D1.st 3 1 (by decide) (by decide) (by omega)
    replace T := Lib.hid T
    have HDi := Lib.hid D1
    have HV2 := Lib.hid hv.symm
    clear D1 hv
    go_wp2_with (go_at_call 37; refine (T0.out _).mono ?_; rintro e w' ⟨rfl, rfl⟩)
    refine T.out.mono ?_
    rintro e w2 ⟨rfl, hs2, hk2⟩
    have E2 := HDi.out.kept hk2 hs2
    obtain ⟨r0, r1, q0, q1, -⟩ := E2.rt.facts
    have rt := Lib.hid E2.rt
    have HF := Lib.hid E2
    clear hs2 hk2 E2
    go_wp2_with fail
    obtain ⟨wz, hwz⟩ : ∃ wz, wz = (w2.setCell ⟨R, 0, none⟩ (.int .i64 (0))).setCell ⟨R, 1, none⟩ (.int .i64 (0)) := ⟨_, rfl⟩
    have z := ret_two rt.out (0) (0)
    rw [← hwz] at z
    try rw [← hwz]
    refine bodyPost_ret (v := (.agg #[.int .i64 (0), .int .i64 (0)])) (by simp [results, Tryd.results29, go_sem, z.1, z.2]) rfl ?_
    rw [← HV2.out]
    exact HF.out.go hwz
  rw [if_neg x39] at hv
  have y39 : (x == 39) = false := by rw [beq_eq_false_iff_ne]; exact x39
  by_cases x34 : x = 34
  · rw [if_pos x34] at hv
    have hv2 := Lib.hid hv
    clear hv
    subst x34
    go_enter Tryd.func29, Tryd.ntmps29
    go_upto_region 1 with fail
    rw [← hW0, ← hR]
    clear hW0 hR
    go_quiet (fail)
    obtain ⟨W1, hW1⟩ : ∃ W, W = W0.drewN nq := ⟨_, rfl⟩
    have D1 := HD.out.below (W' := W1) (by rw [hW1]; exact below_drewN (Below.refl _ _) nq)
    rw [← hW1]
    clear hW1 c0 c1 hg
    have hv := hv2.out
    have T := text_at D1.st hk
    rw [← hv] at T
    replace T := Lib.hid T
    have HDi := Lib.hid D1
    clear D1 hv
    go_wp2_with (go_at_call 37; refine (T0.out _).mono ?_; rintro e w' ⟨rfl, rfl⟩)
    refine T.out.mono ?_
    rintro e w2 F
    obtain ⟨x1, y1, he, hk2⟩ := fin_val F
    subst he
    have rt2 := HDi.out.rt.kp hk2
    obtain ⟨r0, r1, q0, q1, -⟩ := rt2.facts
    have rt := Lib.hid rt2
    have HF := Lib.hid F
    clear F hk2 rt2
    go_wp2_with fail
    obtain ⟨wz, hwz⟩ : ∃ wz, wz = (w2.setCell ⟨R, 0, none⟩ (.int .i64 (x1))).setCell ⟨R, 1, none⟩ (.int .i64 (y1)) := ⟨_, rfl⟩
    have z := ret_two rt.out (x1) (y1)
    rw [← hwz] at z
    try rw [← hwz]
    refine bodyPost_ret (v := (.agg #[.int .i64 (x1), .int .i64 (y1)])) (by simp [results, Tryd.results29, go_sem, z.1, z.2]) rfl ?_
    exact fin_back HDi.out HF.out rfl hwz
  rw [if_neg x34] at hv
  have y34 : (x == 34) = false := by rw [beq_eq_false_iff_ne]; exact x34
  by_cases x35 : x = 35
  · rw [if_pos x35] at hv
    have hv2 := Lib.hid hv
    clear hv
    subst x35
    go_enter Tryd.func29, Tryd.ntmps29
    go_upto_region 1 with fail
    rw [← hW0, ← hR]
    clear hW0 hR
    go_quiet (fail)
    obtain ⟨W1, hW1⟩ : ∃ W, W = W0.drewN nq := ⟨_, rfl⟩
    have D1 := HD.out.below (W' := W1) (by rw [hW1]; exact below_drewN (Below.refl _ _) nq)
    rw [← hW1]
    clear hW1 c0 c1 hg
    have hv := hv2.out
    have T := hash_at D1.st hk
    rw [← hv] at T
    replace T := Lib.hid T
    have HDi := Lib.hid D1
    clear D1 hv
    go_wp2_with (go_at_call 37; refine (T0.out _).mono ?_; rintro e w' ⟨rfl, rfl⟩)
    refine T.out.mono ?_
    rintro e w2 F
    obtain ⟨x1, y1, he, hk2⟩ := fin_val F
    subst he
    have rt2 := HDi.out.rt.kp hk2
    obtain ⟨r0, r1, q0, q1, -⟩ := rt2.facts
    have rt := Lib.hid rt2
    have HF := Lib.hid F
    clear F hk2 rt2
    go_wp2_with fail
    obtain ⟨wz, hwz⟩ : ∃ wz, wz = (w2.setCell ⟨R, 0, none⟩ (.int .i64 (x1))).setCell ⟨R, 1, none⟩ (.int .i64 (y1)) := ⟨_, rfl⟩
    have z := ret_two rt.out (x1) (y1)
    rw [← hwz] at z
    try rw [← hwz]
    refine bodyPost_ret (v := (.agg #[.int .i64 (x1), .int .i64 (y1)])) (by simp [results, Tryd.results29, go_sem, z.1, z.2]) rfl ?_
    exact fin_back HDi.out HF.out rfl hwz
  rw [if_neg x35] at hv
  have y35 : (x == 35) = false := by rw [beq_eq_false_iff_ne]; exact x35
  have T9 := fun W => psym_at x hx W
  by_cases hS : symB x = true
  · rw [if_pos hS] at hv
    rw [hS] at T9
    replace T9 := Lib.hid T9
    have hv2 := Lib.hid (And.intro hv (show symB (s.l.getD k 0) = true by rw [← HX.out]; exact hS))
    clear hv hS
    go_enter Tryd.func29, Tryd.ntmps29
    go_upto_region 1 with fail
    rw [← hW0, ← hR]
    clear hW0 hR
    go_quiet (fail)
    obtain ⟨W1, hW1⟩ : ∃ W, W = W0.drewN nq := ⟨_, rfl⟩
    have D1 := HD.out.below (W' := W1) (by rw [hW1]; exact below_drewN (Below.refl _ _) nq)
    rw [← hW1]
    clear hW1 c0 c1 hg
    have hv := hv2.out.1
    have T := word_at D1.st hk hv2.out.2
    rw [← hv] at T
    replace T := Lib.hid T
    have HDi := Lib.hid D1
    clear D1 hv
    go_wp2_with (first | (go_at_call 37; refine (T0.out _).mono ?_; rintro e w' ⟨rfl, rfl⟩) | (go_at_call 42; refine (T9.out _).mono ?_; rintro e w' ⟨rfl, rfl⟩))
    refine T.out.mono ?_
    rintro e w2 F
    obtain ⟨x1, y1, he, hk2⟩ := fin_val F
    subst he
    have rt2 := HDi.out.rt.kp hk2
    obtain ⟨r0, r1, q0, q1, -⟩ := rt2.facts
    have rt := Lib.hid rt2
    have HF := Lib.hid F
    clear F hk2 rt2
    go_wp2_with fail
    obtain ⟨wz, hwz⟩ : ∃ wz, wz = (w2.setCell ⟨R, 0, none⟩ (.int .i64 (x1))).setCell ⟨R, 1, none⟩ (.int .i64 (y1)) := ⟨_, rfl⟩
    have z := ret_two rt.out (x1) (y1)
    rw [← hwz] at z
    try rw [← hwz]
    refine bodyPost_ret (v := (.agg #[.int .i64 (x1), .int .i64 (y1)])) (by simp [results, Tryd.results29, go_sem, z.1, z.2]) rfl ?_
    exact fin_back HDi.out HF.out rfl hwz
  have hS2 : symB x = false := by cases h : symB x with
    | true => exact absurd h hS
    | false => rfl
  rw [if_neg hS] at hv
  rw [hS2] at T9
  replace T9 := Lib.hid T9
  have HV := Lib.hid hv.symm
  have T := Lib.hid (fun W => form_at (k : Int) W)
  clear hv hS hS2
  go_enter Tryd.func29, Tryd.ntmps29
  go_upto_region 1 with fail
  rw [← hW0, ← hR]
  clear hW0 hR
  go_quiet (fail)
  obtain ⟨W1, hW1⟩ : ∃ W, W = W0.drewN nq := ⟨_, rfl⟩
  have D1 := HD.out.below (W' := W1) (by rw [hW1]; exact below_drewN (Below.refl _ _) nq)
  rw [← hW1]
  clear hW1 c0 c1 hg
  have d1 := D1.st.cell.2.1
  have HD1 := Lib.hid D1
  clear D1
  go_wp2_with (first | (go_at_call 37; refine (T0.out _).mono ?_; rintro e w' ⟨rfl, rfl⟩) | (go_at_call 42; refine (T9.out _).mono ?_; rintro e w' ⟨rfl, rfl⟩))
  refine (T.out _).mono ?_
  rintro e W2 ⟨rfl, hb⟩
  have D2 := HD1.out.below hb
  obtain ⟨r0, r1, q0, q1, -⟩ := D2.rt.facts
  have rt := Lib.hid D2.rt
  have HE := Lib.hid D2
  clear hb D2
  go_wp2_with fail
  obtain ⟨wz, hwz⟩ : ∃ wz, wz = (W2.setCell ⟨R, 0, none⟩ (.int .i64 (4))).setCell ⟨R, 1, none⟩ (.int .i64 (k)) := ⟨_, rfl⟩
  have z := ret_two rt.out (4) (k)
  rw [← hwz] at z
  try rw [← hwz]
  refine bodyPost_ret (v := (.agg #[.int .i64 (4), .int .i64 (k)])) (by simp [results, Tryd.results29, go_sem, z.1, z.2]) rfl ?_
  rw [← HV.out]
  exact HE.out.fault.no hwz (by decide)
end Go.Proofs.YtgnnkfdpfmlajaaDoor
