/- Contracts: chars' literals. Conditions: none. -/
import Derived.Test.YtgnnkfdpfmlajaaDoorLxBh
namespace Go.Proofs.YtgnnkfdpfmlajaaDoor
open Go.RowKit Bg Lx
set_option linter.unusedVariables false
set_option linter.unusedSimpArgs false

theorem charO_ok {c v : Int} {r : List Int} (hc : isC c = true) (h : charO c r = some v) : isC v = true := by
  unfold charO at h
  split at h
  · cases h; exact hc
  split at h
  · cases h; decide
  split at h
  · cases h; decide
  split at h
  · cases h; decide
  split at h
  · exact (hexO_digits h).2.2.1
  · cases h
/-- What a char's literal comes to. -/
def chR (s : Sit) (k : Nat) (ts : List Tk) : Rs := match chl (s.l.drop (k + 2)) with
  | none => .no 4 k
  | some (v, n) => looseR s (k + 2 + n) ts (datum 3 v [] k)
theorem chR_none {s : Sit} {k : Nat} {ts : List Tk} (h : chl (s.l.drop (k + 2)) = none) : chR s k ts = .no 4 k := by unfold chR; rw [h]
theorem chR_some {s : Sit} {k n : Nat} {v : Int} {ts : List Tk} (h : chl (s.l.drop (k + 2)) = some (v, n)) : chR s k ts = looseR s (k + 2 + n) ts (datum 3 v [] k) := by unfold chR; rw [h]
set_option maxRecDepth 100000 in
set_option maxHeartbeats 8000000 in
theorem pchar_at {s : Sit} {k : Nat} {ts : List Tk} {w : World} (h : St s k ts w) (hk : k + 2 ≤ s.l.length) :
    Calls Tryd.prog 51 #[.pointer (some ⟨s.b, 0, none⟩)] w (Fin s w (chR s k ts)) := by
  obtain ⟨W0, hW0⟩ : ∃ W, W = w.alloc (.cells #[.int .i64 0, .int .i64 0] 27) := ⟨_, rfl⟩
  have D0 := Rd.new h
  rw [← hW0] at D0
  obtain ⟨R, hR⟩ : ∃ R, R = w.heap.size := ⟨_, rfl⟩
  rw [← hR] at D0
  have hlen := h.len
  have c0 := D0.st.cell.1
  have c1 := D0.st.cell.2.1
  have hw1 : IntKind.i64.wrap ((k : Int) + 2) = (k : Int) + 2 := by rw [wrap_small _ (by omega) (by omega)]
  have T := get_at D0.st.src h.byts (by omega) D0.st.tabs ((k : Int) + 2)
  have HD := Lib.hid D0
  obtain ⟨V, hV⟩ : ∃ V, V = chR s k ts := ⟨_, rfl⟩
  rw [← hV]
  cases hc : chr (s.l.drop (k + 2)) with
  | none =>
    have hg : gC s.l ((k : Int) + 2) = 0 ∧ gN s.l ((k : Int) + 2) = 0 ∧ gE s.l ((k : Int) + 2) ≠ 0 := by
      by_cases h : k + 2 < s.l.length
      · have := g_none (k := k + 2) h hc
        rw [show ((k + 2 : Nat) : Int) = (k : Int) + 2 by omega] at this
        omega
      · have := g_out (l := s.l) (a := (k : Int) + 2) (by omega)
        omega
    rw [chR_none (chl_none hc)] at hV
    have HV := Lib.hid hV.symm
    obtain ⟨E, hE⟩ : ∃ E, E = gE s.l ((k : Int) + 2) := ⟨_, rfl⟩
    rw [hg.1, hg.2.1, ← hE] at T
    have q0 : ¬ E = 0 := by rw [hE]; exact hg.2.2
    have q1 : (E == 0) = false := by rw [beq_eq_false_iff_ne]; exact q0
    have q2 : (E != 0) = true := by rw [bne_iff_ne]; exact q0
    have TF := Lib.hid (fun W => form_at (k : Int) W)
    replace T := Lib.hid T
    clear h D0 hV hc hg hE
    go_enter Tryd.func51, Tryd.ntmps51
    go_upto_region 1 with fail
    rw [← hW0, ← hR]
    clear hW0 hR
    go_wp2_with fail
    refine T.out.mono ?_
    rintro e w1 ⟨rfl, BB⟩
    have D1 := HD.out.below BB
    have HD1 := Lib.hid D1
    have d1 := D1.st.cell.2.1
    clear BB D1 c0 c1 T
    have T := TF
    go_wp2_with fail
    refine (T.out _).mono ?_
    rintro e W2 ⟨rfl, hb⟩
    have D2 := HD1.out.below hb
    obtain ⟨r0, r1, q0, q1, -⟩ := D2.rt.facts
    have rt := Lib.hid D2.rt
    have HE := Lib.hid D2
    clear hb D2
    go_wp2_with fail
    obtain ⟨wz, hwz⟩ : ∃ wz, wz = (W2.setCell ⟨R, 0, none⟩ (.int .i64 (4))).setCell ⟨R, 1, none⟩ (.int .i64 (k)) := ⟨_, rfl⟩
    have z := ret_two rt.out (4) (k)
    rw [← hwz] at z
    try rw [← hwz]
    refine bodyPost_ret (v := (.agg #[.int .i64 (4), .int .i64 (k)])) (by simp [results, Tryd.results51, go_sem, z.1, z.2]) rfl ?_
    rw [← HV.out]
    exact HE.out.fault.no hwz (by decide)
  | some x =>
    obtain ⟨ch, n⟩ := x
    have hlt : k + 2 < s.l.length := by
      rcases Nat.lt_or_ge (k + 2) s.l.length with h | h
      · exact h
      · rw [List.drop_eq_nil_of_le h, chr_nil] at hc
        cases hc
    obtain ⟨e1, e2, e3⟩ := g_some (k := k + 2) hlt hc
    rw [show ((k + 2 : Nat) : Int) = (k : Int) + 2 by omega] at e1 e2 e3
    rw [e1, e2, e3] at T
    have hn := chr_lt (h.byts.drop _) hc
    rw [List.length_drop] at hn
    have hci := (chr_some (h.byts.drop _) hc).1
    have hcb := isC_iff.1 hci
    have hchl := chl_some (h.byts.drop _) hc
    rw [List.drop_drop] at hchl
    have hA := run_ascii (r := s.l.drop (k + 2 + n))
    have hB : Byts (run (s.l.drop (k + 2 + n))) := fun x hx => by have := hA x hx; omega
    have hm2 := run_le (s.l.drop (k + 2 + n))
    rw [List.length_drop] at hm2
    have T1 := fun W (D : Rd s w R k ts W) => prun_at D.st (k + 2 + n) (by omega)
    unfold RunIs at T1
    obtain ⟨r, hr⟩ : ∃ r, r = run (s.l.drop (k + 2 + n)) := ⟨_, rfl⟩
    rw [← hr] at hchl hA hB hm2 T1
    have T2 := fun W q c' (a : Arg .u8 W q c' r) => charOf_at a hB (by omega) hci
    have T3 := fun W (D : Rd s w R k ts W) => pdelimited_at D.st (k + 2 + n + r.length) (by omega)
    have hw32 := wrap32_id (c := ch) (by omega)
    obtain ⟨m, hm⟩ : ∃ m, m = r.length := ⟨_, rfl⟩
    rw [← hm] at T1 T2 T3 hm2 hchl
    have hw2 : IntKind.i64.wrap ((k : Int) + 2 + (n : Int)) = (k : Int) + 2 + (n : Int) := by rw [wrap_small _ (by omega) (by omega)]
    have hw3 : IntKind.i64.wrap ((k : Int) + 2 + (n : Int) + (m : Int)) = (k : Int) + 2 + (n : Int) + (m : Int) := by rw [wrap_small _ (by omega) (by omega)]
    rw [show ((k + 2 + n : Nat) : Int) = (k : Int) + 2 + (n : Int) by omega] at T1
    rw [show ((k + 2 + n + m : Nat) : Int) = (k : Int) + 2 + (n : Int) + (m : Int) by omega] at T3
    replace T := Lib.hid T
    replace T1 := Lib.hid T1
    replace T2 := Lib.hid T2
    replace T3 := Lib.hid T3
    have TF := Lib.hid (fun W => form_at (k : Int) W)
    obtain ⟨o, ho⟩ : ∃ o, o = charO ch r := ⟨_, rfl⟩
    have HO := Lib.hid (And.intro ho hci)
    rw [← ho] at hchl
    replace T2 := T2.out
    rw [← ho] at T2
    replace T2 := Lib.hid T2
    clear h D0 hc e1 e2 e3 hr hm hA hB ho hci
    go_enter Tryd.func51, Tryd.ntmps51
    go_upto_region 1 with fail
    rw [← hW0, ← hR]
    clear hW0 hR
    go_wp2_with fail
    refine T.out.mono ?_
    rintro e w1 ⟨rfl, BB⟩
    have D1 := HD.out.below BB
    have HD1 := Lib.hid D1
    have d1 := D1.st.cell.2.1
    clear BB D1 c0 c1 T
    go_wp2_with fail
    refine (T1.out _ HD1.out).mono ?_
    rintro e w' ⟨⟨q, c', rfl, a⟩, rfl⟩
    have Ha := Lib.hid a
    clear a
    go_wp2_with fail
    refine (T2.out _ _ _ Ha.out).mono ?_
    rintro e w' ⟨he, rfl⟩
    cases o with
    | none =>
      obtain ⟨x, rfl⟩ := he
      rw [chR_none hchl] at hV
      have HV := Lib.hid hV.symm
      have T := TF
      clear hV hchl
      go_wp2_with fail
      refine (T.out _).mono ?_
      rintro e W2 ⟨rfl, hb⟩
      have D2 := HD1.out.below hb
      obtain ⟨r0, r1, q0, q1, -⟩ := D2.rt.facts
      have rt := Lib.hid D2.rt
      have HE := Lib.hid D2
      clear hb D2
      go_wp2_with fail
      obtain ⟨wz, hwz⟩ : ∃ wz, wz = (W2.setCell ⟨R, 0, none⟩ (.int .i64 (4))).setCell ⟨R, 1, none⟩ (.int .i64 (k)) := ⟨_, rfl⟩
      have z := ret_two rt.out (4) (k)
      rw [← hwz] at z
      try rw [← hwz]
      refine bodyPost_ret (v := (.agg #[.int .i64 (4), .int .i64 (k)])) (by simp [results, Tryd.results51, go_sem, z.1, z.2]) rfl ?_
      rw [← HV.out]
      exact HE.out.fault.no hwz (by decide)
    | some v =>
      have he' : e = .returned (.tuple #[.int .i32 v, .bool true]) := he
      subst he'
      rw [chR_some hchl] at hV
      have hvb := isC_iff.1 (charO_ok HO.out.2 HO.out.1.symm)
      clear hchl he
      go_wp2_with fail
      replace T3 := T3.out _ HD1.out
      cases hdl : dl s.l (k + 2 + n + m) with
      | true =>
        rw [dlV_t hdl] at T3
        rw [show k + 2 + (n + m) = k + 2 + n + m by omega, looseR_t hdl] at hV
        have HV := Lib.hid hV.symm
        rw [show ((k + 2 + n + m : Nat) : Int) = (k : Int) + 2 + (n : Int) + (m : Int) by omega] at T3 HV
        replace T3 := Lib.hid T3
        clear hV hdl hw1 hw2 hw3 d1
        refine T3.out.mono ?_
        rintro e w2 ⟨rfl, hb2⟩
        have E2 := HD1.out.fault.below hb2
        obtain ⟨w3, hw3⟩ : ∃ w3, w3 = w2.alloc (.cells #[.int .i64 (4), .int .i64 (k+2+n+m)] 27) := ⟨_, rfl⟩
        have E3 := E2.below (W' := w3) (by rw [hw3]; exact (Below.refl _ _).alloc (Nat.le_refl _) _)
        have hn3 : w3.heap[w2.heap.size]? = some (.cells #[.int .i64 (4), .int .i64 (k+2+n+m)] 27) := by rw [hw3]; exact heap_new _ _
        have n0 := blk_cell hn3 0
        have n1 := blk_cell hn3 1
        simp only [List.getElem?_toArray, List.getElem?_cons_succ, List.getElem?_cons_zero] at n0 n1
        obtain ⟨N, hN⟩ : ∃ N, N = w2.heap.size := ⟨_, rfl⟩
        rw [← hN] at n0 n1
        obtain ⟨r0, r1, q0, q1, -⟩ := E3.rt.facts
        have rt := Lib.hid E3.rt
        have HE := Lib.hid E3
        clear hb2 E2 E3 hn3
        go_upto_region 11 with fail
        rw [← hw3, ← hN]
        clear hw3 hN
        go_wp2_with fail
        obtain ⟨wz, hwz⟩ : ∃ wz, wz = (w3.setCell ⟨R, 0, none⟩ (.int .i64 (4))).setCell ⟨R, 1, none⟩ (.int .i64 (k+2+n+m)) := ⟨_, rfl⟩
        have z := ret_two rt.out (4) (k+2+n+m)
        rw [← hwz] at z
        try rw [← hwz]
        refine bodyPost_ret (v := (.agg #[.int .i64 (4), .int .i64 (k+2+n+m)])) (by simp [results, Tryd.results51, go_sem, z.1, z.2]) rfl ?_
        rw [← HV.out]
        exact HE.out.no hwz (by decide)
      | false =>
        rw [dlV_f hdl] at T3
        rw [show k + 2 + (n + m) = k + 2 + n + m by omega, looseR_f hdl] at hV
        have HV := Lib.hid hV.symm
        replace T3 := Lib.hid T3
        clear hV hdl hw1 hw2 hw3 d1
        refine T3.out.mono ?_
        rintro e w2 ⟨rfl, hb2⟩
        have E2 := HD1.out.below hb2
        obtain ⟨w3, hw3⟩ : ∃ w3, w3 = w2.alloc (.cells #[.int .i64 0, .int .i64 0] 27) := ⟨_, rfl⟩
        have E3 := E2.below (W' := w3) (by rw [hw3]; exact (Below.refl _ _).alloc (Nat.le_refl _) _)
        have HE := Lib.hid E3
        clear hb2 E2 E3
        go_upto_region 13 with fail
        rw [← hw3]
        clear hw3
        have T4 := datum_at HE.out.st 3 v [] (k + 2 + n + m) (by omega) (by omega)
        rw [show ((k + 2 + n + m : Nat) : Int) = (k : Int) + 2 + (n : Int) + (m : Int) by omega, show strOfNums [] = ({ data := #[] } : ByteArray) from rfl] at T4
        replace T4 := Lib.hid T4
        go_wp2_with fail
        refine T4.out.mono ?_
        rintro e w5 ⟨rfl, hs5, hk5⟩
        have D5 := HE.out.kept hk5 hs5
        obtain ⟨r0, r1, q0, q1, -⟩ := D5.rt.facts
        have rt := Lib.hid D5.rt
        have HF := Lib.hid D5
        clear hs5 hk5 D5
        go_wp2_with fail
        obtain ⟨wz, hwz⟩ : ∃ wz, wz = (w5.setCell ⟨R, 0, none⟩ (.int .i64 (0))).setCell ⟨R, 1, none⟩ (.int .i64 (0)) := ⟨_, rfl⟩
        have z := ret_two rt.out (0) (0)
        rw [← hwz] at z
        try rw [← hwz]
        refine bodyPost_ret (v := (.agg #[.int .i64 (0), .int .i64 (0)])) (by simp [results, Tryd.results51, go_sem, z.1, z.2]) rfl ?_
        rw [← HV.out]
        exact HF.out.go hwz
end Go.Proofs.YtgnnkfdpfmlajaaDoor
