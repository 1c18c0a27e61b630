/- Contracts: all is read. Conditions: none. -/
import Derived.Test.YtgnnkfdpfmlajaaDoorLxBl
namespace Go.Proofs.YtgnnkfdpfmlajaaDoor
open Go.RowKit Bg Lx
set_option linter.unusedVariables false
set_option linter.unusedSimpArgs false

theorem allR_step {s : Sit} {k k' : Nat} {ts ts' : List Tk} (hb : Byts s.l) (hk : k < s.l.length) (h : nextR s k ts = .go k' ts') : k < k' ∧ k' ≤ s.l.length ∧ allR s k ts = allR s k' ts' := by
  have := next_ok (ts := ts) hb hk
  rw [h] at this
  exact this
theorem allR_fault {s : Sit} {k : Nat} {ts : List Tk} {x y : Int} (hb : Byts s.l) (hk : k < s.l.length) (h : nextR s k ts = .no x y) : allR s k ts = .no x y := by
  have := next_ok (ts := ts) hb hk
  rw [h] at this
  exact this
set_option maxRecDepth 100000 in
set_option maxHeartbeats 8000000 in
theorem pall_at {s : Sit} {k0 : Nat} {ts0 : List Tk} {w : World} (h : St s k0 ts0 w) :
    Calls Tryd.prog 17 #[.pointer (some ⟨s.b, 0, none⟩)] w (Fin s w (allR s k0 ts0)) := by
  obtain ⟨V, hV⟩ : ∃ V, V = allR s k0 ts0 := ⟨_, rfl⟩
  rw [← hV]
  obtain ⟨W0, hW0⟩ : ∃ W, W = w.alloc (.cells #[.int .i64 0, .int .i64 0] 27) := ⟨_, rfl⟩
  have D0 := Rd.new h
  rw [← hW0] at D0
  obtain ⟨R, hR⟩ : ∃ R, R = w.heap.size := ⟨_, rfl⟩
  rw [← hR] at D0
  have HD := Lib.hid (And.intro D0 (And.intro hV h.byts))
  have hlen := h.len
  have hk0 := h.kle
  clear h D0 hV
  go_enter Tryd.func17, Tryd.ntmps17
  go_wp2_with fail
  rw [← hW0, ← hR]
  clear hW0 hR
  go_loopw [3] (fun _ wr => ∃ k ts, k ≤ s.l.length ∧ Hid (Rd s w R k ts wr ∧ allR s k ts = V)) (fun _ wr => s.l.length - atOf s.b wr)
  case atStart => exact ⟨k0, ts0, hk0, Lib.hid ⟨HD.out.1, HD.out.2.1.symm⟩⟩
  case round =>
    obtain ⟨k, ts, hk, HK⟩ := hrel
    have c0 := HK.out.1.st.cell.1
    have c1 := HK.out.1.st.cell.2.1
    by_cases hlt : k < s.l.length
    · have f1 : (k : Int) < (s.l.length : Int) := by omega
      have d1 : decide ((k : Int) < (s.l.length : Int)) = true := by rw [decide_eq_true_eq]; exact f1
      go_upto_region 1 with fail
      go_quiet (fail)
      obtain ⟨W1, hW1⟩ : ∃ W, W = wr.drewN nq := ⟨_, rfl⟩
      have D1 := HK.out.1.below (W' := W1) (by rw [hW1]; exact below_drewN (Below.refl _ _) nq)
      rw [← hW1]
      have T := next_at D1.st hlt
      have HD1 := Lib.hid D1
      clear hW1 D1 c0 c1
      cases hN : nextR s k ts with
      | no x y =>
        have hv := HK.out.2
        rw [allR_fault HD.out.2.2 hlt hN] at hv
        rw [hN] at T
        have HV := Lib.hid hv
        replace T := Lib.hid T
        clear hv hN
        go_wp2_with fail
        refine T.out.mono ?_
        rintro e w2 ⟨hk2, hf2, rfl, hx0⟩
        have g1 : (x == 0) = false := by rw [beq_eq_false_iff_ne]; exact hx0
        have g2 : (x != 0) = true := by rw [bne, g1]; rfl
        have E2 := HD1.out.err hk2 hf2
        obtain ⟨w3, hw3⟩ : ∃ w3, w3 = w2.alloc (.cells #[.int .i64 (x), .int .i64 (y)] 27) := ⟨_, rfl⟩
        have E3 := E2.below (W' := w3) (by rw [hw3]; exact (Below.refl _ _).alloc (Nat.le_refl _) _)
        have hn3 : w3.heap[w2.heap.size]? = some (.cells #[.int .i64 (x), .int .i64 (y)] 27) := by rw [hw3]; exact heap_new _ _
        have n0 := blk_cell hn3 0
        have n1 := blk_cell hn3 1
        simp only [List.getElem?_toArray, List.getElem?_cons_succ, List.getElem?_cons_zero] at n0 n1
        obtain ⟨N, hN⟩ : ∃ N, N = w2.heap.size := ⟨_, rfl⟩
        rw [← hN] at n0 n1
        obtain ⟨r0, r1, q0, q1, -⟩ := E3.rt.facts
        have rt := Lib.hid E3.rt
        have HE := Lib.hid E3
        clear hk2 hf2 E2 E3 hn3
        go_upto_region 3 with fail
        rw [← hw3, ← hN]
        clear hw3 hN
        go_wp2_with fail
        obtain ⟨wz, hwz⟩ : ∃ wz, wz = (w3.setCell ⟨R, 0, none⟩ (.int .i64 (x))).setCell ⟨R, 1, none⟩ (.int .i64 (y)) := ⟨_, rfl⟩
        have z := ret_two rt.out (x) (y)
        rw [← hwz] at z
        try rw [← hwz]
        refine bodyPost_ret (v := (.agg #[.int .i64 (x), .int .i64 (y)])) (by simp [results, Tryd.results17, go_sem, z.1, z.2]) rfl ?_
        rw [← HV.out]
        exact HE.out.no hwz hx0
      | go k' ts' =>
        obtain ⟨n1, n2, n3⟩ := allR_step HD.out.2.2 hlt hN
        have hv := HK.out.2
        rw [n3] at hv
        rw [hN] at T
        have HV := Lib.hid hv
        replace T := Lib.hid T
        clear hv hN n3
        go_wp2_with fail
        refine T.out.mono ?_
        rintro e w2 ⟨hk2, hf2, rfl, hs2⟩
        have E2 := HD1.out.kept hk2 hs2
        have HE := Lib.hid E2
        clear hk2 hf2 hs2 E2
        go_wp2_with fail
        go_roundw
        case rel => exact ⟨k', ts', n2, Lib.hid ⟨HE.out.below ((Below.refl _ _).alloc (Nat.le_refl _) _), HV.out⟩⟩
        case measure =>
          rw [(HE.out.below ((Below.refl _ _).alloc (Nat.le_refl _) _)).st.atOf, HK.out.1.st.atOf]
          omega
    · have f1 : ¬ (k : Int) < (s.l.length : Int) := by omega
      have d1 : decide ((k : Int) < (s.l.length : Int)) = false := by rw [decide_eq_false_iff_not]; exact f1
      have hv := HK.out.2
      rw [allR_end (by omega)] at hv
      have HV := Lib.hid hv
      clear hv
      go_upto_region 1 with fail
      go_quiet (fail)
      obtain ⟨W1, hW1⟩ : ∃ W, W = wr.drewN nq := ⟨_, rfl⟩
      have D1 := HK.out.1.below (W' := W1) (by rw [hW1]; exact below_drewN (Below.refl _ _) nq)
      rw [← hW1]
      obtain ⟨r0, r1, q0, q1, -⟩ := D1.rt.facts
      have rt := Lib.hid D1.rt
      have e0 : k = s.l.length := by omega
      have HD1 := Lib.hid (And.intro D1 e0)
      clear hW1 D1 c0 c1 e0
      go_wp2_with fail
      obtain ⟨wz, hwz⟩ : ∃ wz, wz = (W1.setCell ⟨R, 0, none⟩ (.int .i64 (0))).setCell ⟨R, 1, none⟩ (.int .i64 (0)) := ⟨_, rfl⟩
      have z := ret_two rt.out (0) (0)
      rw [← hwz] at z
      try rw [← hwz]
      refine bodyPost_ret (v := (.agg #[.int .i64 (0), .int .i64 (0)])) (by simp [results, Tryd.results17, go_sem, z.1, z.2]) rfl ?_
      rw [← HV.out, ← HD1.out.2]
      exact HD1.out.1.go hwz
end Go.Proofs.YtgnnkfdpfmlajaaDoor
