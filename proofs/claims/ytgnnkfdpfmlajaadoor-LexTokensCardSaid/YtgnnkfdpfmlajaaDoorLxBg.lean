/- Contracts: booleans. Conditions: none. -/
import Derived.Test.YtgnnkfdpfmlajaaDoorLxBf
namespace Go.Proofs.YtgnnkfdpfmlajaaDoor
open Go.RowKit Bg Lx
set_option linter.unusedVariables false
set_option linter.unusedSimpArgs false

/-- What # and a run come to, at a place. -/
def boolR (s : Sit) (k : Nat) (ts : List Tk) : Rs :=
  if run (s.l.drop (k + 1)) = [116] ∨ run (s.l.drop (k + 1)) = [116, 114, 117, 101] then looseR s (k + 1 + (run (s.l.drop (k + 1))).length) ts (datum 1 1 [] k)
  else if run (s.l.drop (k + 1)) = [102] ∨ run (s.l.drop (k + 1)) = [102, 97, 108, 115, 101] then looseR s (k + 1 + (run (s.l.drop (k + 1))).length) ts (datum 1 0 [] k)
  else .no 4 k
set_option maxRecDepth 100000 in
set_option maxHeartbeats 16000000 in
theorem bool_at {s : Sit} {k : Nat} {ts : List Tk} {w : World} (h : St s k ts w) (hk : k < s.l.length) :
    Calls Tryd.prog 52 #[.pointer (some ⟨s.b, 0, none⟩)] w (Fin s w (boolR s k ts)) := by
  obtain ⟨W0, hW0⟩ : ∃ W, W = w.alloc (.cells #[.int .i64 0, .int .i64 0] 27) := ⟨_, rfl⟩
  have D0 := Rd.new h
  rw [← hW0] at D0
  obtain ⟨R, hR⟩ : ∃ R, R = w.heap.size := ⟨_, rfl⟩
  rw [← hR] at D0
  have hlen := h.len
  have hm2 := run_le (s.l.drop (k + 1))
  rw [List.length_drop] at hm2
  have T1 := prun_at D0.st (k + 1) hk
  have hA := run_ascii (r := s.l.drop (k + 1))
  have hB : Byts (run (s.l.drop (k + 1))) := fun x hx => by have := hA x hx; omega
  obtain ⟨V, hV⟩ : ∃ V, V = boolR s k ts := ⟨_, rfl⟩
  rw [← hV]
  unfold boolR at hV
  unfold RunIs at T1
  obtain ⟨r, hr⟩ : ∃ r, r = run (s.l.drop (k + 1)) := ⟨_, rfl⟩
  rw [← hr] at hm2 T1 hA hB hV
  have t1 := lit_eq (B := [116]) hB [116] rfl
  have t2 := lit_eq (B := [116, 114, 117, 101]) hB [116, 114, 117, 101] rfl
  have t3 := lit_eq (B := [102]) hB [102] rfl
  have t4 := lit_eq (B := [102, 97, 108, 115, 101]) hB [102, 97, 108, 115, 101] rfl
  have T2 := fun W (D : Rd s w R k ts W) => pdelimited_at D.st (k + 1 + r.length) (by omega)
  obtain ⟨S, hS⟩ : ∃ S, S = strOfNums r := ⟨_, rfl⟩
  rw [← hS] at t1 t2 t3 t4
  obtain ⟨m, hm⟩ : ∃ m, m = r.length := ⟨_, rfl⟩
  rw [← hm] at hm2 T1 T2 hV
  have hcv : ∀ q c' W, Arg .u8 W q c' r → (convert 22 9 (.slice q m c')).run Tryd.prog W = .ok (.string S) W := fun q c' W a => by
    have := conv_arg a
    rw [← hm, ← hS] at this
    exact this
  have HD := Lib.hid (And.intro D0 (And.intro hV hcv))
  have c1 := D0.st.cell.2.1
  have hw1 : IntKind.i64.wrap ((k : Int) + 1) = (k : Int) + 1 := by rw [wrap_small _ (by omega) (by omega)]
  have hw2 : IntKind.i64.wrap ((k : Int) + 1 + (m : Int)) = (k : Int) + 1 + (m : Int) := by rw [wrap_small _ (by omega) (by omega)]
  rw [show ((k + 1 : Nat) : Int) = (k : Int) + 1 by omega] at T1
  rw [show ((k + 1 + m : Nat) : Int) = (k : Int) + 1 + (m : Int) by omega] at T2
  replace T1 := Lib.hid T1
  replace T2 := Lib.hid (T2 _ D0)
  clear h D0 hV hcv hr hS hm hA hB
  go_enter Tryd.func52, Tryd.ntmps52
  go_upto_region 1 with fail
  rw [← hW0, ← hR]
  clear hW0 hR
  go_wp2_with fail
  refine T1.out.mono ?_
  rintro e w' ⟨⟨q, c', rfl, a⟩, rfl⟩
  have hc := HD.out.2.2 q c' _ a
  clear a
  have hv := HD.out.2.1
  by_cases h1 : r = [116]
  · rw [if_pos (Or.inl h1)] at hv
    rw [decide_eq_true h1] at t1
    clear h1
    go_upto_region 10 with fail
    go_wp2_with fail
    cases hdl : dl s.l (k + 1 + m) with
    | true =>
      rw [looseR_t hdl] at hv
      have HV := Lib.hid hv.symm
      replace T2 := T2.out
      rw [dlV_t hdl] at T2
      rw [show ((k + 1 + m : Nat) : Int) = (k : Int) + 1 + (m : Int) by omega] at T2 HV
      replace T2 := Lib.hid T2
      clear hv hdl hc c1 hw1 hw2 t1 t2 t3 t4
      refine T2.out.mono ?_
      rintro e w2 ⟨rfl, hb2⟩
      have E2 := HD.out.1.fault.below hb2
      obtain ⟨w3, hw3⟩ : ∃ w3, w3 = w2.alloc (.cells #[.int .i64 (4), .int .i64 (k+1+m)] 27) := ⟨_, rfl⟩
      have E3 := E2.below (W' := w3) (by rw [hw3]; exact (Below.refl _ _).alloc (Nat.le_refl _) _)
      have hn3 : w3.heap[w2.heap.size]? = some (.cells #[.int .i64 (4), .int .i64 (k+1+m)] 27) := by rw [hw3]; exact heap_new _ _
      have n0 := blk_cell hn3 0
      have n1 := blk_cell hn3 1
      simp only [List.getElem?_toArray, List.getElem?_cons_succ, List.getElem?_cons_zero] at n0 n1
      obtain ⟨N, hN⟩ : ∃ N, N = w2.heap.size := ⟨_, rfl⟩
      rw [← hN] at n0 n1
      obtain ⟨r0, r1, q0, q1, -⟩ := E3.rt.facts
      have rt := Lib.hid E3.rt
      have HE := Lib.hid E3
      clear hb2 E2 E3 hn3
      go_upto_region 12 with fail
      rw [← hw3, ← hN]
      clear hw3 hN
      go_wp2_with fail
      obtain ⟨wz, hwz⟩ : ∃ wz, wz = (w3.setCell ⟨R, 0, none⟩ (.int .i64 (4))).setCell ⟨R, 1, none⟩ (.int .i64 (k+1+m)) := ⟨_, rfl⟩
      have z := ret_two rt.out (4) (k+1+m)
      rw [← hwz] at z
      try rw [← hwz]
      refine bodyPost_ret (v := (.agg #[.int .i64 (4), .int .i64 (k+1+m)])) (by simp [results, Tryd.results52, go_sem, z.1, z.2]) rfl ?_
      rw [← HV.out]
      exact HE.out.no hwz (by decide)
    | false =>
      rw [looseR_f hdl] at hv
      have HV := Lib.hid hv.symm
      replace T2 := T2.out
      rw [dlV_f hdl] at T2
      replace T2 := Lib.hid T2
      clear hv hdl hc c1 hw1 hw2 t1 t2 t3 t4
      refine T2.out.mono ?_
      rintro e w2 ⟨rfl, hb2⟩
      have E2 := HD.out.1.below hb2
      obtain ⟨w3, hw3⟩ : ∃ w3, w3 = w2.alloc (.cells #[.int .i64 0, .int .i64 0] 27) := ⟨_, rfl⟩
      have E3 := E2.below (W' := w3) (by rw [hw3]; exact (Below.refl _ _).alloc (Nat.le_refl _) _)
      have HE := Lib.hid E3
      clear hb2 E2 E3
      go_upto_region 14 with fail
      rw [← hw3]
      clear hw3
      have T4 := datum_at HE.out.st 1 1 [] (k + 1 + m) (by omega) (by omega)
      rw [show ((k + 1 + m : Nat) : Int) = (k : Int) + 1 + (m : Int) by omega, show strOfNums [] = ({ data := #[] } : ByteArray) from rfl] at T4
      replace T4 := Lib.hid T4
      go_wp2_with fail
      refine T4.out.mono ?_
      rintro e w5 ⟨rfl, hs5, hk5⟩
      have D5 := HE.out.kept hk5 hs5
      obtain ⟨r0, r1, q0, q1, -⟩ := D5.rt.facts
      have rt := Lib.hid D5.rt
      have HF := Lib.hid D5
      clear hs5 hk5 D5
      go_wp2_with fail
      obtain ⟨wz, hwz⟩ : ∃ wz, wz = (w5.setCell ⟨R, 0, none⟩ (.int .i64 (0))).setCell ⟨R, 1, none⟩ (.int .i64 (0)) := ⟨_, rfl⟩
      have z := ret_two rt.out (0) (0)
      rw [← hwz] at z
      try rw [← hwz]
      refine bodyPost_ret (v := (.agg #[.int .i64 (0), .int .i64 (0)])) (by simp [results, Tryd.results52, go_sem, z.1, z.2]) rfl ?_
      rw [← HV.out]
      exact HF.out.go hwz
  rw [decide_eq_false h1] at t1
  by_cases h2 : r = [116, 114, 117, 101]
  · rw [if_pos (Or.inr h2)] at hv
    rw [decide_eq_true h2] at t2
    clear h1 h2
    go_upto_region 10 with fail
    go_wp2_with fail
    cases hdl : dl s.l (k + 1 + m) with
    | true =>
      rw [looseR_t hdl] at hv
      have HV := Lib.hid hv.symm
      replace T2 := T2.out
      rw [dlV_t hdl] at T2
      rw [show ((k + 1 + m : Nat) : Int) = (k : Int) + 1 + (m : Int) by omega] at T2 HV
      replace T2 := Lib.hid T2
      clear hv hdl hc c1 hw1 hw2 t1 t2 t3 t4
      refine T2.out.mono ?_
      rintro e w2 ⟨rfl, hb2⟩
      have E2 := HD.out.1.fault.below hb2
      obtain ⟨w3, hw3⟩ : ∃ w3, w3 = w2.alloc (.cells #[.int .i64 (4), .int .i64 (k+1+m)] 27) := ⟨_, rfl⟩
      have E3 := E2.below (W' := w3) (by rw [hw3]; exact (Below.refl _ _).alloc (Nat.le_refl _) _)
      have hn3 : w3.heap[w2.heap.size]? = some (.cells #[.int .i64 (4), .int .i64 (k+1+m)] 27) := by rw [hw3]; exact heap_new _ _
      have n0 := blk_cell hn3 0
      have n1 := blk_cell hn3 1
      simp only [List.getElem?_toArray, List.getElem?_cons_succ, List.getElem?_cons_zero] at n0 n1
      obtain ⟨N, hN⟩ : ∃ N, N = w2.heap.size := ⟨_, rfl⟩
      rw [← hN] at n0 n1
      obtain ⟨r0, r1, q0, q1, -⟩ := E3.rt.facts
      have rt := Lib.hid E3.rt
      have HE := Lib.hid E3
      clear hb2 E2 E3 hn3
      go_upto_region 12 with fail
      rw [← hw3, ← hN]
      clear hw3 hN
      go_wp2_with fail
      obtain ⟨wz, hwz⟩ : ∃ wz, wz = (w3.setCell ⟨R, 0, none⟩ (.int .i64 (4))).setCell ⟨R, 1, none⟩ (.int .i64 (k+1+m)) := ⟨_, rfl⟩
      have z := ret_two rt.out (4) (k+1+m)
      rw [← hwz] at z
      try rw [← hwz]
      refine bodyPost_ret (v := (.agg #[.int .i64 (4), .int .i64 (k+1+m)])) (by simp [results, Tryd.results52, go_sem, z.1, z.2]) rfl ?_
      rw [← HV.out]
      exact HE.out.no hwz (by decide)
    | false =>
      rw [looseR_f hdl] at hv
      have HV := Lib.hid hv.symm
      replace T2 := T2.out
      rw [dlV_f hdl] at T2
      replace T2 := Lib.hid T2
      clear hv hdl hc c1 hw1 hw2 t1 t2 t3 t4
      refine T2.out.mono ?_
      rintro e w2 ⟨rfl, hb2⟩
      have E2 := HD.out.1.below hb2
      obtain ⟨w3, hw3⟩ : ∃ w3, w3 = w2.alloc (.cells #[.int .i64 0, .int .i64 0] 27) := ⟨_, rfl⟩
      have E3 := E2.below (W' := w3) (by rw [hw3]; exact (Below.refl _ _).alloc (Nat.le_refl _) _)
      have HE := Lib.hid E3
      clear hb2 E2 E3
      go_upto_region 14 with fail
      rw [← hw3]
      clear hw3
      have T4 := datum_at HE.out.st 1 1 [] (k + 1 + m) (by omega) (by omega)
      rw [show ((k + 1 + m : Nat) : Int) = (k : Int) + 1 + (m : Int) by omega, show strOfNums [] = ({ data := #[] } : ByteArray) from rfl] at T4
      replace T4 := Lib.hid T4
      go_wp2_with fail
      refine T4.out.mono ?_
      rintro e w5 ⟨rfl, hs5, hk5⟩
      have D5 := HE.out.kept hk5 hs5
      obtain ⟨r0, r1, q0, q1, -⟩ := D5.rt.facts
      have rt := Lib.hid D5.rt
      have HF := Lib.hid D5
      clear hs5 hk5 D5
      go_wp2_with fail
      obtain ⟨wz, hwz⟩ : ∃ wz, wz = (w5.setCell ⟨R, 0, none⟩ (.int .i64 (0))).setCell ⟨R, 1, none⟩ (.int .i64 (0)) := ⟨_, rfl⟩
      have z := ret_two rt.out (0) (0)
      rw [← hwz] at z
      try rw [← hwz]
      refine bodyPost_ret (v := (.agg #[.int .i64 (0), .int .i64 (0)])) (by simp [results, Tryd.results52, go_sem, z.1, z.2]) rfl ?_
      rw [← HV.out]
      exact HF.out.go hwz
  rw [decide_eq_false h2] at t2
  by_cases h3 : r = [102]
  · rw [if_neg (fun h => h.elim h1 h2), if_pos (Or.inl h3)] at hv
    rw [decide_eq_true h3] at t3
    clear h1 h2 h3
    go_upto_region 10 with fail
    go_wp2_with fail
    cases hdl : dl s.l (k + 1 + m) with
    | true =>
      rw [looseR_t hdl] at hv
      have HV := Lib.hid hv.symm
      replace T2 := T2.out
      rw [dlV_t hdl] at T2
      rw [show ((k + 1 + m : Nat) : Int) = (k : Int) + 1 + (m : Int) by omega] at T2 HV
      replace T2 := Lib.hid T2
      clear hv hdl hc c1 hw1 hw2 t1 t2 t3 t4
      refine T2.out.mono ?_
      rintro e w2 ⟨rfl, hb2⟩
      have E2 := HD.out.1.fault.below hb2
      obtain ⟨w3, hw3⟩ : ∃ w3, w3 = w2.alloc (.cells #[.int .i64 (4), .int .i64 (k+1+m)] 27) := ⟨_, rfl⟩
      have E3 := E2.below (W' := w3) (by rw [hw3]; exact (Below.refl _ _).alloc (Nat.le_refl _) _)
      have hn3 : w3.heap[w2.heap.size]? = some (.cells #[.int .i64 (4), .int .i64 (k+1+m)] 27) := by rw [hw3]; exact heap_new _ _
      have n0 := blk_cell hn3 0
      have n1 := blk_cell hn3 1
      simp only [List.getElem?_toArray, List.getElem?_cons_succ, List.getElem?_cons_zero] at n0 n1
      obtain ⟨N, hN⟩ : ∃ N, N = w2.heap.size := ⟨_, rfl⟩
      rw [← hN] at n0 n1
      obtain ⟨r0, r1, q0, q1, -⟩ := E3.rt.facts
      have rt := Lib.hid E3.rt
      have HE := Lib.hid E3
      clear hb2 E2 E3 hn3
      go_upto_region 12 with fail
      rw [← hw3, ← hN]
      clear hw3 hN
      go_wp2_with fail
      obtain ⟨wz, hwz⟩ : ∃ wz, wz = (w3.setCell ⟨R, 0, none⟩ (.int .i64 (4))).setCell ⟨R, 1, none⟩ (.int .i64 (k+1+m)) := ⟨_, rfl⟩
      have z := ret_two rt.out (4) (k+1+m)
      rw [← hwz] at z
      try rw [← hwz]
      refine bodyPost_ret (v := (.agg #[.int .i64 (4), .int .i64 (k+1+m)])) (by simp [results, Tryd.results52, go_sem, z.1, z.2]) rfl ?_
      rw [← HV.out]
      exact HE.out.no hwz (by decide)
    | false =>
      rw [looseR_f hdl] at hv
      have HV := Lib.hid hv.symm
      replace T2 := T2.out
      rw [dlV_f hdl] at T2
      replace T2 := Lib.hid T2
      clear hv hdl hc c1 hw1 hw2 t1 t2 t3 t4
      refine T2.out.mono ?_
      rintro e w2 ⟨rfl, hb2⟩
      have E2 := HD.out.1.below hb2
      obtain ⟨w3, hw3⟩ : ∃ w3, w3 = w2.alloc (.cells #[.int .i64 0, .int .i64 0] 27) := ⟨_, rfl⟩
      have E3 := E2.below (W' := w3) (by rw [hw3]; exact (Below.refl _ _).alloc (Nat.le_refl _) _)
      have HE := Lib.hid E3
      clear hb2 E2 E3
      go_upto_region 14 with fail
      rw [← hw3]
      clear hw3
      have T4 := datum_at HE.out.st 1 0 [] (k + 1 + m) (by omega) (by omega)
      rw [show ((k + 1 + m : Nat) : Int) = (k : Int) + 1 + (m : Int) by omega, show strOfNums [] = ({ data := #[] } : ByteArray) from rfl] at T4
      replace T4 := Lib.hid T4
      go_wp2_with fail
      refine T4.out.mono ?_
      rintro e w5 ⟨rfl, hs5, hk5⟩
      have D5 := HE.out.kept hk5 hs5
      obtain ⟨r0, r1, q0, q1, -⟩ := D5.rt.facts
      have rt := Lib.hid D5.rt
      have HF := Lib.hid D5
      clear hs5 hk5 D5
      go_wp2_with fail
      obtain ⟨wz, hwz⟩ : ∃ wz, wz = (w5.setCell ⟨R, 0, none⟩ (.int .i64 (0))).setCell ⟨R, 1, none⟩ (.int .i64 (0)) := ⟨_, rfl⟩
      have z := ret_two rt.out (0) (0)
      rw [← hwz] at z
      try rw [← hwz]
      refine bodyPost_ret (v := (.agg #[.int .i64 (0), .int .i64 (0)])) (by simp [results, Tryd.results52, go_sem, z.1, z.2]) rfl ?_
      rw [← HV.out]
      exact HF.out.go hwz
  rw [decide_eq_false h3] at t3
  by_cases h4 : r = [102, 97, 108, 115, 101]
  · rw [if_neg (fun h => h.elim h1 h2), if_pos (Or.inr h4)] at hv
    rw [decide_eq_true h4] at t4
    clear h1 h2 h3 h4
    go_upto_region 10 with fail
    go_wp2_with fail
    cases hdl : dl s.l (k + 1 + m) with
    | true =>
      rw [looseR_t hdl] at hv
      have HV := Lib.hid hv.symm
      replace T2 := T2.out
      rw [dlV_t hdl] at T2
      rw [show ((k + 1 + m : Nat) : Int) = (k : Int) + 1 + (m : Int) by omega] at T2 HV
      replace T2 := Lib.hid T2
      clear hv hdl hc c1 hw1 hw2 t1 t2 t3 t4
      refine T2.out.mono ?_
      rintro e w2 ⟨rfl, hb2⟩
      have E2 := HD.out.1.fault.below hb2
      obtain ⟨w3, hw3⟩ : ∃ w3, w3 = w2.alloc (.cells #[.int .i64 (4), .int .i64 (k+1+m)] 27) := ⟨_, rfl⟩
      have E3 := E2.below (W' := w3) (by rw [hw3]; exact (Below.refl _ _).alloc (Nat.le_refl _) _)
      have hn3 : w3.heap[w2.heap.size]? = some (.cells #[.int .i64 (4), .int .i64 (k+1+m)] 27) := by rw [hw3]; exact heap_new _ _
      have n0 := blk_cell hn3 0
      have n1 := blk_cell hn3 1
      simp only [List.getElem?_toArray, List.getElem?_cons_succ, List.getElem?_cons_zero] at n0 n1
      obtain ⟨N, hN⟩ : ∃ N, N = w2.heap.size := ⟨_, rfl⟩
      rw [← hN] at n0 n1
      obtain ⟨r0, r1, q0, q1, -⟩ := E3.rt.facts
      have rt := Lib.hid E3.rt
      have HE := Lib.hid E3
      clear hb2 E2 E3 hn3
      go_upto_region 12 with fail
      rw [← hw3, ← hN]
      clear hw3 hN
      go_wp2_with fail
      obtain ⟨wz, hwz⟩ : ∃ wz, wz = (w3.setCell ⟨R, 0, none⟩ (.int .i64 (4))).setCell ⟨R, 1, none⟩ (.int .i64 (k+1+m)) := ⟨_, rfl⟩
      have z := ret_two rt.out (4) (k+1+m)
      rw [← hwz] at z
      try rw [← hwz]
      refine bodyPost_ret (v := (.agg #[.int .i64 (4), .int .i64 (k+1+m)])) (by simp [results, Tryd.results52, go_sem, z.1, z.2]) rfl ?_
      rw [← HV.out]
      exact HE.out.no hwz (by decide)
    | false =>
      rw [looseR_f hdl] at hv
      have HV := Lib.hid hv.symm
      replace T2 := T2.out
      rw [dlV_f hdl] at T2
      replace T2 := Lib.hid T2
      clear hv hdl hc c1 hw1 hw2 t1 t2 t3 t4
      refine T2.out.mono ?_
      rintro e w2 ⟨rfl, hb2⟩
      have E2 := HD.out.1.below hb2
      obtain ⟨w3, hw3⟩ : ∃ w3, w3 = w2.alloc (.cells #[.int .i64 0, .int .i64 0] 27) := ⟨_, rfl⟩
      have E3 := E2.below (W' := w3) (by rw [hw3]; exact (Below.refl _ _).alloc (Nat.le_refl _) _)
      have HE := Lib.hid E3
      clear hb2 E2 E3
      go_upto_region 14 with fail
      rw [← hw3]
      clear hw3
      have T4 := datum_at HE.out.st 1 0 [] (k + 1 + m) (by omega) (by omega)
      rw [show ((k + 1 + m : Nat) : Int) = (k : Int) + 1 + (m : Int) by omega, show strOfNums [] = ({ data := #[] } : ByteArray) from rfl] at T4
      replace T4 := Lib.hid T4
      go_wp2_with fail
      refine T4.out.mono ?_
      rintro e w5 ⟨rfl, hs5, hk5⟩
      have D5 := HE.out.kept hk5 hs5
      obtain ⟨r0, r1, q0, q1, -⟩ := D5.rt.facts
      have rt := Lib.hid D5.rt
      have HF := Lib.hid D5
      clear hs5 hk5 D5
      go_wp2_with fail
      obtain ⟨wz, hwz⟩ : ∃ wz, wz = (w5.setCell ⟨R, 0, none⟩ (.int .i64 (0))).setCell ⟨R, 1, none⟩ (.int .i64 (0)) := ⟨_, rfl⟩
      have z := ret_two rt.out (0) (0)
      rw [← hwz] at z
      try rw [← hwz]
      refine bodyPost_ret (v := (.agg #[.int .i64 (0), .int .i64 (0)])) (by simp [results, Tryd.results52, go_sem, z.1, z.2]) rfl ?_
      rw [← HV.out]
      exact HF.out.go hwz
  rw [decide_eq_false h4] at t4
  rw [if_neg (fun h => h.elim h1 h2), if_neg (fun h => h.elim h3 h4)] at hv
  have HV := Lib.hid hv.symm
  have T := Lib.hid (fun W => form_at (k : Int) W)
  have HD1 := Lib.hid HD.out.1
  clear hv h1 h2 h3 h4 hw1 hw2
  go_wp2_with fail
  refine (T.out _).mono ?_
  rintro e W2 ⟨rfl, hb⟩
  have D2 := HD1.out.below hb
  obtain ⟨r0, r1, q0, q1, -⟩ := D2.rt.facts
  have rt := Lib.hid D2.rt
  have HE := Lib.hid D2
  clear hb D2
  go_wp2_with fail
  obtain ⟨wz, hwz⟩ : ∃ wz, wz = (W2.setCell ⟨R, 0, none⟩ (.int .i64 (4))).setCell ⟨R, 1, none⟩ (.int .i64 (k)) := ⟨_, rfl⟩
  have z := ret_two rt.out (4) (k)
  rw [← hwz] at z
  try rw [← hwz]
  refine bodyPost_ret (v := (.agg #[.int .i64 (4), .int .i64 (k)])) (by simp [results, Tryd.results52, go_sem, z.1, z.2]) rfl ?_
  rw [← HV.out]
  exact HE.out.fault.no hwz (by decide)
end Go.Proofs.YtgnnkfdpfmlajaaDoor
