/- Contracts: runs. Conditions: none. -/
import Derived.Test.YtgnnkfdpfmlajaaDoorLxBe
import Derived.Test.YtgnnkfdpfmlajaaDoorLxZa
namespace Go.Proofs.YtgnnkfdpfmlajaaDoor
open Go.RowKit Bg Lx
set_option linter.unusedVariables false
set_option linter.unusedSimpArgs false

/-- A token behind which a delimiter must stand. -/
def looseR (s : Sit) (e : Nat) (ts : List Tk) (t : Tk) : Rs := if dl s.l e = true then .no 4 e else .go e (ts ++ [t])
theorem looseR_t {s : Sit} {e : Nat} {ts : List Tk} {t : Tk} (h : dl s.l e = true) : looseR s e ts t = .no 4 e := by unfold looseR; rw [if_pos h]
theorem looseR_f {s : Sit} {e : Nat} {ts : List Tk} {t : Tk} (h : dl s.l e = false) : looseR s e ts t = .go e (ts ++ [t]) := by unfold looseR; rw [if_neg (by rw [h]; decide)]
theorem dlV_t {l : List Int} {k : Nat} (h : dl l k = true) : dlV l k = .agg #[.int .i64 4, .int .i64 k] := by unfold dlV; rw [if_pos h]
theorem dlV_f {l : List Int} {k : Nat} (h : dl l k = false) : dlV l k = .agg #[.int .i64 0, .int .i64 0] := by unfold dlV; rw [if_neg (by rw [h]; decide)]
theorem lit_eq {A B : List Int} (hA : Byts A) (L : List UInt8) (hL : (L.map fun b => (b.toNat : Int)) = B) : ((strOfNums A).toList == L) = decide (A = B) := by
  rw [Bool.eq_iff_iff, beq_iff_eq, decide_eq_true_eq, ByteArray.toList_eq]
  have e := byL_str hA
  unfold byL at e
  constructor
  · intro h
    rw [← e, h, hL]
  · intro h
    have h2 : (strOfNums A).data.toList = (strOfNums B).data.toList := by rw [h]
    rw [h2, ← hL]
    show (L.map _).map _ = L
    rw [List.map_map]
    conv => rhs; rw [← List.map_id L]
    refine List.map_congr_left fun x _ => ?_
    simp
theorem run_ascii {r : List Int} : ∀ x ∈ run r, 0 ≤ x ∧ x < 128 := fun x hx => by
  have h := run_sym r x hx
  unfold symB others digitB at h
  simp only [Bool.or_eq_true, decide_eq_true_eq, List.contains_iff_mem, List.mem_cons, List.not_mem_nil, or_false] at h
  omega
set_option maxRecDepth 100000 in
set_option maxHeartbeats 8000000 in
theorem word_at {s : Sit} {k : Nat} {ts : List Tk} {w : World} (h : St s k ts w) (hk : k < s.l.length) (hs : symB (s.l.getD k 0) = true) :
    Calls Tryd.prog 43 #[.pointer (some ⟨s.b, 0, none⟩)] w (Fin s w (looseR s (k + (run (s.l.drop k)).length) ts (runTk (run (s.l.drop k)) k))) := by
  obtain ⟨W0, hW0⟩ : ∃ W, W = w.alloc (.cells #[.int .i64 0, .int .i64 0] 27) := ⟨_, rfl⟩
  have D0 := Rd.new h
  rw [← hW0] at D0
  obtain ⟨R, hR⟩ : ∃ R, R = w.heap.size := ⟨_, rfl⟩
  rw [← hR] at D0
  have hlen := h.len
  have hm1 := run_pos (r := s.l.drop k) (drop_ne hk) (by rw [drop_head]; exact hs)
  have hm2 := run_le (s.l.drop k)
  rw [List.length_drop] at hm2
  have T1 := prun_at D0.st k (by omega)
  have hA := run_ascii (r := s.l.drop k)
  have hB : Byts (run (s.l.drop k)) := fun x hx => by have := hA x hx; omega
  unfold RunIs at T1
  obtain ⟨r, hr⟩ : ∃ r, r = run (s.l.drop k) := ⟨_, rfl⟩
  rw [← hr] at hm1 hm2 T1 hA hB ⊢
  obtain ⟨V, hV⟩ : ∃ V, V = looseR s (k + r.length) ts (runTk r k) := ⟨_, rfl⟩
  rw [← hV]
  have hdot := lit_eq (B := [46]) hB [46] rfl
  have hz : (strOfNums r).size = r.length := str_size r
  have T2 := fun W (D : Rd s w R k ts W) => pdelimited_at D.st (k + r.length) (by omega)
  have T3 := pint_at (strOfNums r) (by omega) (by omega) (by rw [byL_str hB]; exact hA)
  obtain ⟨S, hS⟩ : ∃ S, S = strOfNums r := ⟨_, rfl⟩
  rw [← hS] at hdot hz T3
  obtain ⟨m, hm⟩ : ∃ m, m = r.length := ⟨_, rfl⟩
  rw [← hm] at hm1 hm2 T1 hz T2
  have hcv : ∀ q c' W, Arg .u8 W q c' r → (convert 22 9 (.slice q m c')).run Tryd.prog W = .ok (.string S) W := fun q c' W a => by
    have := conv_arg a
    rw [← hm, ← hS] at this
    exact this
  have HD := Lib.hid (And.intro D0 (And.intro hV (And.intro hcv (And.intro hm (And.intro hS hB)))))
  have c1 := D0.st.cell.2.1
  have hw1 : IntKind.i64.wrap ((k : Int) + (m : Int)) = (k : Int) + (m : Int) := by rw [wrap_small _ (by omega) (by omega)]
  have hzI : (S.size : Int) = (m : Int) := by omega
  rw [show ((k + m : Nat) : Int) = (k : Int) + (m : Int) by omega] at T2
  replace T1 := Lib.hid T1
  replace T2 := Lib.hid T2
  replace T3 := Lib.hid T3
  clear h D0 hV hcv hr hS hm hA hB hs
  go_enter Tryd.func43, Tryd.ntmps43
  go_upto_region 1 with fail
  rw [← hW0, ← hR]
  clear hW0 hR
  go_wp2_with fail
  refine T1.out.mono ?_
  rintro e w' ⟨⟨q, c', rfl, a⟩, rfl⟩
  have hc := HD.out.2.2.1 q c' _ a
  clear a
  go_wp2_with fail
  replace T2 := T2.out _ HD.out.1
  have hv := HD.out.2.1
  rw [← HD.out.2.2.2.1] at hv
  cases hdl : dl s.l (k + m) with
  | true =>
    rw [dlV_t hdl] at T2
    rw [looseR_t hdl] at hv
    have HV := Lib.hid hv.symm
    replace T2 := Lib.hid T2
    rw [show ((k + m : Nat) : Int) = (k : Int) + (m : Int) by omega] at T2 HV
    clear hv hdl hc c1 hw1 hzI hz
    refine T2.out.mono ?_
    rintro e w2 ⟨rfl, hb2⟩
    have E2 := HD.out.1.fault.below hb2
    obtain ⟨w3, hw3⟩ : ∃ w3, w3 = w2.alloc (.cells #[.int .i64 (4), .int .i64 (k+m)] 27) := ⟨_, rfl⟩
    have E3 := E2.below (W' := w3) (by rw [hw3]; exact (Below.refl _ _).alloc (Nat.le_refl _) _)
    have hn3 : w3.heap[w2.heap.size]? = some (.cells #[.int .i64 (4), .int .i64 (k+m)] 27) := by rw [hw3]; exact heap_new _ _
    have n0 := blk_cell hn3 0
    have n1 := blk_cell hn3 1
    simp only [List.getElem?_toArray, List.getElem?_cons_succ, List.getElem?_cons_zero] at n0 n1
    obtain ⟨N, hN⟩ : ∃ N, N = w2.heap.size := ⟨_, rfl⟩
    rw [← hN] at n0 n1
    obtain ⟨r0, r1, q0, q1, -⟩ := E3.rt.facts
    have rt := Lib.hid E3.rt
    have HE := Lib.hid E3
    clear hb2 E2 E3 hn3
    go_upto_region 4 with fail
    rw [← hw3, ← hN]
    clear hw3 hN
    go_wp2_with fail
    obtain ⟨wz, hwz⟩ : ∃ wz, wz = (w3.setCell ⟨R, 0, none⟩ (.int .i64 (4))).setCell ⟨R, 1, none⟩ (.int .i64 (k+m)) := ⟨_, rfl⟩
    have z := ret_two rt.out (4) (k+m)
    rw [← hwz] at z
    try rw [← hwz]
    refine bodyPost_ret (v := (.agg #[.int .i64 (4), .int .i64 (k+m)])) (by simp [results, Tryd.results43, go_sem, z.1, z.2]) rfl ?_
    rw [← HV.out]
    exact HE.out.no hwz (by decide)
  | false =>
    rw [dlV_f hdl] at T2
    rw [looseR_f hdl] at hv
    have HV := Lib.hid hv.symm
    replace T2 := Lib.hid T2
    clear hv hdl hc c1 hw1 hzI
    refine T2.out.mono ?_
    rintro e w2 ⟨rfl, hb2⟩
    have E2 := HD.out.1.below hb2
    obtain ⟨w3, hw3⟩ : ∃ w3, w3 = w2.alloc (.cells #[.int .i64 0, .int .i64 0] 27) := ⟨_, rfl⟩
    have E3 := E2.below (W' := w3) (by rw [hw3]; exact (Below.refl _ _).alloc (Nat.le_refl _) _)
    have HE := Lib.hid E3
    clear hb2 E2 E3
    go_upto_region 6 with fail
    rw [← hw3]
    clear hw3
    by_cases hd : r = [46]
    · rw [decide_eq_true hd] at hdot
      have hm0 : m = 1 := by rw [HD.out.2.2.2.1, hd]; rfl
      have T4 := mark_at HE.out.st 6 1 (by decide) (by decide) (by omega)
      have hv := HV.out
      rw [hd, hm0] at hv
      have HV2 := Lib.hid hv
      replace T4 := Lib.hid T4
      clear hv hd hm0 hz
      go_wp2_with fail
      refine T4.out.mono ?_
      rintro e w4 ⟨rfl, hs4, hk4⟩
      have D4 := HE.out.kept hk4 hs4
      obtain ⟨r0, r1, q0, q1, -⟩ := D4.rt.facts
      have rt := Lib.hid D4.rt
      have HF := Lib.hid D4
      clear hs4 hk4 D4 hdot
      go_wp2_with fail
      obtain ⟨wz, hwz⟩ : ∃ wz, wz = (w4.setCell ⟨R, 0, none⟩ (.int .i64 (0))).setCell ⟨R, 1, none⟩ (.int .i64 (0)) := ⟨_, rfl⟩
      have z := ret_two rt.out (0) (0)
      rw [← hwz] at z
      try rw [← hwz]
      refine bodyPost_ret (v := (.agg #[.int .i64 (0), .int .i64 (0)])) (by simp [results, Tryd.results43, go_sem, z.1, z.2]) rfl ?_
      rw [← HV2.out]
      exact HF.out.go hwz
    · rw [decide_eq_false hd] at hdot
      have Hd := Lib.hid hd
      clear hd hz
      go_wp2_with fail
      refine (T3.out _).mono ?_
      rintro e w4 ⟨⟨t, b, rfl, hI⟩, hb4⟩
      have D4 := HE.out.below hb4
      rw [HD.out.2.2.2.2.1, byL_str HD.out.2.2.2.2.2] at hI
      have hv := HV.out
      unfold runTk at hv
      rw [if_neg Hd.out] at hv
      cases hi : int r with
      | none =>
        rw [hi] at hI hv
        have hb0 : b = false := hI
        subst hb0
        have HV2 := Lib.hid hv
        have T4 := datum_at D4.st 5 0 r (k + m) (by omega) (by omega)
        rw [← HD.out.2.2.2.2.1] at T4
        rw [show ((k + m : Nat) : Int) = (k : Int) + (m : Int) by omega] at T4
        replace T4 := Lib.hid T4
        have HD4 := Lib.hid D4
        clear hI hi hv hb4 D4 hdot
        go_wp2_with fail
        refine T4.out.mono ?_
        rintro e w5 ⟨rfl, hs5, hk5⟩
        have D5 := HD4.out.kept hk5 hs5
        obtain ⟨r0, r1, q0, q1, -⟩ := D5.rt.facts
        have rt := Lib.hid D5.rt
        have HF := Lib.hid D5
        clear hs5 hk5 D5
        go_wp2_with fail
        obtain ⟨wz, hwz⟩ : ∃ wz, wz = (w5.setCell ⟨R, 0, none⟩ (.int .i64 (0))).setCell ⟨R, 1, none⟩ (.int .i64 (0)) := ⟨_, rfl⟩
        have z := ret_two rt.out (0) (0)
        rw [← hwz] at z
        try rw [← hwz]
        refine bodyPost_ret (v := (.agg #[.int .i64 (0), .int .i64 (0)])) (by simp [results, Tryd.results43, go_sem, z.1, z.2]) rfl ?_
        rw [← HV2.out]
        exact HF.out.go hwz
      | some x =>
        rw [hi] at hI hv
        obtain ⟨hb0, hx⟩ : b = true ∧ byL t = x := hI
        subst hb0
        have HV2 := Lib.hid hv
        have T4 := datum_at D4.st 2 0 x (k + m) (by omega) (by omega)
        rw [← hx, str_byL t, hx] at T4
        rw [show ((k + m : Nat) : Int) = (k : Int) + (m : Int) by omega] at T4
        replace T4 := Lib.hid T4
        have HD4 := Lib.hid D4
        clear hi hv hb4 D4 hx hdot
        go_wp2_with fail
        refine T4.out.mono ?_
        rintro e w5 ⟨rfl, hs5, hk5⟩
        have D5 := HD4.out.kept hk5 hs5
        obtain ⟨r0, r1, q0, q1, -⟩ := D5.rt.facts
        have rt := Lib.hid D5.rt
        have HF := Lib.hid D5
        clear hs5 hk5 D5
        go_wp2_with fail
        obtain ⟨wz, hwz⟩ : ∃ wz, wz = (w5.setCell ⟨R, 0, none⟩ (.int .i64 (0))).setCell ⟨R, 1, none⟩ (.int .i64 (0)) := ⟨_, rfl⟩
        have z := ret_two rt.out (0) (0)
        rw [← hwz] at z
        try rw [← hwz]
        refine bodyPost_ret (v := (.agg #[.int .i64 (0), .int .i64 (0)])) (by simp [results, Tryd.results43, go_sem, z.1, z.2]) rfl ?_
        rw [← HV2.out]
        exact HF.out.go hwz
end Go.Proofs.YtgnnkfdpfmlajaaDoor
