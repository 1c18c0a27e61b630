/- Contracts: nested comments. Conditions: none. -/
import Derived.Test.YtgnnkfdpfmlajaaDoorLxY
import Derived.Test.YtgnnkfdpfmlajaaDoorLxZb
import Derived.Lib.SlBytesConst
namespace Go.Proofs.YtgnnkfdpfmlajaaDoor
open Go.RowKit Bg Lx
set_option linter.unusedVariables false
set_option linter.unusedSimpArgs false

/-- What a nested comment comes to. -/
def comR (s : Sit) (f k : Nat) (d : Int) (ts : List Tk) : Rs := if (cm s.l f k d).2.1 = 0 then .go (cm s.l f k d).1.toNat ts else .no (cm s.l f k d).2.1 (cm s.l f k d).2.2
theorem own_arg {t : List Int} {W : World} {fr : Nat × Nat} (hl : t.length ≤ 100) : Arg .u8 (W.alloc (.cells (t.map (Value.int .u8)).toArray 5 fr)) (some ⟨W.heap.size, 0, none⟩) t.length t :=
  ⟨fun h => (by cases h), Nat.le_refl _, by omega, fun i hi => ⟨W.heap.size, 0, rfl, by
    rw [blk_cell (heap_new W _), Nat.zero_add, List.getElem?_toArray]
    exact row_get hi⟩⟩
theorem hasW {s : Sit} {k0 : Nat} {ts : List Tk} {W : World} (h : St s k0 ts W) {b off : Nat} (hp : s.p = some ⟨b, off, none⟩) {k : Nat} (hk : k ≤ s.l.length) {t : List Int} (ht : Byts t) (hl : t.length ≤ 100) (fr : Nat × Nat) :
    Calls Tryd.prog 49 #[.slice (some ⟨b, off + k, none⟩) (s.l.length - k) (s.c - k), .slice (some ⟨W.heap.size, 0, none⟩) t.length t.length] (W.alloc (.cells (t.map (Value.int .u8)).toArray 5 fr)) fun e w' => e = .returned (.bool (atS (s.l.drop k) t)) ∧ (W.alloc (.cells (t.map (Value.int .u8)).toArray 5 fr)) = w' := by
  have a := (h.src.alloc (.cells (t.map (Value.int .u8)).toArray 5 fr)).drop hk
  rw [hp] at a
  have e : (Option.map (fun x : Addr => x.add k) (some ⟨b, off, none⟩)) = some ⟨b, off + k, none⟩ := congrArg some (add_at b off k)
  rw [e] at a
  have := hasP_at a (own_arg (W := W) (fr := fr) hl) (h.byts.drop k) ht
  rw [List.length_drop] at this
  exact this
theorem comR_end {s : Sit} {f k : Nat} {d : Int} {ts : List Tk} (h : s.l.length ≤ k) : comR s f k d ts = .no 4 f := by unfold comR; rw [cm_end h, if_neg (show ¬ (4 : Int) = 0 by decide)]
theorem comR_deep {s : Sit} {f k : Nat} {ts : List Tk} (h : k < s.l.length) (ho : atS (s.l.drop k) [35, 124] = true) : comR s f k 200 ts = .no 5 k := by unfold comR; rw [cm_deep h ho, if_neg (show ¬ (5 : Int) = 0 by decide)]
theorem comR_open {s : Sit} {f k : Nat} {d : Int} {ts : List Tk} (h : k < s.l.length) (ho : atS (s.l.drop k) [35, 124] = true) (hd : d ≠ 200) : comR s f k d ts = comR s f (k + 2) (d + 1) ts := by unfold comR; rw [cm_open h ho hd]
theorem comR_done {s : Sit} {f k : Nat} {d : Int} {ts : List Tk} (h : k < s.l.length) (ho : atS (s.l.drop k) [35, 124] = false) (hc : atS (s.l.drop k) [124, 35] = true) (hd : d - 1 = 0) : comR s f k d ts = .go (k + 2) ts := by
  unfold comR
  rw [cm_done h ho hc hd, if_pos rfl]
  congr 1
theorem comR_close {s : Sit} {f k : Nat} {d : Int} {ts : List Tk} (h : k < s.l.length) (ho : atS (s.l.drop k) [35, 124] = false) (hc : atS (s.l.drop k) [124, 35] = true) (hd : ¬ d - 1 = 0) : comR s f k d ts = comR s f (k + 2) (d - 1) ts := by unfold comR; rw [cm_close h ho hc hd]
theorem comR_none {s : Sit} {f k : Nat} {d : Int} {ts : List Tk} (h : k < s.l.length) (ho : atS (s.l.drop k) [35, 124] = false) (hc : atS (s.l.drop k) [124, 35] = false) (e : chr (s.l.drop k) = none) : comR s f k d ts = .no 4 k := by unfold comR; rw [cm_none h ho hc e, if_neg (show ¬ (4 : Int) = 0 by decide)]
theorem comR_some {s : Sit} {f k : Nat} {d c : Int} {n : Nat} {ts : List Tk} (h : k < s.l.length) (hn : 1 ≤ n) (ho : atS (s.l.drop k) [35, 124] = false) (hc : atS (s.l.drop k) [124, 35] = false) (e : chr (s.l.drop k) = some (c, n)) : comR s f k d ts = comR s f (k + n) d ts := by unfold comR; rw [cm_some h hn ho hc e]
/-- A block of another type's cells: what is read of a fault that has come. -/
theorem flt_cells {w3 : World} {N : Nat} {x y : Int} (h : w3.heap[N]? = some (.cells #[.int .i64 x, .int .i64 y] 27)) : w3.cell? ⟨N, 0, none⟩ = some (.int .i64 x) ∧ w3.cell? ⟨N, 1, none⟩ = some (.int .i64 y) := ⟨blk_cell h 0, blk_cell h 1⟩
set_option maxRecDepth 100000 in
set_option maxHeartbeats 8000000 in
theorem nested_at {s : Sit} {k0 : Nat} {ts : List Tk} {w : World} (h : St s k0 ts w) :
    Calls Tryd.prog 50 #[.pointer (some ⟨s.b, 0, none⟩)] w (Fin s w (comR s k0 k0 0 ts)) := by
  obtain ⟨V, hV⟩ : ∃ V, V = comR s k0 k0 0 ts := ⟨_, rfl⟩
  rw [← hV]
  obtain ⟨W0, hW0⟩ : ∃ W, W = w.alloc (.cells #[.int .i64 0, .int .i64 0] 27) := ⟨_, rfl⟩
  have D0 := Rd.new h
  rw [← hW0] at D0
  obtain ⟨R, hR⟩ : ∃ R, R = w.heap.size := ⟨_, rfl⟩
  rw [← hR] at D0
  have HD := Lib.hid (And.intro D0 hV)
  have hlen := h.len
  have hk0 := h.kle
  have c0 := D0.st.cell.2.1
  clear h D0 hV
  have kc := fun (w : World) (C : Array Value) (n c : Nat) => Lib.run_convert_bytes_const (P := Tryd.prog) w 22 5 C n c Tryd.underlying22 Tryd.underlying5
  go_enter Tryd.func50, Tryd.ntmps50
  go_upto_region 1 with fail
  rw [← hW0, ← hR]
  clear hW0 hR
  go_wp2_with fail
  clear c0
  go_loopw [4, 5, 6] (fun t _ _ wr => ∃ (k : Nat) (d : Int), t = .int .i64 d ∧ k ≤ s.l.length ∧ d ≤ 200 ∧ 0 ≤ d + (k : Int) ∧ Hid (Rd s w R k ts wr ∧ comR s k0 k d ts = V)) (fun _ _ _ wr => s.l.length - atOf s.b wr)
  case atStart => exact ⟨k0, 0, rfl, hk0, by omega, by omega, Lib.hid ⟨HD.out.1, HD.out.2.symm⟩⟩
  case round =>
    obtain ⟨k, d, rfl, hk, hd0, hd1, HK⟩ := hrel
    have c0 := HK.out.1.st.cell.1
    have c1 := HK.out.1.st.cell.2.1
    by_cases hlt : k < s.l.length
    · have f1 : (k : Int) < (s.l.length : Int) := by omega
      have d1 : decide ((k : Int) < (s.l.length : Int)) = true := by rw [decide_eq_true_eq]; exact f1
      obtain ⟨b, off, hp, hcell⟩ := HK.out.1.st.src.at (by omega)
      have hle := HK.out.1.st.src.le
      rw [hp] at c0
      have f5 : ¬ s.c = k := by omega
      have f6 : (k : Int) ≤ (s.l.length : Int) := by omega
      clear hcell
      go_upto_region 2 with fail
      go_quiet (fail)
      obtain ⟨W1, hW1⟩ : ∃ W, W = wr.drewN nq := ⟨_, rfl⟩
      have D1 := HK.out.1.below (W' := W1) (by rw [hW1]; exact below_drewN (Below.refl _ _) nq)
      rw [← hW1]
      clear hW1 c0 c1
      have c0 := D1.st.cell.1
      have c1 := D1.st.cell.2.1
      rw [hp] at c0
      go_upto_region 3 with fail
      go_quiet (fail)
      obtain ⟨W2, hW2⟩ : ∃ W, W = W1.drewN nq := ⟨_, rfl⟩
      have D2 := D1.below (W' := W2) (by rw [hW2]; exact below_drewN (Below.refl _ _) nq)
      rw [← hW2]
      clear hW2 c0 c1 D1
      have T1 := hasW D2.st hp hk open_byts (by decide) (2, 3)
      simp only [List.map_cons, List.map_nil, List.length_cons, List.length_nil, Nat.zero_add, Nat.reduceAdd] at T1
      obtain ⟨W3, hW3⟩ : ∃ W, W = W2.alloc (.cells #[.int .u8 35, .int .u8 124] 5 (2, 3)) := ⟨_, rfl⟩
      rw [← hW3] at T1
      have D3 := D2.below (W' := W3) (by rw [hW3]; exact (Below.refl _ _).alloc (Nat.le_refl _) _)
      have hw2 : IntKind.i64.wrap ((k : Int) + 2) = (k : Int) + 2 := by rw [wrap_small _ (by omega) (by omega)]
      cases hO : atS (s.l.drop k) [35, 124] with
      | true =>
        rw [hO] at T1
        have hk2 := atS_len hO
        rw [List.length_drop] at hk2
        simp only [List.length_cons, List.length_nil] at hk2
        replace T1 := Lib.hid T1
        have c1 := D3.st.cell.2.1
        have e1 := D3.st.cell.2.2.2 1
        obtain ⟨r0, r1, q0, q1, -⟩ := D3.rt.facts
        have rt := Lib.hid D3.rt
        have HD3 := Lib.hid D3
        by_cases h200 : d = 200
        · subst h200
          have hv := HK.out.2
          rw [comR_deep hlt hO] at hv
          have HV := Lib.hid hv
          clear hO hv D3 D2 hw2 f1 d1 f5 f6 hle hp
          go_wp2_with fail
          rw [← hW3]
          refine T1.out.mono ?_
          rintro e w' ⟨rfl, rfl⟩
          clear hW3
          go_wp2_with fail
          obtain ⟨wz, hwz⟩ : ∃ wz, wz = (W3.setCell ⟨R, 0, none⟩ (.int .i64 (5))).setCell ⟨R, 1, none⟩ (.int .i64 (k)) := ⟨_, rfl⟩
          have z := ret_two rt.out (5) (k)
          rw [← hwz] at z
          try rw [← hwz]
          refine bodyPost_ret (v := (.agg #[.int .i64 (5), .int .i64 (k)])) (by simp [results, Tryd.results50, go_sem, z.1, z.2]) rfl ?_
          rw [← HV.out]
          exact HD3.out.fault.no hwz (by decide)
        · have q1' : decide (d = 200) = false := by rw [decide_eq_false_iff_not]; exact h200
          have q2' : (d == 200) = false := by rw [beq_eq_false_iff_ne]; exact h200
          have hwd : IntKind.i64.wrap (d + 1) = d + 1 := wrap_signed _ (by omega) (by omega)
          have hv := HK.out.2
          rw [comR_open hlt hO h200] at hv
          have HV := Lib.hid hv
          have G := D3.st.go (k' := k + 2) (by omega) (by omega)
          have HG := Lib.hid (D3.kept G.2 G.1)
          clear hO hv D3 D2 f1 d1 f5 f6 hle hp G
          go_wp2_with fail
          rw [← hW3]
          refine T1.out.mono ?_
          rintro e w' ⟨rfl, rfl⟩
          clear hW3
          go_wp2_with fail
          go_roundw
          case rel => exact ⟨k + 2, d + 1, rfl, by omega, by omega, by omega, Lib.hid ⟨HG.out, HV.out⟩⟩
          case measure =>
            have e2 := HG.out.st.atOf
            have e3 : (((k + 2 : Nat) : Int)) = (k : Int) + 2 := by omega
            rw [e3] at e2
            rw [e2, HK.out.1.st.atOf]
            omega
      | false =>
        rw [hO] at T1
        replace T1 := Lib.hid T1
        have T2 := hasW D3.st hp hk close_byts (by decide) (2, 3)
        simp only [List.map_cons, List.map_nil, List.length_cons, List.length_nil, Nat.zero_add, Nat.reduceAdd] at T2
        obtain ⟨W5, hW5⟩ : ∃ W, W = W3.alloc (.cells #[.int .u8 124, .int .u8 35] 5 (2, 3)) := ⟨_, rfl⟩
        rw [← hW5] at T2
        have D5 := D3.below (W' := W5) (by rw [hW5]; exact (Below.refl _ _).alloc (Nat.le_refl _) _)
        have c1 := D5.st.cell.2.1
        have e1 := D5.st.cell.2.2.2 1
        have HD5 := Lib.hid D5
        cases hC : atS (s.l.drop k) [124, 35] with
        | true =>
          rw [hC] at T2
          have hk2 := atS_len hC
          rw [List.length_drop] at hk2
          simp only [List.length_cons, List.length_nil] at hk2
          replace T2 := Lib.hid T2
          have hwd : IntKind.i64.wrap (d - 1) = d - 1 := wrap_signed _ (by omega) (by omega)
          have G := D5.st.go (k' := k + 2) (by omega) (by omega)
          obtain ⟨W6, hW6⟩ : ∃ W, W = W5.setCell ⟨s.b, 1, none⟩ (.int .i64 ((k : Int) + 2)) := ⟨_, rfl⟩
          have D6 : Rd s w R (k + 2) ts W6 := by rw [hW6]; exact D5.kept G.2 G.1
          have HG := Lib.hid D6
          by_cases h1 : d - 1 = 0
          · have q1' : decide (d - 1 = 0) = true := by rw [decide_eq_true_eq]; exact h1
            have q2' : (d - 1 == 0) = true := by rw [beq_iff_eq]; exact h1
            have hv := HK.out.2
            rw [comR_done hlt hO hC h1] at hv
            have HV := Lib.hid hv
            obtain ⟨r0, r1, q0, q1, -⟩ := D6.rt.facts
            have rt := Lib.hid D6.rt
            clear hO hC hv D2 D3 D5 D6 f1 d1 f5 f6 hle hp G
            go_wp2_with fail
            rw [← hW3]
            refine T1.out.mono ?_
            rintro e w' ⟨rfl, rfl⟩
            clear hW3
            go_wp2_with fail
            rw [← hW5]
            refine T2.out.mono ?_
            rintro e w' ⟨rfl, rfl⟩
            clear hW5
            go_upto_region 15 with fail
            rw [← hW6]
            clear hW6 c1 e1
            go_wp2_with fail
            obtain ⟨wz, hwz⟩ : ∃ wz, wz = (W6.setCell ⟨R, 0, none⟩ (.int .i64 (0))).setCell ⟨R, 1, none⟩ (.int .i64 (0)) := ⟨_, rfl⟩
            have z := ret_two rt.out (0) (0)
            rw [← hwz] at z
            try rw [← hwz]
            refine bodyPost_ret (v := (.agg #[.int .i64 (0), .int .i64 (0)])) (by simp [results, Tryd.results50, go_sem, z.1, z.2]) rfl ?_
            rw [← HV.out]
            exact HG.out.go hwz
          · have q1' : decide (d - 1 = 0) = false := by rw [decide_eq_false_iff_not]; exact h1
            have q2' : (d - 1 == 0) = false := by rw [beq_eq_false_iff_ne]; exact h1
            have hv := HK.out.2
            rw [comR_close hlt hO hC h1] at hv
            have HV := Lib.hid hv
            clear hO hC hv D2 D3 D5 D6 f1 d1 f5 f6 hle hp G
            go_wp2_with fail
            rw [← hW3]
            refine T1.out.mono ?_
            rintro e w' ⟨rfl, rfl⟩
            clear hW3
            go_wp2_with fail
            rw [← hW5]
            refine T2.out.mono ?_
            rintro e w' ⟨rfl, rfl⟩
            clear hW5
            go_wp2_with fail
            rw [← hW6]
            clear hW6
            go_roundw
            case rel => exact ⟨k + 2, d - 1, rfl, by omega, by omega, by omega, Lib.hid ⟨HG.out, HV.out⟩⟩
            case measure =>
              rw [HG.out.st.atOf, HK.out.1.st.atOf]
              omega
        | false =>
          rw [hC] at T2
          replace T2 := Lib.hid T2
          have T := pass_at D5.st hlt
          cases hc : chr (s.l.drop k) with
          | none =>
            rw [passR_none hc] at T
            have hv := HK.out.2
            rw [comR_none hlt hO hC hc] at hv
            have HV := Lib.hid hv
            replace T := Lib.hid T
            clear hO hC hc hv D2 D3 D5 f1 d1 f5 f6 hle hp hw2 c1 e1
            go_wp2_with fail
            rw [← hW3]
            refine T1.out.mono ?_
            rintro e w' ⟨rfl, rfl⟩
            clear hW3
            go_wp2_with fail
            rw [← hW5]
            refine T2.out.mono ?_
            rintro e w' ⟨rfl, rfl⟩
            clear hW5
            go_wp2_with fail
            refine T.out.mono ?_
            rintro e w2 ⟨hk2, hf2, rfl, -⟩
            have E2 := HD5.out.err hk2 hf2
            obtain ⟨w3, hw3⟩ : ∃ w3, w3 = w2.alloc (.cells #[.int .i64 (4), .int .i64 (k)] 27) := ⟨_, rfl⟩
            have E3 := E2.below (W' := w3) (by rw [hw3]; exact (Below.refl _ _).alloc (Nat.le_refl _) _)
            have hn3 : w3.heap[w2.heap.size]? = some (.cells #[.int .i64 (4), .int .i64 (k)] 27) := by rw [hw3]; exact heap_new _ _
            have n0 := blk_cell hn3 0
            have n1 := blk_cell hn3 1
            simp only [List.getElem?_toArray, List.getElem?_cons_succ, List.getElem?_cons_zero] at n0 n1
            obtain ⟨N, hN⟩ : ∃ N, N = w2.heap.size := ⟨_, rfl⟩
            rw [← hN] at n0 n1
            obtain ⟨r0, r1, q0, q1, -⟩ := E3.rt.facts
            have rt := Lib.hid E3.rt
            have HE := Lib.hid E3
            clear hk2 hf2 E2 E3 hn3
            go_upto_region 5 with fail
            rw [← hw3, ← hN]
            clear hw3 hN
            go_wp2_with fail
            obtain ⟨wz, hwz⟩ : ∃ wz, wz = (w3.setCell ⟨R, 0, none⟩ (.int .i64 (4))).setCell ⟨R, 1, none⟩ (.int .i64 (k)) := ⟨_, rfl⟩
            have z := ret_two rt.out (4) (k)
            rw [← hwz] at z
            try rw [← hwz]
            refine bodyPost_ret (v := (.agg #[.int .i64 (4), .int .i64 (k)])) (by simp [results, Tryd.results50, go_sem, z.1, z.2]) rfl ?_
            rw [← HV.out]
            exact HE.out.no hwz (by decide)
          | some v =>
            obtain ⟨ch, n⟩ := v
            have hn := chr_lt (HK.out.1.st.byts.drop k) hc
            rw [List.length_drop] at hn
            rw [passR_some hc] at T
            have hv := HK.out.2
            rw [comR_some hlt hn.1 hO hC hc] at hv
            have HV := Lib.hid hv
            replace T := Lib.hid T
            clear hO hC hc hv D2 D3 D5 f1 d1 f5 f6 hle hp hw2 c1 e1
            go_wp2_with fail
            rw [← hW3]
            refine T1.out.mono ?_
            rintro e w' ⟨rfl, rfl⟩
            clear hW3
            go_wp2_with fail
            rw [← hW5]
            refine T2.out.mono ?_
            rintro e w' ⟨rfl, rfl⟩
            clear hW5
            go_wp2_with fail
            refine T.out.mono ?_
            rintro e w2 ⟨hk2, hf2, rfl, hs2⟩
            have E2 := HD5.out.kept hk2 hs2
            have HE := Lib.hid E2
            clear hk2 hf2 hs2 E2
            go_wp2_with fail
            go_roundw
            case rel => exact ⟨k + n, d, rfl, by omega, by omega, by omega, Lib.hid ⟨HE.out.below ((Below.refl _ _).alloc (Nat.le_refl _) _), HV.out⟩⟩
            case measure =>
              rw [(HE.out.below ((Below.refl _ _).alloc (Nat.le_refl _) _)).st.atOf, HK.out.1.st.atOf]
              omega
    · have f1 : ¬ (k : Int) < (s.l.length : Int) := by omega
      have d1 : decide ((k : Int) < (s.l.length : Int)) = false := by rw [decide_eq_false_iff_not]; exact f1
      have hv := HK.out.2
      rw [comR_end (by omega)] at hv
      have HV := Lib.hid hv
      have T := Lib.hid (fun W => form_at (k0 : Int) W)
      clear hv
      go_upto_region 2 with fail
      go_quiet (fail)
      obtain ⟨W1, hW1⟩ : ∃ W, W = wr.drewN nq := ⟨_, rfl⟩
      have D1 := HK.out.1.below (W' := W1) (by rw [hW1]; exact below_drewN (Below.refl _ _) nq)
      rw [← hW1]
      have HD1 := Lib.hid D1
      clear hW1 D1 c0 c1
      go_wp2_with fail
      refine (T.out _).mono ?_
      rintro e W2 ⟨rfl, hb⟩
      have D2 := HD1.out.below hb
      obtain ⟨r0, r1, q0, q1, -⟩ := D2.rt.facts
      have rt := Lib.hid D2.rt
      have HD2 := Lib.hid D2
      clear hb D2
      go_wp2_with fail
      obtain ⟨wz, hwz⟩ : ∃ wz, wz = (W2.setCell ⟨R, 0, none⟩ (.int .i64 (4))).setCell ⟨R, 1, none⟩ (.int .i64 (k0)) := ⟨_, rfl⟩
      have z := ret_two rt.out (4) (k0)
      rw [← hwz] at z
      try rw [← hwz]
      refine bodyPost_ret (v := (.agg #[.int .i64 (4), .int .i64 (k0)])) (by simp [results, Tryd.results50, go_sem, z.1, z.2]) rfl ?_
      rw [← HV.out]
      exact HD2.out.fault.no hwz (by decide)
end Go.Proofs.YtgnnkfdpfmlajaaDoor
