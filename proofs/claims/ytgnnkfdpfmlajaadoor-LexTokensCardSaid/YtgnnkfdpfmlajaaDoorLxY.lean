/- Contracts: a line's comment, a nested comment. Conditions: none. -/
import Derived.Test.YtgnnkfdpfmlajaaDoorLxX
import Derived.Deep.RegionHeld3
namespace Go.Proofs.YtgnnkfdpfmlajaaDoor
open Go.RowKit Bg Lx
set_option linter.unusedVariables false
set_option linter.unusedSimpArgs false

theorem hasP_at {w : World} {p q : Option Addr} {c d : Nat} {r t : List Int} (a : Arg .u8 w p c r) (b : Arg .u8 w q d t) (hr : Byts r) (ht : Byts t) :
    Calls Tryd.prog 49 #[.slice p r.length c, .slice q t.length d] w fun e w' => e = .returned (.bool (atS r t)) ∧ w = w' := by
  have BI : ∀ {p : Option Addr} {c : Nat} {r : List Int}, Arg .u8 w p c r → Lib.BytesIn w p r.length r := fun {p c r} a => a.at
  have h := Tryd.bytes_HasPrefix_all p q r.length c t.length d r t w rfl rfl a.le (BI a) (BI b)
  have e : Lib.hasPrefix (Lib.bytesOf r) (Lib.bytesOf t) = atS r t := by
    unfold Lib.hasPrefix atS
    rw [Bool.eq_iff_iff, List.isPrefixOf_iff_prefix, decide_eq_true_eq, List.prefix_iff_eq_take]
    unfold Lib.bytesOf
    rw [List.length_map, ← List.map_take]
    constructor
    · intro h
      have h2 : strOfNums t = strOfNums (r.take t.length) := by
        unfold strOfNums
        rw [h]
      exact (str_inj ht (hr.take _) h2).symm
    · intro h
      rw [h]
  rw [e] at h
  refine h.mono ?_
  rintro e w' ⟨rfl, rfl⟩
  exact ⟨rfl, rfl⟩

/-- What a line's comment comes to. -/
def lineR (s : Sit) (k : Nat) (ts : List Tk) : Rs := if (line (s.l.drop k)).2 = true then .go (k + (line (s.l.drop k)).1) ts else .no 4 ((k + (line (s.l.drop k)).1 : Nat) : Int)
theorem drop_ne {l : List Int} {k : Nat} (h : k < l.length) : ¬ l.drop k = [] := fun e => by
  have := congrArg List.length e
  rw [List.length_drop] at this
  simp at this
  omega
theorem drop_head (l : List Int) (k : Nat) : (l.drop k).getD 0 0 = l.getD k 0 := by
  rw [List.getD_eq_getElem?_getD, List.getD_eq_getElem?_getD, List.getElem?_drop]
  rfl
theorem lineR_end {s : Sit} {k : Nat} {ts : List Tk} (h : s.l.length ≤ k) : lineR s k ts = .go k ts := by
  unfold lineR
  rw [List.drop_eq_nil_of_le h, line]
  simp
theorem lineR_nl {s : Sit} {k : Nat} {ts : List Tk} (h : k < s.l.length) (h10 : s.l.getD k 0 = 10) : lineR s k ts = .go k ts := by
  have e : line (s.l.drop k) = (0, true) := by rw [line, dif_neg (drop_ne h), if_pos (by rw [drop_head]; exact h10)]
  unfold lineR
  rw [e]
  simp
theorem lineR_none {s : Sit} {k : Nat} {ts : List Tk} (h : k < s.l.length) (h10 : s.l.getD k 0 ≠ 10) (hc : chr (s.l.drop k) = none) : lineR s k ts = .no 4 k := by
  have e : line (s.l.drop k) = (0, false) := by rw [line, dif_neg (drop_ne h), if_neg (by rw [drop_head]; exact h10), hc]
  unfold lineR
  rw [e]
  simp
theorem lineR_some {s : Sit} {k n : Nat} {c : Int} {ts : List Tk} (h : k < s.l.length) (h10 : s.l.getD k 0 ≠ 10) (hn : 1 ≤ n) (hc : chr (s.l.drop k) = some (c, n)) : lineR s k ts = lineR s (k + n) ts := by
  unfold lineR
  have e : line (s.l.drop k) = ((line (s.l.drop (k + n))).1 + n, (line (s.l.drop (k + n))).2) := by
    rw [line, dif_neg (drop_ne h), if_neg (by rw [drop_head]; exact h10), hc]
    simp only []
    rw [List.drop_drop, show k + (n - 1 + 1) = k + n by omega]
  rw [e]
  simp only []
  congr 2 <;> omega
theorem passR_none {s : Sit} {k : Nat} {ts : List Tk} (hc : chr (s.l.drop k) = none) : passR s k ts = .no 4 k := by unfold passR; rw [hc]
theorem passR_some {s : Sit} {k n : Nat} {c : Int} {ts : List Tk} (hc : chr (s.l.drop k) = some (c, n)) : passR s k ts = .go (k + n) ts := by unfold passR; rw [hc]
/-- The place of a lexer, read. -/
def atOf (b : Nat) (w : World) : Nat := match w.cell? ⟨b, 1, none⟩ with
  | some (.int _ n) => n.toNat
  | _ => 0
theorem St.atOf {s : Sit} {k : Nat} {ts : List Tk} {w : World} (h : St s k ts w) : atOf s.b w = k := by
  have := h.cell.2.1
  unfold Go.Proofs.YtgnnkfdpfmlajaaDoor.atOf
  rw [this]
  simp
/-- What stands at the head of a round: the lexer at a place, the result not set. -/
structure Rd (s : Sit) (w : World) (R : Nat) (k : Nat) (ts : List Tk) (W : World) : Prop where
  st : St s k ts W
  rt : Rt W R
  kp : Kp w W
  hR : R = w.heap.size
  h0 : s.w0.heap.size ≤ w.heap.size
theorem Rd.below {s : Sit} {w : World} {R k : Nat} {ts : List Tk} {W W' : World} (h : Rd s w R k ts W) (hb : Below W.heap.size W W') : Rd s w R k ts W' := ⟨h.st.below hb, h.rt.below hb, h.kp.trans (Kp.of_below hb), h.hR, h.h0⟩
theorem Rd.kept {s : Sit} {w : World} {R k k' : Nat} {ts ts' : List Tk} {W W' : World} (h : Rd s w R k ts W) (hk : Kp W W') (h' : St s k' ts' W') : Rd s w R k' ts' W' := ⟨h', h.rt.kp hk, h.kp.trans hk, h.hR, h.h0⟩
theorem Rd.new {s : Sit} {w : World} {k : Nat} {ts : List Tk} (h : St s k ts w) : Rd s w w.heap.size k ts (w.alloc (.cells #[.int .i64 0, .int .i64 0] 27)) := by
  have hb : Below w.heap.size w (w.alloc (.cells #[.int .i64 0, .int .i64 0] 27)) := (Below.refl _ _).alloc (Nat.le_refl _) _
  exact ⟨h.below hb, rt_new w, Kp.of_below hb, rfl, h.fr.size⟩
theorem Rd.go {s : Sit} {w : World} {R k : Nat} {ts : List Tk} {W wz : World} (h : Rd s w R k ts W) (hz : wz = (W.setCell ⟨R, 0, none⟩ (.int .i64 0)).setCell ⟨R, 1, none⟩ (.int .i64 0)) : Fin s w (.go k ts) (.returned (.agg #[.int .i64 0, .int .i64 0])) wz :=
  fin_go hz h.rt (by rw [h.hR]; exact Nat.le_refl _) (by rw [h.hR]; exact h.h0) h.kp h.st
/-- The same for a world in which a fault has come. -/
structure Rf (s : Sit) (w : World) (R : Nat) (W : World) : Prop where
  fr : Below s.w0.heap.size s.w0 W
  rt : Rt W R
  kp : Kp w W
  hR : R = w.heap.size
  h0 : s.w0.heap.size ≤ w.heap.size
theorem Rd.fault {s : Sit} {w : World} {R k : Nat} {ts : List Tk} {W : World} (h : Rd s w R k ts W) : Rf s w R W := ⟨h.st.fr, h.rt, h.kp, h.hR, h.h0⟩
theorem Rf.below {s : Sit} {w : World} {R : Nat} {W W' : World} (h : Rf s w R W) (hb : Below W.heap.size W W') : Rf s w R W' := ⟨h.fr.trans (hb.mono h.fr.size), h.rt.below hb, h.kp.trans (Kp.of_below hb), h.hR, h.h0⟩
theorem Rd.err {s : Sit} {w : World} {R k : Nat} {ts : List Tk} {W W' : World} (h : Rd s w R k ts W) (hk : Kp W W') (hf : Below s.w0.heap.size s.w0 W') : Rf s w R W' := ⟨hf, h.rt.kp hk, h.kp.trans hk, h.hR, h.h0⟩
theorem Rf.no {s : Sit} {w : World} {R : Nat} {W wz : World} {x y : Int} (h : Rf s w R W) (hz : wz = (W.setCell ⟨R, 0, none⟩ (.int .i64 x)).setCell ⟨R, 1, none⟩ (.int .i64 y)) (hx : x ≠ 0) : Fin s w (.no x y) (.returned (.agg #[.int .i64 x, .int .i64 y])) wz :=
  fin_no hz (by rw [h.hR]; exact Nat.le_refl _) (by rw [h.hR]; exact h.h0) h.kp h.fr hx
set_option maxRecDepth 100000 in
set_option maxHeartbeats 8000000 in
theorem line_at {s : Sit} {k0 : Nat} {ts : List Tk} {w : World} (h : St s k0 ts w) :
    Calls Tryd.prog 38 #[.pointer (some ⟨s.b, 0, none⟩)] w (Fin s w (lineR s k0 ts)) := by
  obtain ⟨V, hV⟩ : ∃ V, V = lineR s k0 ts := ⟨_, rfl⟩
  rw [← hV]
  obtain ⟨W0, hW0⟩ : ∃ W, W = w.alloc (.cells #[.int .i64 0, .int .i64 0] 27) := ⟨_, rfl⟩
  have D0 := Rd.new h
  rw [← hW0] at D0
  obtain ⟨R, hR⟩ : ∃ R, R = w.heap.size := ⟨_, rfl⟩
  rw [← hR] at D0
  have HD := Lib.hid (And.intro D0 hV)
  have hlen := h.len
  clear h D0 hV
  go_enter Tryd.func38, Tryd.ntmps38
  go_wp2_with fail
  rw [← hW0, ← hR]
  clear hW0 hR
  go_loopw [3] (fun _ wr => ∃ k, Hid (Rd s w R k ts wr ∧ lineR s k ts = V)) (fun _ wr => s.l.length - atOf s.b wr)
  case atStart => exact ⟨k0, Lib.hid ⟨HD.out.1, HD.out.2.symm⟩⟩
  case round =>
    obtain ⟨k, HK⟩ := hrel
    have c0 := HK.out.1.st.cell.1
    have c1 := HK.out.1.st.cell.2.1
    by_cases hlt : k < s.l.length
    · have f1 : (k : Int) < (s.l.length : Int) := by omega
      have d1 : decide ((k : Int) < (s.l.length : Int)) = true := by rw [decide_eq_true_eq]; exact f1
      obtain ⟨b, off, hp, hcell⟩ := HK.out.1.st.src.at (by omega)
      have hg := hcell k hlt
      rw [hp] at c0
      have hx := HK.out.1.st.byts.getD k
      by_cases h10 : s.l.getD k 0 = 10
      · have hv := HK.out.2
        rw [lineR_nl hlt h10] at hv
        rw [h10] at hg
        have HV := Lib.hid hv
        clear hp hcell hx h10 hv
        go_upto_region 1 with fail
        go_quiet (fail)
        obtain ⟨W1, hW1⟩ : ∃ W, W = wr.drewN nq := ⟨_, rfl⟩
        have D1 := HK.out.1.below (W' := W1) (by rw [hW1]; exact below_drewN (Below.refl _ _) nq)
        rw [← hW1]
        obtain ⟨r0, r1, q0, q1, -⟩ := D1.rt.facts
        have rt := Lib.hid D1.rt
        have HD1 := Lib.hid D1
        clear hW1 D1 c0 c1 hg
        go_wp2_with fail
        obtain ⟨wz, hwz⟩ : ∃ wz, wz = (W1.setCell ⟨R, 0, none⟩ (.int .i64 (0))).setCell ⟨R, 1, none⟩ (.int .i64 (0)) := ⟨_, rfl⟩
        have z := ret_two rt.out (0) (0)
        rw [← hwz] at z
        try rw [← hwz]
        refine bodyPost_ret (v := (.agg #[.int .i64 (0), .int .i64 (0)])) (by simp [results, Tryd.results38, go_sem, z.1, z.2]) rfl ?_
        rw [← HV.out]
        exact HD1.out.go hwz
      · obtain ⟨x, hxe⟩ : ∃ x, x = s.l.getD k 0 := ⟨_, rfl⟩
        rw [← hxe] at hg hx
        have x10 : (x == 10) = false := by rw [beq_eq_false_iff_ne, hxe]; exact h10
        have y10 : (x != 10) = true := by rw [bne, x10]; rfl
        have z10 : ¬ x = 10 := by rw [hxe]; exact h10
        have HX := Lib.hid (And.intro hxe h10)
        clear hp hcell hxe h10
        go_upto_region 1 with fail
        go_quiet (fail)
        obtain ⟨W1, hW1⟩ : ∃ W, W = wr.drewN nq := ⟨_, rfl⟩
        have D1 := HK.out.1.below (W' := W1) (by rw [hW1]; exact below_drewN (Below.refl _ _) nq)
        rw [← hW1]
        have T := pass_at D1.st hlt
        have HD1 := Lib.hid D1
        clear hW1 D1 c0 c1 hg x10 y10 z10 hx
        cases hc : chr (s.l.drop k) with
        | none =>
          rw [passR_none hc] at T
          have hv := HK.out.2
          rw [lineR_none hlt HX.out.2 hc] at hv
          have HV := Lib.hid hv
          replace T := Lib.hid T
          clear hc hv
          go_wp2_with fail
          refine T.out.mono ?_
          rintro e w2 ⟨hk2, hf2, rfl, -⟩
          have E2 := HD1.out.err hk2 hf2
          obtain ⟨w3, hw3⟩ : ∃ w3, w3 = w2.alloc (.cells #[.int .i64 4, .int .i64 (k : Int)] 27) := ⟨_, rfl⟩
          have E3 := E2.below (W' := w3) (by rw [hw3]; exact (Below.refl _ _).alloc (Nat.le_refl _) _)
          have hn3 : w3.heap[w2.heap.size]? = some (.cells #[.int .i64 4, .int .i64 (k : Int)] 27) := by rw [hw3]; exact heap_new _ _
          have n0 := blk_cell hn3 0
          have n1 := blk_cell hn3 1
          simp only [List.getElem?_toArray, List.getElem?_cons_succ, List.getElem?_cons_zero] at n0 n1
          have hRlt := lt_block E2.rt
          have hs3 : w3.heap.size = w2.heap.size + 1 := by rw [hw3]; simp
          obtain ⟨N, hN⟩ : ∃ N, N = w2.heap.size := ⟨_, rfl⟩
          rw [← hN] at n0 n1
          obtain ⟨r0, r1, q0, q1, -⟩ := E3.rt.facts
          have rt := Lib.hid E3.rt
          have HE := Lib.hid E3
          clear hk2 hf2 E2 E3 hn3 hs3 hRlt
          go_upto_region 3 with fail
          rw [← hw3, ← hN]
          clear hw3 hN
          go_wp2_with fail
          obtain ⟨wz, hwz⟩ : ∃ wz, wz = (w3.setCell ⟨R, 0, none⟩ (.int .i64 (4))).setCell ⟨R, 1, none⟩ (.int .i64 (k)) := ⟨_, rfl⟩
          have z := ret_two rt.out (4) (k)
          rw [← hwz] at z
          try rw [← hwz]
          refine bodyPost_ret (v := (.agg #[.int .i64 (4), .int .i64 (k)])) (by simp [results, Tryd.results38, go_sem, z.1, z.2]) rfl ?_
          rw [← HV.out]
          exact HE.out.no hwz (by decide)
        | some v =>
          obtain ⟨ch, n⟩ := v
          have hn := chr_lt (HK.out.1.st.byts.drop k) hc
          rw [List.length_drop] at hn
          rw [passR_some hc] at T
          have hv := HK.out.2
          rw [lineR_some hlt HX.out.2 hn.1 hc] at hv
          have HV := Lib.hid hv
          replace T := Lib.hid T
          clear hc hv
          go_wp2_with fail
          refine T.out.mono ?_
          rintro e w2 ⟨hk2, hf2, rfl, hs2⟩
          have E2 := HD1.out.kept hk2 hs2
          have HE := Lib.hid E2
          clear hk2 hf2 hs2 E2
          go_wp2_with fail
          go_roundw
          case rel => exact ⟨k + n, Lib.hid ⟨HE.out.below ((Below.refl _ _).alloc (Nat.le_refl _) _), HV.out⟩⟩
          case measure =>
            rw [(HE.out.below ((Below.refl _ _).alloc (Nat.le_refl _) _)).st.atOf, HK.out.1.st.atOf]
            omega
    · have f1 : ¬ (k : Int) < (s.l.length : Int) := by omega
      have d1 : decide ((k : Int) < (s.l.length : Int)) = false := by rw [decide_eq_false_iff_not]; exact f1
      have hv := HK.out.2
      rw [lineR_end (by omega)] at hv
      have HV := Lib.hid hv
      clear hv
      go_upto_region 1 with fail
      go_quiet (fail)
      obtain ⟨W1, hW1⟩ : ∃ W, W = wr.drewN nq := ⟨_, rfl⟩
      have D1 := HK.out.1.below (W' := W1) (by rw [hW1]; exact below_drewN (Below.refl _ _) nq)
      rw [← hW1]
      obtain ⟨r0, r1, q0, q1, -⟩ := D1.rt.facts
      have rt := Lib.hid D1.rt
      have HD1 := Lib.hid D1
      clear hW1 D1 c0 c1
      go_wp2_with fail
      obtain ⟨wz, hwz⟩ : ∃ wz, wz = (W1.setCell ⟨R, 0, none⟩ (.int .i64 (0))).setCell ⟨R, 1, none⟩ (.int .i64 (0)) := ⟨_, rfl⟩
      have z := ret_two rt.out (0) (0)
      rw [← hwz] at z
      try rw [← hwz]
      refine bodyPost_ret (v := (.agg #[.int .i64 (0), .int .i64 (0)])) (by simp [results, Tryd.results38, go_sem, z.1, z.2]) rfl ?_
      rw [← HV.out]
      exact HD1.out.go hwz
end Go.Proofs.YtgnnkfdpfmlajaaDoor
