/- Contracts: marks and data are put, chars passed, runs cut out. Conditions: none. -/
import Derived.Test.YtgnnkfdpfmlajaaDoorLxV
namespace Go.Proofs.YtgnnkfdpfmlajaaDoor
open Go.RowKit Bg Lx
set_option linter.unusedVariables false
set_option linter.unusedSimpArgs false

theorem St.drew' {s : Sit} {k : Nat} {ts : List Tk} {w : World} (h : St s k ts w) : St s k ts w.drew := h.below (Below.refl _ _).drew
set_option maxRecDepth 100000 in
set_option maxHeartbeats 4000000 in
/-- A token without a datum is put. -/
theorem mark_at {s : Sit} {k : Nat} {ts : List Tk} {w : World} (h : St s k ts w) (kd : Int) (n : Nat) (h7 : kd ≠ 7) (h0 : 1 ≤ n) (hn : k + n ≤ s.l.length) :
    Calls Tryd.prog 39 #[.pointer (some ⟨s.b, 0, none⟩), .int .i64 kd, .int .i64 (n : Int)] w fun e w' => e = .returned (.tuple #[]) ∧ St s (k + n) (ts ++ [plainTk kd k]) w' ∧ Kp w w' := by
  have c1 := h.cell.2.1
  have hlen := h.len
  have hw1 : IntKind.i64.wrap ((k : Int) + (n : Int)) = (k : Int) + (n : Int) := by rw [wrap_small _ (by omega) (by omega)]
  have T : Calls Tryd.prog 46 #[.pointer (some ⟨s.b, 0, none⟩), .agg #[.int .i64 kd, .int .i64 (k : Int), .int .i64 0, .int .i64 0, .string {data := #[]}, .slice none 0 0, .int .i64 0], .int .i64 ((k : Int) + (n : Int))] w.drew fun e w' => e = .returned (.tuple #[]) ∧ St s (k + n) (ts ++ [plainTk kd k]) w' ∧ Kp w w' := by
    have hb : Below w.heap.size w w.drew := (Below.refl _ _).drew
    have := put_at (h.below hb) (plainTk kd k) (k + n) (by omega) hn
    have e : tkV (plainTk kd k) = .agg #[.int .i64 kd, .int .i64 (k : Int), .int .i64 0, .int .i64 0, .string {data := #[]}, .slice none 0 0, .int .i64 0] := by
      unfold tkV plainTk dpos
      rw [if_neg h7]
      rfl
    rw [e] at this
    exact this.mono fun e w' ⟨h1, h2, h3⟩ => ⟨h1, h2, (Kp.of_below hb).trans h3⟩
  replace T := Lib.hid T
  clear h
  go_enter Tryd.func39, Tryd.ntmps39
  go_wp2_with fail
  go_still_tail 13, (by kernel_rfl)
  change wpList _ _ _ _ _ w.drew
  go_wp2_with fail
  refine T.out.mono ?_
  rintro e w' ⟨rfl, H⟩
  replace H := Lib.hid H
  go_wp2_with fail
  refine bodyPost_end (v := .tuple #[]) (by simp [results, Tryd.results39, go_sem]) rfl ?_
  exact ⟨rfl, H.out⟩
set_option maxRecDepth 100000 in
set_option maxHeartbeats 4000000 in
/-- A token with a datum is put. -/
theorem datum_at {s : Sit} {k : Nat} {ts : List Tk} {w : World} (h : St s k ts w) (dk x : Int) (t : List Int) (n : Nat) (h0 : k < n) (hn : n ≤ s.l.length) :
    Calls Tryd.prog 47 #[.pointer (some ⟨s.b, 0, none⟩), .agg #[.int .i64 dk, .int .i64 x, .string (strOfNums t), .slice none 0 0, .int .i64 0], .int .i64 (n : Int)] w fun e w' => e = .returned (.tuple #[]) ∧ St s n (ts ++ [datum dk x t k]) w' ∧ Kp w w' := by
  have c1 := h.cell.2.1
  have hlt := h.blt
  obtain ⟨sv, hsv⟩ : ∃ sv, sv = strOfNums t := ⟨_, rfl⟩
  have T : ∀ W, Below w.heap.size w W → Calls Tryd.prog 46 #[.pointer (some ⟨s.b, 0, none⟩), .agg #[.int .i64 7, .int .i64 (k : Int), .int .i64 dk, .int .i64 x, .string sv, .slice none 0 0, .int .i64 (k : Int)], .int .i64 (n : Int)] W fun e w' => e = .returned (.tuple #[]) ∧ St s n (ts ++ [datum dk x t k]) w' ∧ Kp w w' := fun W hb => by
    have := put_at (h.below hb) (datum dk x t k) n h0 hn
    rw [hsv]
    exact this.mono fun e w' ⟨h1, h2, h3⟩ => ⟨h1, h2, (Kp.of_below hb).trans h3⟩
  replace T := Lib.hid T
  rw [← hsv]
  clear h hsv
  obtain ⟨W1, hW1⟩ : ∃ W, W = w.alloc (.cells #[.int .i64 dk, .int .i64 x, .string sv, .slice none 0 0, .int .i64 (k : Int)] 35) := ⟨_, rfl⟩
  have hx : W1.heap[w.heap.size]? = some (.cells #[.int .i64 dk, .int .i64 x, .string sv, .slice none 0 0, .int .i64 (k : Int)] 35) := by rw [hW1]; exact heap_new _ _
  have hb1 : Below w.heap.size w W1 := by rw [hW1]; exact (Below.refl _ _).alloc (Nat.le_refl _) _
  have d1 := (hb1.cell (p := ⟨s.b, 1, none⟩) hlt).trans c1
  obtain ⟨N, hN⟩ : ∃ N, N = w.heap.size := ⟨_, rfl⟩
  rw [← hN] at hx
  have x0 := blk_cell hx 0
  have x1 := blk_cell hx 1
  have x2 := blk_cell hx 2
  have x3 := blk_cell hx 3
  have x4 := blk_cell hx 4
  simp only [List.getElem?_toArray, List.getElem?_cons_succ, List.getElem?_cons_zero] at x0 x1 x2 x3 x4
  replace T := Lib.hid (T.out W1.drew hb1.drew)
  clear hb1 hx
  go_enter Tryd.func47, Tryd.ntmps47
  go_upto_region 2 with fail
  rw [← hW1, ← hN]
  clear hW1 hN c1 hlt
  go_still_tail 8, (by kernel_rfl)
  change wpList _ _ _ _ _ W1.drew
  go_wp2_with fail
  refine T.out.mono ?_
  rintro e w' ⟨rfl, H⟩
  replace H := Lib.hid H
  go_wp2_with fail
  refine bodyPost_end (v := .tuple #[]) (by simp [results, Tryd.results47, go_sem]) rfl ?_
  exact ⟨rfl, H.out⟩
/-- What passing a char comes to. -/
def passR (s : Sit) (k : Nat) (ts : List Tk) : Rs := match chr (s.l.drop k) with
  | none => .no 4 k
  | some (_, n) => .go (k + n) ts
set_option maxRecDepth 100000 in
set_option maxHeartbeats 4000000 in
theorem pass_at {s : Sit} {k : Nat} {ts : List Tk} {w : World} (h : St s k ts w) (hk : k < s.l.length) :
    Calls Tryd.prog 45 #[.pointer (some ⟨s.b, 0, none⟩)] w (Fin s w (passR s k ts)) := by
  obtain ⟨W0, hW0⟩ : ∃ W, W = w.alloc (.cells #[.int .i64 0, .int .i64 0] 27) := ⟨_, rfl⟩
  have hb0 : Below w.heap.size w W0 := by rw [hW0]; exact (Below.refl _ _).alloc (Nat.le_refl _) _
  have hr0 : Rt W0 w.heap.size := by rw [hW0]; exact rt_new w
  obtain ⟨R, hR⟩ : ∃ R, R = w.heap.size := ⟨_, rfl⟩
  rw [← hR] at hr0
  have h0 := h.below hb0
  have c0 := h0.cell.1
  have c1 := h0.cell.2.1
  have hlen := h.len
  have T : ∀ W, Below W0.heap.size W0 W → Calls Tryd.prog 58 #[.slice s.p s.l.length s.c, .int .i64 (k : Int)] W fun e w' => e = .returned (.tuple #[.int .i64 (gC s.l k), .int .i64 (gN s.l k), .int .i64 (gE s.l k)]) ∧ Below W0.heap.size W0 w' := fun W hb => by
    have h1 := h0.below hb
    exact (get_at h1.src h.byts (by omega) h1.tabs (k : Int)).mono fun e w' ⟨a1, a2⟩ => ⟨a1, hb.trans (a2.mono hb.size)⟩
  have hS : W0.cell? ⟨s.b, 0, none⟩ = some (.slice s.p s.l.length s.c) ∧ W0.cell? ⟨s.b, 1, none⟩ = some (.int .i64 (k : Int)) := ⟨c0, c1⟩
  have HH := Lib.hid (And.intro h (And.intro h0 (And.intro hr0 (And.intro hb0 hR))))
  have hRW : R < W0.heap.size := lt_block hr0
  have hBW := h0.blt
  unfold passR
  cases hc : chr (s.l.drop k) with
  | none =>
    obtain ⟨e1, e2, e3⟩ := g_none hk hc
    rw [e1, e2, e3] at T
    replace T := Lib.hid T
    have T2 := Lib.hid (fun W => form_at (k : Int) W)
    clear hc e1 e2 e3 h h0 hr0 hb0
    go_enter Tryd.func45, Tryd.ntmps45
    go_upto_region 1 with fail
    rw [← hW0, ← hR]
    clear hW0 hR
    go_region_held3 (fun w' => w'.cell? ⟨s.b, 0, none⟩ = some (.slice s.p s.l.length s.c) ∧ w'.cell? ⟨s.b, 1, none⟩ = some (.int .i64 (k : Int))) (go_keep) ((go_at_call 58; refine (T.out _ (Below.refl _ _).drew).mono ?_; rintro e w1 ⟨rfl, hb⟩; have hc1 := (HH.out.2.1.below hb).cell))
    have d0 := hc1.1
    have d1 := hc1.2.1
    replace hb := Lib.hid hb
    clear hc1 c0 c1
    go_wp2_with fail
    refine (T2.out _).mono ?_
    rintro e w2 ⟨rfl, hb2⟩
    have B2 := hb.out.trans (hb2.mono hb.out.size)
    have rt2 := HH.out.2.2.1.below B2
    obtain ⟨r0, r1, q0, q1, -⟩ := rt2.facts
    have rt := Lib.hid rt2
    have HB := Lib.hid B2
    clear hb2 B2 rt2 hb
    go_wp2_with fail
    obtain ⟨wz, hwz⟩ : ∃ wz, wz = (w2.setCell ⟨R, 0, none⟩ (.int .i64 (4))).setCell ⟨R, 1, none⟩ (.int .i64 (k)) := ⟨_, rfl⟩
    have z := ret_two rt.out (4) (k)
    rw [← hwz] at z
    try rw [← hwz]
    refine bodyPost_ret (v := (.agg #[.int .i64 (4), .int .i64 (k)])) (by simp [results, Tryd.results45, go_sem, z.1, z.2]) rfl ?_
    have B3 := HH.out.2.2.2.1.trans (HB.out.mono HH.out.2.2.2.1.size)
    exact fin_no hwz (by rw [HH.out.2.2.2.2]; exact Nat.le_refl _) (by rw [HH.out.2.2.2.2]; exact HH.out.1.fr.size) (Kp.of_below B3) (HH.out.1.fr.trans (B3.mono HH.out.1.fr.size)) (by decide)
  | some x =>
    obtain ⟨ch, n⟩ := x
    obtain ⟨e1, e2, e3⟩ := g_some hk hc
    rw [e1, e2, e3] at T
    replace T := Lib.hid T
    have hn := chr_lt (h.byts.drop k) hc
    rw [List.length_drop] at hn
    have hw1 : IntKind.i64.wrap ((k : Int) + (n : Int)) = (k : Int) + (n : Int) := by rw [wrap_small _ (by omega) (by omega)]
    clear hc e1 e2 e3 h h0 hr0 hb0
    go_enter Tryd.func45, Tryd.ntmps45
    go_upto_region 1 with fail
    rw [← hW0, ← hR]
    clear hW0 hR
    go_region_held3 (fun w' => w'.cell? ⟨s.b, 0, none⟩ = some (.slice s.p s.l.length s.c) ∧ w'.cell? ⟨s.b, 1, none⟩ = some (.int .i64 (k : Int))) (go_keep) ((go_at_call 58; refine (T.out _ (Below.refl _ _).drew).mono ?_; rintro e w1 ⟨rfl, hb⟩; have hc1 := (HH.out.2.1.below hb).cell))
    have d0 := hc1.1
    have d1 := hc1.2.1
    have d2 := hc1.2.2.2 1
    have go1 := (HH.out.2.1.below hb).go (k' := k + n) (by omega) (by omega)
    obtain ⟨w2, hw2⟩ : ∃ w2, w2 = w1.setCell ⟨s.b, 1, none⟩ (.int .i64 ((k : Int) + (n : Int))) := ⟨_, rfl⟩
    have go2 : St s (k + n) ts w2 ∧ Kp w1 w2 := by rw [hw2]; exact go1
    have rt2 := (HH.out.2.2.1.below hb).kp go2.2
    obtain ⟨r0, r1, q0, q1, -⟩ := rt2.facts
    have rt := Lib.hid rt2
    have hkp := (Kp.of_below (HH.out.2.2.2.1.trans (hb.mono HH.out.2.2.2.1.size))).trans go2.2
    have HG := Lib.hid (And.intro hkp go2.1)
    clear hc1 go1 go2 rt2 hb hkp c0 c1
    go_upto_region 5 with fail
    rw [← hw2]
    clear hw2 d0 d1 d2
    go_wp2_with fail
    obtain ⟨wz, hwz⟩ : ∃ wz, wz = (w2.setCell ⟨R, 0, none⟩ (.int .i64 (0))).setCell ⟨R, 1, none⟩ (.int .i64 (0)) := ⟨_, rfl⟩
    have z := ret_two rt.out (0) (0)
    rw [← hwz] at z
    try rw [← hwz]
    refine bodyPost_ret (v := (.agg #[.int .i64 (0), .int .i64 (0)])) (by simp [results, Tryd.results45, go_sem, z.1, z.2]) rfl ?_
    exact fin_go hwz rt.out (by rw [HH.out.2.2.2.2]; exact Nat.le_refl _) (by rw [HH.out.2.2.2.2]; exact HH.out.1.fr.size) HG.out.1 HG.out.2
end Go.Proofs.YtgnnkfdpfmlajaaDoor
