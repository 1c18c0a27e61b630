/- Contracts: input is read; a word is decoded. Conditions: the machine lies as told; the forms' table is as laid. -/
import Derived.Test.YtknnmacmohpanaaDoorMaH
import Derived.Test.YtknnmacmohpanaaDoorIsaWf
import Derived.Deep.DeepCutAuto
import Derived.Deep.CutBlock
namespace Go.Proofs.YtknnmacmohpanaaDoor
open Go.RowKit

theorem upd_vi (l : Lay) (m : MS) (v : Value) (r : List Int) : ∀ j, j < 42 → updF (mcell l m) 40 v j = mcell { l with vi := v } { m with inp := r } j := by
  intro j _
  by_cases hj : j = 40
  · subst hj; rw [updF_same]; rfl
  · rw [updF_other _ _ hj]; unfold mcell; (repeat' split) <;> (first | rfl | omega)
theorem MRep.setIn {base : Nat} {w : World} {l : Lay} {m : MS} (h : MRep base w l m) (x : Int) (r : List Int) (v : Value) (hm : m.inp = x :: r) (hv : InRep w v r) (hb : ∀ k, inB v = some k → inB l.vi = some k) :
    Stp base w (w.setCell ⟨l.M, 40, none⟩ v) l { l with vi := v } { m with inp := r } ∧ Chg (fun k => k = l.M) w (w.setCell ⟨l.M, 40, none⟩ v) := by
  have hc : Chg (fun k => k = l.M) w (w.setCell ⟨l.M, 40, none⟩ v) := (Chg.refl _ _).setCell _ _ (Or.inl rfl)
  have hfp : ∀ k, ({ l with vi := v } : Lay).fp k → l.fp k := by
    intro k hk
    rcases hk with e | e | e | e | e | e
    · exact Or.inl e
    · exact Or.inr (Or.inl e)
    · exact Or.inr (Or.inr (Or.inl e))
    · exact Or.inr (Or.inr (Or.inr (Or.inl e)))
    · exact Or.inr (Or.inr (Or.inr (Or.inr (Or.inl (hb k e)))))
    · exact Or.inr (Or.inr (Or.inr (Or.inr (Or.inr e))))
  refine ⟨⟨⟨?_, ?_, ?_, ?_, h.nop, ?_, ?_, ?_, ?_, fun k hk => h.lb k (hfp k hk)⟩, rfl, hc.mono (fun _ e => Or.inl e), fun k hk => Or.inl (hfp k hk)⟩, hc⟩
  · have hi := h.ok.inp
    rw [hm] at hi
    exact ⟨h.ok.regs, h.ok.zero, h.ok.size, h.ok.mem, h.ok.place, h.ok.state, h.ok.code, h.ok.trap, h.ok.steps, fun y hy => hi y (List.mem_cons_of_mem _ hy), by have := h.ok.ilen; rw [hm] at this; simp at this; show r.length ≤ 1024; omega, h.ok.out⟩
  · exact set_blockF h.mac (by decide) (upd_vi l m v r)
  · exact hc.same h.dir (fun e => ne_kind h.dir h.mac (by decide) e)
  · intro P hP
    exact hc.same (h.pag P hP) (fun e => ne_kind (h.pag P hP) h.mac (by decide) e)
  · intro I hI
    obtain ⟨g, hg, hi⟩ := h.ins I hI
    exact ⟨g, hg, hc.same hi (fun e => ne_kind hi h.mac (by decide) e)⟩
  · exact hv.kept fun k hk => by
      obtain ⟨cs, hk'⟩ := hv.block hk
      exact hc.block k (lt_of_block hk') (fun e => ne_kind hk' h.mac (by decide) e)
  · exact own_kept h.out fun k hk => by
      obtain ⟨cs, hk'⟩ := own_block h.out hk
      exact hc.block k (lt_of_block hk') (fun e => ne_kind hk' h.mac (by decide) e)
  · rcases h.ne with e | e
    · left
      show inB v = none
      cases hv' : inB v with
      | none => rfl
      | some k => rw [hb k hv'] at e; cases e
    · show inB v = none ∨ inB v ≠ l.vo.ownBlock
      cases hv' : inB v with
      | none => exact Or.inl rfl
      | some k => right; rw [← hb k hv']; exact e

set_option maxRecDepth 100000 in
set_option maxHeartbeats 1000000 in
theorem read_none {base : Nat} {w : World} {l : Lay} {m : MS} (h : MRep base w l m) (p : Option Addr) (c : Nat) (hv : l.vi = .slice p 0 c) :
    Calls Tryd.prog 66 #[.pointer (some ⟨l.M, 0, none⟩)] w fun e w' => e = .returned (.int .u32 4294967295) ∧ w = w' := by
  have c40 := h.c40
  rw [hv] at c40
  clear h hv
  go_enter Tryd.func66, Tryd.ntmps66
  go_wp2
  go_ret
  exact ⟨rfl, rfl⟩
set_option maxRecDepth 100000 in
set_option maxHeartbeats 1000000 in
theorem read_some {base : Nat} {w : World} {l : Lay} {m : MS} (h : MRep base w l m) (x : Int) (r : List Int) (N off cap : Nat) (cs : Array Value) (hm : m.inp = x :: r) (hv : l.vi = .slice (some ⟨N, off, none⟩) (r.length + 1) cap) (hcap : r.length + 1 ≤ cap) (hmx : cap ≤ 9223372036854775807)
    (hN : w.heap[N]? = some (.cells cs 5 (0, 0))) (hcs : ∀ j, j < r.length + 1 → cs[off + j]? = some (.int .u8 ((x :: r).getD j 0))) :
    Calls Tryd.prog 66 #[.pointer (some ⟨l.M, 0, none⟩)] w fun e w' => e = .returned (.int .u32 x) ∧ Chg (fun k => k = l.M) w w' ∧ ∃ l', Stp base w w' l l' { m with inp := r } := by
  have c40 := h.c40
  rw [hv] at c40
  have f40 := freeF h.mac 40
  have hx := h.ok.inp x (by rw [hm]; exact List.mem_cons_self ..)
  have hl := h.ok.ilen
  rw [hm] at hl
  simp only [List.length_cons] at hl
  have cN : w.cell? ⟨N, off, none⟩ = some (.int .u8 x) := by rw [cell_of_block hN]; exact hcs 0 (by omega)
  have hz : ((r.length : Int) + 1 == 0) = false := beq_eq_false_iff_ne.2 (by omega)
  have hneN := h.inp
  have H := Lib.hid (And.intro h (And.intro hm (And.intro hv (And.intro hN hcs))))
  obtain ⟨hx0, hx1⟩ := hx
  have hmod : x % 4294967296 = x := by omega
  clear h hm hv hN hcs hneN
  by_cases hc1 : cap = 1
  · subst hc1
    have hr : r.length = 0 := by omega
    have HR := Lib.hid hr
    rw [hr] at c40 hz
    clear hr
    go_enter Tryd.func66, Tryd.ntmps66
    go_wp2
    go_ret
    obtain ⟨h, hm, hv, hN, hcs⟩ := H.out
    have t := h.setIn x r (.slice (some ⟨N, off, none⟩) 0 0) hm (Or.inl ⟨List.length_eq_zero_iff.1 HR.out, _, _, rfl⟩) (fun k hk => by cases hk)
    exact ⟨rfl, t.2, _, t.1⟩
  · have HC := Lib.hid hc1
    have hc2 : 1 < cap := by omega
    clear hc1
    go_enter Tryd.func66, Tryd.ntmps66
    go_wp2
    go_ret
    obtain ⟨h, hm, hv, hN, hcs⟩ := H.out
    have t := h.setIn x r (.slice (some ⟨N, off + 1, none⟩) r.length (cap - 1)) hm (by
      by_cases hr : r = []
      · subst hr; exact Or.inl ⟨rfl, _, _, rfl⟩
      · refine Or.inr ⟨N, off + 1, cap - 1, cs, rfl, hr, by omega, by omega, hN, fun j hj => ?_⟩
        have := hcs (j + 1) (by omega)
        rw [show off + 1 + j = off + (j + 1) by omega, this]
        rfl) (fun k hk => by
      rw [hv]
      cases r with
      | nil => cases hk
      | cons y q => exact hk)
    exact ⟨rfl, t.2, _, t.1⟩
theorem MS.inp_self (m : MS) (r : List Int) (h : m.inp = r) : { m with inp := r } = m := by subst h; rfl
theorem read_at {base : Nat} {w : World} {l : Lay} {m : MS} (h : MRep base w l m) :
    Calls Tryd.prog 66 #[.pointer (some ⟨l.M, 0, none⟩)] w fun e w' => e = .returned (.int .u32 (m.inp.headD 4294967295)) ∧ Chg (fun k => k = l.M) w w' ∧ ∃ l', Stp base w w' l l' { m with inp := m.inp.tail } := by
  rcases h.inp with ⟨hl, p, c, hv⟩ | ⟨N, off, cap, cs, hv, hne, hc, hm, hN, hcs⟩
  · refine (read_none h p c hv).mono fun e w' ⟨he, hw⟩ => ?_
    subst hw
    rw [hl]
    refine ⟨he, Chg.refl _ _, l, ?_⟩
    have he : ({ m with inp := ([] : List Int).tail } : MS) = m := MS.inp_self m _ hl
    rw [he]
    exact Stp.refl h
  · cases hi : m.inp with
    | nil => exact absurd hi hne
    | cons x r =>
      rw [hi] at hcs hv hc
      exact read_some h x r N off cap cs hi hv hc hm hN hcs

/-- What a word is decoded to. -/
def ival (v : Int) : Value := .agg #[icell v 0, icell v 1, icell v 2, icell v 3, icell v 4, icell v 5]
theorem dok_range {v : Int} (h : Isa.dOk v = true) : (1 ≤ Isa.dOp v ∧ Isa.dOp v ≤ 36) ∧ (0 ≤ Isa.fD v ∧ Isa.fD v ≤ 31) ∧ (0 ≤ Isa.fA v ∧ Isa.fA v ≤ 31) ∧ (0 ≤ Isa.fB v ∧ Isa.fB v ≤ 31) := ok_bounds h
theorem cells6 {w : World} {b t : Nat} {v0 v1 v2 v3 v4 v5 : Value} {fr : Nat × Nat} (h : w.heap[b]? = some (.cells #[v0, v1, v2, v3, v4, v5] t fr)) :
    w.cell? ⟨b, 0, none⟩ = some v0 ∧ w.cell? ⟨b, 1, none⟩ = some v1 ∧ w.cell? ⟨b, 2, none⟩ = some v2 ∧ w.cell? ⟨b, 3, none⟩ = some v3 ∧ w.cell? ⟨b, 4, none⟩ = some v4 ∧ w.cell? ⟨b, 5, none⟩ = some v5 := by
  simp [World.cell?, h]
theorem store6 {W w : World} {R t : Nat} {y0 y1 y2 y3 y4 y5 x0 x1 x2 x3 x4 x5 : Value} (hb : Below W.heap.size W w) (h : w.heap[R]? = some (.cells #[y0, y1, y2, y3, y4, y5] t (0, 0))) (hR : W.heap.size ≤ R) :
    Below W.heap.size W ((((((w.setCell ⟨R, 0, none⟩ x0).setCell ⟨R, 1, none⟩ x1).setCell ⟨R, 2, none⟩ x2).setCell ⟨R, 3, none⟩ x3).setCell ⟨R, 4, none⟩ x4).setCell ⟨R, 5, none⟩ x5) ∧
    ((((((w.setCell ⟨R, 0, none⟩ x0).setCell ⟨R, 1, none⟩ x1).setCell ⟨R, 2, none⟩ x2).setCell ⟨R, 3, none⟩ x3).setCell ⟨R, 4, none⟩ x4).setCell ⟨R, 5, none⟩ x5).heap[R]? = some (.cells #[x0, x1, x2, x3, x4, x5] t (0, 0)) :=
  ⟨(((((hb.setCell hR _).setCell hR _).setCell hR _).setCell hR _).setCell hR _).setCell hR _,
    setCell_block (i := 5) (setCell_block (i := 4) (setCell_block (i := 3) (setCell_block (i := 2) (setCell_block (i := 1) (setCell_block (i := 0) h (by simp)) (by simp)) (by simp)) (by simp)) (by simp)) (by simp)⟩

set_option maxRecDepth 100000 in
set_option maxHeartbeats 2000000 in
theorem decoded_bad (v : Int) (w : World) (h : Env w) (v0 : 0 ≤ v) (v1 : v < 4294967296) (hd : Isa.dOk v = false) :
    Calls Tryd.prog 77 #[.int .u32 v] w fun e w' => e = .returned (.agg #[.int .u32 v, .int .u32 0, .int .u8 0, .int .u8 0, .int .u8 0, .int .u8 0]) ∧ Below w.heap.size w w' := by
  have HC : Hid (∀ w, Env w → Calls Tryd.prog 26 #[.int .u32 v] w fun e w' => e = .returned (.tuple #[.agg #[.int .i64 0, .int .i64 0, .int .i64 0, .int .i64 0, .int .i64 0], .int .i64 11]) ∧ Below w.heap.size w w') := by
    intro w h
    refine (decode_any v w h v0 v1).mono fun e w' ⟨he, hb⟩ => ⟨?_, hb⟩
    unfold Dec at he
    rw [he, if_neg (by rw [show Isa.ok (v / 67108864) (Isa.fD v) (Isa.fA v) (Isa.fB v) (Isa.fImm v) = Isa.dOk v from rfl, hd]; decide)]
  clear hd
  go_enter Tryd.func77, Tryd.ntmps77
  go_wp2_with fail
  refine (HC.out _ (h.alloc _)).mono ?_
  rintro e w1 ⟨rfl, hb⟩
  have hz : w.heap.size < w1.heap.size := by have := hb.size; simp at this; omega
  have hR := (hb.block w.heap.size (by simp)).trans (heap_new w _)
  have hb1 := ((Below.refl w.heap.size w).alloc (Nat.le_refl _) _).trans (hb.mono (by simp))
  go_upto_region 2 with fail
  have hR2 := (Below.heap_alloc w1 (.cells #[.int .i64 0, .int .i64 0, .int .i64 0, .int .i64 0, .int .i64 0] 55) w.heap.size hz).trans hR
  have hb2 := hb1.alloc (by omega) (.cells #[.int .i64 0, .int .i64 0, .int .i64 0, .int .i64 0, .int .i64 0] 55)
  obtain ⟨w2, hw2⟩ : ∃ w2, w2 = w1.alloc (.cells #[.int .i64 0, .int .i64 0, .int .i64 0, .int .i64 0, .int .i64 0] 55) := ⟨_, rfl⟩
  rw [← hw2] at hR2 hb2 ⊢
  obtain ⟨R, hRe⟩ : ∃ R, R = w.heap.size := ⟨_, rfl⟩
  have HL : Hid (w.heap.size ≤ R) := by unfold Hid; omega
  clear hw2 hR hb hb1
  rw [← hRe] at hR2 ⊢
  clear hRe hz
  obtain ⟨c0, c1, c2, c3, c4, c5⟩ := cells6 hR2
  have f0 := freeF hR2 0; have f1 := freeF hR2 1; have f2 := freeF hR2 2; have f3 := freeF hR2 3; have f4 := freeF hR2 4; have f5 := freeF hR2 5
  have HR := Lib.hid (And.intro hR2 hb2)
  clear hR2 hb2
  go_wp2_with fail
  obtain ⟨b6, h6⟩ := store6 (x0 := .int .u32 v) (x1 := .int .u32 0) (x2 := .int .u8 0) (x3 := .int .u8 0) (x4 := .int .u8 0) (x5 := .int .u8 0) HR.out.2 HR.out.1 HL.out
  obtain ⟨wz, hw⟩ : ∃ wz, wz = (((((w2.setCell ⟨R, 0, none⟩ (.int .u32 v)).setCell ⟨R, 1, none⟩ (.int .u32 0)).setCell ⟨R, 2, none⟩ (.int .u8 0)).setCell ⟨R, 3, none⟩ (.int .u8 0)).setCell ⟨R, 4, none⟩ (.int .u8 0)).setCell ⟨R, 5, none⟩ (.int .u8 0) := ⟨_, rfl⟩
  rw [← hw] at b6 h6 ⊢
  clear hw
  obtain ⟨z0, z1, z2, z3, z4, z5⟩ := cells6 h6
  exact bodyPost_ret (v := .agg #[.int .u32 v, .int .u32 0, .int .u8 0, .int .u8 0, .int .u8 0, .int .u8 0]) (by simp [results, Tryd.results77, go_sem, z0, z1, z2, z3, z4, z5]) rfl ⟨rfl, b6⟩

set_option maxRecDepth 100000 in
set_option maxHeartbeats 2000000 in
theorem decoded_ok (v op d a b imm : Int) (w : World) (h : Env w) (o0 : 0 ≤ op) (o1 : op ≤ 36) (d0 : 0 ≤ d) (d1 : d ≤ 31) (a0 : 0 ≤ a) (a1 : a ≤ 31) (b0 : 0 ≤ b) (b1 : b ≤ 31)
    (HC : Hid (∀ w, Env w → Calls Tryd.prog 26 #[.int .u32 v] w fun e w' => e = .returned (.tuple #[.agg #[.int .i64 op, .int .i64 d, .int .i64 a, .int .i64 b, .int .i64 imm], .int .i64 0]) ∧ Below w.heap.size w w')) :
    Calls Tryd.prog 77 #[.int .u32 v] w fun e w' => e = .returned (.agg #[.int .u32 v, .int .u32 (imm % 4294967296), .int .u8 op, .int .u8 d, .int .u8 a, .int .u8 b]) ∧ Below w.heap.size w w' := by
  have HM : Hid (op % 256 = op ∧ d % 256 = d ∧ a % 256 = a ∧ b % 256 = b) := by unfold Hid; omega
  go_enter Tryd.func77, Tryd.ntmps77
  go_wp2_with fail
  refine (HC.out _ (h.alloc _)).mono ?_
  rintro e w1 ⟨rfl, hb⟩
  have hz : w.heap.size < w1.heap.size := by have := hb.size; simp at this; omega
  have hR := (hb.block w.heap.size (by simp)).trans (heap_new w _)
  have hb1 := ((Below.refl w.heap.size w).alloc (Nat.le_refl _) _).trans (hb.mono (by simp))
  go_upto_region 2 with fail
  have hR2 := (Below.heap_alloc w1 (.cells #[.int .i64 op, .int .i64 d, .int .i64 a, .int .i64 b, .int .i64 imm] 55) w.heap.size hz).trans hR
  have hb2 := hb1.alloc (by omega) (.cells #[.int .i64 op, .int .i64 d, .int .i64 a, .int .i64 b, .int .i64 imm] 55)
  have hX := heap_new w1 (.cells #[.int .i64 op, .int .i64 d, .int .i64 a, .int .i64 b, .int .i64 imm] 55)
  obtain ⟨w2, hw2⟩ : ∃ w2, w2 = w1.alloc (.cells #[.int .i64 op, .int .i64 d, .int .i64 a, .int .i64 b, .int .i64 imm] 55) := ⟨_, rfl⟩
  rw [← hw2] at hR2 hb2 hX ⊢
  obtain ⟨R, hRe⟩ : ∃ R, R = w.heap.size := ⟨_, rfl⟩
  have HL : Hid (w.heap.size ≤ R) := by unfold Hid; omega
  obtain ⟨X, hXe⟩ : ∃ X, X = w1.heap.size := ⟨_, rfl⟩
  clear hw2 hR hb hb1
  rw [← hRe] at hR2 ⊢
  rw [← hXe] at hX ⊢
  rw [← hXe, ← hRe] at hz
  clear hRe hXe
  obtain ⟨c0, c1, c2, c3, c4, c5⟩ := cells6 hR2
  obtain ⟨y0, y1, y2, y3, y4⟩ := cells5 hX
  have f0 := freeF hR2 0; have f1 := freeF hR2 1; have f2 := freeF hR2 2; have f3 := freeF hR2 3; have f4 := freeF hR2 4; have f5 := freeF hR2 5
  have HR := Lib.hid (And.intro hR2 hb2)
  clear hR2 hb2 hX
  go_wp2_with fail
  obtain ⟨b6, h6⟩ := store6 (x0 := .int .u32 v) (x1 := .int .u32 (imm % 4294967296)) (x2 := .int .u8 op) (x3 := .int .u8 d) (x4 := .int .u8 a) (x5 := .int .u8 b) HR.out.2 HR.out.1 HL.out
  obtain ⟨m1, m2, m3, m4⟩ := HM.out
  try rw [m1]
  try rw [m2]
  try rw [m3]
  try rw [m4]
  obtain ⟨wz, hw⟩ : ∃ wz, wz = (((((w2.setCell ⟨R, 0, none⟩ (.int .u32 v)).setCell ⟨R, 1, none⟩ (.int .u32 (imm % 4294967296))).setCell ⟨R, 2, none⟩ (.int .u8 op)).setCell ⟨R, 3, none⟩ (.int .u8 d)).setCell ⟨R, 4, none⟩ (.int .u8 a)).setCell ⟨R, 5, none⟩ (.int .u8 b) := ⟨_, rfl⟩
  rw [← hw] at b6 h6 ⊢
  clear hw
  obtain ⟨z0, z1, z2, z3, z4, z5⟩ := cells6 h6
  exact bodyPost_ret (v := .agg #[.int .u32 v, .int .u32 (imm % 4294967296), .int .u8 op, .int .u8 d, .int .u8 a, .int .u8 b]) (by simp [results, Tryd.results77, go_sem, z0, z1, z2, z3, z4, z5]) rfl ⟨rfl, b6⟩

theorem decoded_any (v : Int) (w : World) (h : Env w) (v0 : 0 ≤ v) (v1 : v < 4294967296) :
    Calls Tryd.prog 77 #[.int .u32 v] w fun e w' => e = .returned (ival v) ∧ Below w.heap.size w w' := by
  cases hd : Isa.dOk v
  · have HI : ival v = .agg #[.int .u32 v, .int .u32 0, .int .u8 0, .int .u8 0, .int .u8 0, .int .u8 0] := by unfold ival icell; rw [hd]; rfl
    rw [HI]
    exact decoded_bad v w h v0 v1 hd
  · have HI : ival v = .agg #[.int .u32 v, .int .u32 (Isa.fImm v % 4294967296), .int .u8 (Isa.dOp v), .int .u8 (Isa.fD v), .int .u8 (Isa.fA v), .int .u8 (Isa.fB v)] := by unfold ival icell; rw [hd]; rfl
    rw [HI]
    obtain ⟨⟨o0, o1⟩, ⟨d0, d1⟩, ⟨a0, a1⟩, b0, b1⟩ := dok_range hd
    refine decoded_ok v _ _ _ _ _ w h (by omega) o1 d0 d1 a0 a1 b0 b1 (fun w h => (decode_any v w h v0 v1).mono fun e w' ⟨he, hb⟩ => ⟨?_, hb⟩)
    unfold Dec at he
    rw [he, if_pos (show Isa.ok (v / 67108864) (Isa.fD v) (Isa.fA v) (Isa.fB v) (Isa.fImm v) = true from hd)]
    rfl
end Go.Proofs.YtknnmacmohpanaaDoor
