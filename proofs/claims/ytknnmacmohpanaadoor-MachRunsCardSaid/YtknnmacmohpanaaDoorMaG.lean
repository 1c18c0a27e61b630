/- Contracts: what writes the machine's own block. Conditions: the machine lies as told. -/
import Derived.Test.YtknnmacmohpanaaDoorMaF
namespace Go.Proofs.YtknnmacmohpanaaDoor
open Go.RowKit

/-- A machine that has changed, and nothing else that was there. -/
structure Stp (base : Nat) (w w' : World) (l l' : Lay) (m' : MS) : Prop where
  rep : MRep base w' l' m'
  M : l'.M = l.M
  chg : Chg l.fp w w'
  new : ∀ k, l'.fp k → l.fp k ∨ w.heap.size ≤ k
theorem Stp.trans {base : Nat} {w w1 w2 : World} {l l1 l2 : Lay} {m1 m2 : MS} (s : Stp base w w1 l l1 m1) (t : Stp base w1 w2 l1 l2 m2) : Stp base w w2 l l2 m2 where
  rep := t.rep
  M := t.M.trans s.M
  chg := s.chg.trans t.chg s.new
  new := fun k hk => (t.new k hk).elim (s.new k) (fun h => Or.inr (Nat.le_trans s.chg.size h))
theorem Stp.refl {base : Nat} {w : World} {l : Lay} {m : MS} (h : MRep base w l m) : Stp base w w l l m := ⟨h, rfl, Chg.refl _ _, fun _ h => Or.inl h⟩
/-- The machine's own block alone. -/
theorem Stp.own {base : Nat} {w w' : World} {l : Lay} {m' : MS} (h : MRep base w' l m' ∧ Chg (fun k => k = l.M) w w') : Stp base w w' l l m' := ⟨h.1, rfl, h.2.mono (fun _ e => Or.inl e), fun _ h => Or.inl h⟩
theorem Env.chg {F : Nat → Prop} {w w' : World} (h : Env w) (hc : Chg F w w') (hF : ∀ k, F k → 1 ≤ k) : Env w' :=
  ⟨fun f j hf hj => (World.cell?_of_block (a := ⟨0, f * 4 + j, none⟩) (hc.block _ h.size (fun hk => by have := hF 0 hk; omega))).trans (h.shapes f j hf hj), Nat.lt_of_lt_of_le h.size hc.size⟩
theorem mcell_upd {l : Lay} {m m' : MS} {i : Nat} {x : Value} (h : ∀ j, j ≠ i → mcell l m j = mcell l m' j) (hi : mcell l m' i = x) : ∀ j, j < 42 → updF (mcell l m) i x j = mcell l m' j := by
  intro j _
  by_cases hj : j = i
  · subst hj; rw [updF_same, hi]
  · rw [updF_other _ _ hj, h j hj]
theorem upd_state (l : Lay) (m : MS) (s : Int) : ∀ j, j < 42 → updF (mcell l m) 36 (.int .i64 s) j = mcell l { m with state := s } j :=
  mcell_upd (fun j hj => by unfold mcell; (repeat' split) <;> (first | rfl | omega)) rfl
theorem upd_trap (l : Lay) (m : MS) (s : Int) : ∀ j, j < 42 → updF (mcell l m) 38 (.int .i64 s) j = mcell l { m with trap := s } j :=
  mcell_upd (fun j hj => by unfold mcell; (repeat' split) <;> (first | rfl | omega)) rfl
theorem upd_place (l : Lay) (m : MS) (s : Int) : ∀ j, j < 42 → updF (mcell l m) 35 (.int .u32 s) j = mcell l { m with place := s } j :=
  mcell_upd (fun j hj => by unfold mcell; (repeat' split) <;> (first | rfl | omega)) rfl
theorem upd_code (l : Lay) (m : MS) (s : Int) : ∀ j, j < 42 → updF (mcell l m) 37 (.int .u32 s) j = mcell l { m with code := s } j :=
  mcell_upd (fun j hj => by unfold mcell; (repeat' split) <;> (first | rfl | omega)) rfl
theorem upd_steps (l : Lay) (m : MS) (s : Int) : ∀ j, j < 42 → updF (mcell l m) 39 (.int .i64 s) j = mcell l { m with steps := s } j :=
  mcell_upd (fun j hj => by unfold mcell; (repeat' split) <;> (first | rfl | omega)) rfl
theorem upd_reg (l : Lay) (m : MS) (i : Nat) (s : Int) (hi : i < 32) : ∀ j, j < 42 → updF (mcell l m) (1 + i) (.int .u32 s) j = mcell l { m with regs := updF m.regs i s } j :=
  mcell_upd (fun j hj => by
    unfold mcell
    (repeat' split) <;> (first | rfl | omega | (show Value.int .u32 (m.regs (j - 1)) = .int .u32 (updF m.regs i s (j - 1)); rw [updF_other _ _ (by omega)])))
    (by unfold mcell; rw [if_neg (by omega), if_pos (by omega)]; show Value.int .u32 (updF m.regs i s (1 + i - 1)) = _; rw [show 1 + i - 1 = i by omega, updF_same])

theorem MOk.stop {m : MS} (h : MOk m) (n : Int) (hn : 0 ≤ n ∧ n ≤ 4) : MOk (m.stop n) := ⟨h.regs, h.zero, h.size, h.mem, h.place, ⟨show (0 : Int) ≤ 2 by decide, show (2 : Int) ≤ 2 by decide⟩, h.code, hn, h.steps, h.inp, h.ilen, h.out⟩
theorem MOk.setR {m : MS} (h : MOk m) (d : Nat) (x : Int) (hx : 0 ≤ x ∧ x < 4294967296) : MOk (m.setR d x) := by
  refine ⟨fun i => ?_, ?_, h.size, h.mem, h.place, h.state, h.code, h.trap, h.steps, h.inp, h.ilen, h.out⟩
  · show 0 ≤ (if d = 0 then m.regs else updF m.regs d x) i ∧ (if d = 0 then m.regs else updF m.regs d x) i < _
    split
    · exact h.regs i
    · unfold updF; split
      · exact hx
      · exact h.regs i
  · show (if d = 0 then m.regs else updF m.regs d x) 0 = 0
    split
    · exact h.zero
    · rename_i hd; rw [updF_other _ _ (Ne.symm hd)]; exact h.zero
theorem MOk.goto {m : MS} (h : MOk m) (x : Int) (hx : 0 ≤ x ∧ x < 4294967296) : MOk { m with place := x } := ⟨h.regs, h.zero, h.size, h.mem, hx, h.state, h.code, h.trap, h.steps, h.inp, h.ilen, h.out⟩
theorem MOk.setM {m : MS} (h : MOk m) (i : Nat) (x : Int) (hx : 0 ≤ x ∧ x < 4294967296) : MOk { m with mem := updF m.mem i x } := by
  refine ⟨h.regs, h.zero, h.size, fun j => ?_, h.place, h.state, h.code, h.trap, h.steps, h.inp, h.ilen, h.out⟩
  show 0 ≤ updF m.mem i x j ∧ updF m.mem i x j < _
  unfold updF; split
  · exact hx
  · exact h.mem j

set_option maxRecDepth 100000 in
set_option maxHeartbeats 1000000 in
theorem stop_at {base : Nat} {w : World} {l : Lay} {m : MS} (h : MRep base w l m) (n : Int) (hn : 0 ≤ n ∧ n ≤ 4) :
    Calls Tryd.prog 63 #[.pointer (some ⟨l.M, 0, none⟩), .int .i64 n] w fun e w' => e = .returned (.tuple #[]) ∧ Stp base w w' l l (m.stop n) := by
  have c1 := h.c36
  have c2 := h.c38
  have f := freeF h.mac
  have H := Lib.hid (And.intro h hn)
  clear h hn
  go_enter Tryd.func63, Tryd.ntmps63
  go_wp2
  go_returns
  obtain ⟨h, hn⟩ := H.out
  refine ⟨rfl, ?_⟩
  have s1 := h.set1 36 (.int .i64 2) (by decide) (upd_state l m 2) ⟨h.ok.regs, h.ok.zero, h.ok.size, h.ok.mem, h.ok.place, ⟨show (0 : Int) ≤ 2 by decide, show (2 : Int) ≤ 2 by decide⟩, h.ok.code, h.ok.trap, h.ok.steps, h.ok.inp, h.ok.ilen, h.ok.out⟩ rfl rfl rfl
  exact (Stp.own s1).trans (Stp.own (s1.1.set1 38 (.int .i64 n) (by decide) (upd_trap l _ n) (h.ok.stop n hn) rfl rfl rfl))

set_option maxRecDepth 100000 in
set_option maxHeartbeats 1000000 in
theorem set_out {base : Nat} {w : World} {l : Lay} {m : MS} (h : MRep base w l m) (i x : Int) (hi : ¬ (0 ≤ i ∧ i < 32)) :
    Calls Tryd.prog 16 #[.pointer (some ⟨l.M, 0, none⟩), .int .i64 i, .int .u32 x] w fun e w' => e = .returned (.int .i64 2) ∧ w = w' := by
  have hb : decide (0 ≤ i ∧ i < 32) = false := by simpa using hi
  have HB := Lib.hid hb
  have c0 := h.c0
  clear hb hi h
  go_enter Tryd.func16, Tryd.ntmps16
  go_wp2_with (first
    | (go_at_call 35; refine (made_at _ _ c0).mono ?_; rintro e w' ⟨rfl, rfl⟩)
    | (go_at_call 39; refine (isReg_val _ _ _ HB.out).mono ?_; rintro e w' ⟨rfl, rfl⟩))
  go_ret
  exact ⟨rfl, rfl⟩
set_option maxRecDepth 100000 in
set_option maxHeartbeats 1000000 in
theorem set_in {base : Nat} {w : World} {l : Lay} {m : MS} (h : MRep base w l m) (i : Nat) (x : Int) (hi : i < 32) (hx : 0 ≤ x ∧ x < 4294967296) :
    Calls Tryd.prog 16 #[.pointer (some ⟨l.M, 0, none⟩), .int .i64 i, .int .u32 x] w fun e w' => e = .returned (.int .i64 0) ∧ Stp base w w' l l (m.setR i x) := by
  have hb : decide (0 ≤ (i : Int) ∧ (i : Int) < 32) = true := by simp; omega
  have HB := Lib.hid hb
  have c0 := h.c0
  have H := Lib.hid (And.intro h hx)
  clear hb hx
  by_cases hz : i = 0
  · subst hz
    clear h
    go_enter Tryd.func16, Tryd.ntmps16
    go_wp2_with (first
      | (go_at_call 35; refine (made_at _ _ c0).mono ?_; rintro e w' ⟨rfl, rfl⟩)
      | (go_at_call 39; refine (isReg_val _ _ _ HB.out).mono ?_; rintro e w' ⟨rfl, rfl⟩))
    go_ret
    exact ⟨rfl, Stp.refl H.out.1⟩
  · have hn : ((i : Int) == 0) = false := beq_eq_false_iff_ne.2 (by omega)
    have cr := h.cr i hi
    have f := freeF h.mac (1 + i)
    have HZ := Lib.hid hz
    clear h hz
    go_enter Tryd.func16, Tryd.ntmps16
    go_wp2_with (first
      | (go_at_call 35; refine (made_at _ _ c0).mono ?_; rintro e w' ⟨rfl, rfl⟩)
      | (go_at_call 39; refine (isReg_val _ _ _ HB.out).mono ?_; rintro e w' ⟨rfl, rfl⟩))
    go_ret
    obtain ⟨h, hx⟩ := H.out
    refine ⟨rfl, Stp.own ?_⟩
    have ho := h.ok.setR i x hx
    have he : m.setR i x = { m with regs := updF m.regs i x } := by unfold MS.setR; rw [if_neg HZ.out]
    rw [he] at ho ⊢
    exact h.set1 (1 + i) (.int .u32 x) (by omega) (upd_reg l m i x hi) ho rfl rfl rfl

set_option maxRecDepth 100000 in
set_option maxHeartbeats 1000000 in
theorem go_run {base : Nat} {w : World} {l : Lay} {m : MS} (h : MRep base w l m) (x : Int) (hs : m.state = 0) (hx : 0 ≤ x ∧ x < 4294967296) :
    Calls Tryd.prog 17 #[.pointer (some ⟨l.M, 0, none⟩), .int .u32 x] w fun e w' => e = .returned (.int .i64 0) ∧ Stp base w w' l l { m with place := x } := by
  have c0 := h.c0
  have c1 := h.c36
  rw [hs] at c1
  have c2 := h.c35
  have f := freeF h.mac 35
  have H := Lib.hid (And.intro h hx)
  clear h hx hs
  go_enter Tryd.func17, Tryd.ntmps17
  go_wp2_with (go_at_call 35; refine (made_at _ _ c0).mono ?_; rintro e w' ⟨rfl, rfl⟩)
  go_ret
  obtain ⟨h, hx⟩ := H.out
  exact ⟨rfl, Stp.own (h.set1 35 (.int .u32 x) (by decide) (upd_place l m x) (h.ok.goto x hx) rfl rfl rfl)⟩
set_option maxRecDepth 100000 in
set_option maxHeartbeats 1000000 in
theorem go_not {base : Nat} {w : World} {l : Lay} {m : MS} (h : MRep base w l m) (x : Int) (hs : m.state ≠ 0) :
    Calls Tryd.prog 17 #[.pointer (some ⟨l.M, 0, none⟩), .int .u32 x] w fun e w' => e = .returned (.int .i64 2) ∧ w = w' := by
  have c0 := h.c0
  have c1 := h.c36
  have hn : (m.state == 0) = false := beq_eq_false_iff_ne.2 hs
  clear h hs
  go_enter Tryd.func17, Tryd.ntmps17
  go_wp2_with (go_at_call 35; refine (made_at _ _ c0).mono ?_; rintro e w' ⟨rfl, rfl⟩)
  go_ret
  exact ⟨rfl, rfl⟩
end Go.Proofs.YtknnmacmohpanaaDoor
