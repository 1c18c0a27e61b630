/- Contracts: a step, and many. Conditions: the machine lies as told; the forms' table is as laid. -/
import Derived.Test.YtknnmacmohpanaaDoorMaK
namespace Go.Proofs.YtknnmacmohpanaaDoor
open Go.RowKit

theorem exec_bounds (m : MS) (op : Int) (d : Nat) (a b i : Int) : ((m.exec op d a b i).steps = m.steps ∨ (m.exec op d a b i).steps = m.steps + 1) ∧ (m.exec op d a b i).out.length ≤ m.out.length + 1 := by
  unfold MS.exec
  (repeat' split) <;> first | exact ⟨Or.inl rfl, Nat.le_succ _⟩ | exact ⟨Or.inr rfl, Nat.le_succ _⟩ | exact ⟨Or.inr rfl, by show (m.out ++ [a % 256]).length ≤ _; simp⟩
theorem step_bounds (m : MS) : (m.step.steps = m.steps ∨ m.step.steps = m.steps + 1) ∧ m.step.out.length ≤ m.out.length + 1 := by
  unfold MS.step
  split
  · exact ⟨Or.inl rfl, Nat.le_succ _⟩
  · split
    · exact ⟨Or.inl rfl, Nat.le_succ _⟩
    · exact exec_bounds _ _ _ _ _ _
theorem run_done {m : MS} (h : m.state ≠ 0) : ∀ k, MS.run k m = m
  | 0 => rfl
  | k + 1 => by unfold MS.run; rw [if_neg h]

theorem step_at {base : Nat} {w : World} {l : Lay} {m : MS} (h : MRep base w l m) (hE : Env w) (hb : 1 ≤ base) (hs : m.state = 0) (hlim : m.steps < 1000000) (hlo : m.out.length < 1000000) :
    Calls Tryd.prog 36 #[.pointer (some ⟨l.M, 0, none⟩)] w fun e w' => e = .returned (.tuple #[]) ∧ ∃ l', Stp base w w' l l' m.step := by
  by_cases hp : (m.size : Int) ≤ m.place
  · exact step_far_at h hp
  · have := h.ok.place
    exact step_near h hE hb hs hlim hlo (by omega) m.place.toNat (by omega)

/-- Between two rounds of Run. -/
def RunRel (base : Nat) (w : World) (l : Lay) (m : MS) (n : Nat) (f : Value) (wr : World) : Prop :=
  ∃ (k : Nat) (l1 : Lay) (m1 : MS), f = .int .i64 k ∧ Stp base w wr l l1 m1 ∧ MS.run k m1 = MS.run n m ∧ m1.steps + k ≤ 1000000 ∧ m1.out.length + k ≤ 1000000

set_option maxRecDepth 100000 in
set_option maxHeartbeats 4000000 in
theorem run_nat {base : Nat} {w : World} {l : Lay} {m : MS} (h : MRep base w l m) (hE : Env w) (hb : 1 ≤ base) (n : Nat) (hlim : m.steps + n ≤ 1000000) (hlo : m.out.length + n ≤ 1000000) :
    Calls Tryd.prog 13 #[.pointer (some ⟨l.M, 0, none⟩), .int .i64 n] w fun e w' => e = .returned (.int .i64 (MS.run n m).state) ∧ ∃ l', Stp base w w' l l' (MS.run n m) := by
  have c0 := h.c0
  have hn0 := h.ok.steps
  have hn : n ≤ 1000000 := by omega
  have H0 : Hid (RunRel base w l m n (.int .i64 n) w) := ⟨n, l, m, rfl, Stp.refl h, rfl, hlim, hlo⟩
  have HH := Lib.hid (And.intro h (And.intro hE hb))
  clear h hE hb hlim hlo hn0
  obtain ⟨M, hM⟩ : ∃ M, M = l.M := ⟨_, rfl⟩
  have HM := Lib.hid hM
  rw [← hM] at c0 ⊢
  clear hM
  go_enter Tryd.func13, Tryd.ntmps13
  go_wp2_with (go_at_call 35; refine (made_at _ _ c0).mono ?_; rintro e w' ⟨rfl, rfl⟩)
  clear c0
  go_loopw [1] (fun f wr => RunRel base w l m n f wr) (fun f _ => (intOf f).toNat)
  case atStart => exact H0.out
  case round =>
    obtain ⟨k, l1, m1, rfl, s1, hr, hl1, hl2⟩ := hrel
    have hk0 := s1.rep.ok.steps
    have c36 := s1.rep.c36
    rw [s1.M, ← HM.out] at c36
    have hk : k ≤ 1000000 := by omega
    by_cases hpos : 0 < k
    · by_cases hst : m1.state = 0
      · rw [hst] at c36
        have hE1 : Env wr := HH.out.2.1.chg s1.chg (fun i hi => Nat.le_trans HH.out.2.2 (HH.out.1.lb i hi))
        have hcall := step_at s1.rep hE1 HH.out.2.2 hst (by omega) (by omega)
        rw [s1.M, ← HM.out] at hcall
        have HS := Lib.hid (And.intro hcall (And.intro s1 (And.intro hr (And.intro hl1 (And.intro hl2 hst)))))
        clear hcall s1 hr hl1 hl2 hst hE1 hk0
        go_wp2_with fail
        refine HS.out.1.mono ?_
        rintro e w2 ⟨rfl, l2, s2⟩
        have H2 := Lib.hid s2
        clear s2
        go_wp2_with fail
        go_roundw
        case rel =>
          obtain ⟨-, s1, hr, hl1, hl2, hst⟩ := HS.out
          have hbd := step_bounds m1
          refine ⟨k - 1, l2, m1.step, by go_num, s1.trans H2.out, ?_, by omega, by omega⟩
          rw [← hr]
          obtain ⟨j, rfl⟩ : ∃ j, k = j + 1 := ⟨k - 1, by omega⟩
          rw [Nat.add_sub_cancel]
          show _ = (if m1.state = 0 then MS.run j m1.step else m1)
          rw [if_pos hst]
        case measure => simp [intOf]; omega
      · have hs' : (m1.state == 0) = false := beq_eq_false_iff_ne.2 hst
        have HS := Lib.hid (And.intro s1 (And.intro hr hst))
        clear s1 hr hl1 hl2 hst hk0
        go_wp2_with fail
        go_ret
        obtain ⟨s1, hr, hst⟩ := HS.out
        rw [← hr, run_done hst]
        exact ⟨rfl, l1, s1⟩
    · have hz : k = 0 := by omega
      subst hz
      have HS := Lib.hid (And.intro s1 hr)
      clear s1 hr hl1 hl2 hk0 hpos hk
      go_wp2_with fail
      go_ret
      obtain ⟨s1, hr⟩ := HS.out
      rw [← hr]
      exact ⟨rfl, l1, s1⟩

set_option maxRecDepth 100000 in
set_option maxHeartbeats 4000000 in
theorem run_neg {base : Nat} {w : World} {l : Lay} {m : MS} (h : MRep base w l m) (n : Int) (hn : n ≤ 0) :
    Calls Tryd.prog 13 #[.pointer (some ⟨l.M, 0, none⟩), .int .i64 n] w fun e w' => e = .returned (.int .i64 m.state) ∧ w = w' := by
  have c0 := h.c0
  have c36 := h.c36
  clear h
  obtain ⟨M, hM⟩ : ∃ M, M = l.M := ⟨_, rfl⟩
  rw [← hM] at c0 c36 ⊢
  clear hM
  have hd : decide (0 < n) = false := by simp; omega
  go_enter Tryd.func13, Tryd.ntmps13
  go_wp2_with (go_at_call 35; refine (made_at _ _ c0).mono ?_; rintro e w' ⟨rfl, rfl⟩)
  refine wp_loop_rounds 1 ?_
  rw [rounds_succ]
  go_wp2_with fail
  go_ret
  exact ⟨rfl, rfl⟩
theorem run_at {base : Nat} {w : World} {l : Lay} {m : MS} (h : MRep base w l m) (hE : Env w) (hb : 1 ≤ base) (n : Int) (hlim : m.steps + n ≤ 1000000) (hlo : (m.out.length : Int) + n ≤ 1000000) :
    Calls Tryd.prog 13 #[.pointer (some ⟨l.M, 0, none⟩), .int .i64 n] w fun e w' => e = .returned (.int .i64 (MS.run n.toNat m).state) ∧ ∃ l', Stp base w w' l l' (MS.run n.toNat m) := by
  by_cases hn : n ≤ 0
  · refine (run_neg h n hn).mono fun e w' ⟨he, hw⟩ => ?_
    subst hw
    rw [show n.toNat = 0 by omega]
    exact ⟨he, l, Stp.refl h⟩
  · have := run_nat h hE hb n.toNat (by omega) (by omega)
    rw [Int.toNat_of_nonneg (by omega)] at this
    exact this
set_option maxRecDepth 100000 in
set_option maxHeartbeats 1000000 in
theorem stepM_at {base : Nat} {w : World} {l : Lay} {m : MS} (h : MRep base w l m) (hE : Env w) (hb : 1 ≤ base) (hlim : m.steps < 1000000) (hlo : m.out.length < 1000000) :
    Calls Tryd.prog 10 #[.pointer (some ⟨l.M, 0, none⟩)] w fun e w' => e = .returned (.int .i64 (MS.run 1 m).state) ∧ ∃ l', Stp base w w' l l' (MS.run 1 m) := by
  have hr := run_nat h hE hb 1 (by omega) (by omega)
  have HR := Lib.hid hr
  clear hr h hE
  go_enter Tryd.func10, Tryd.ntmps10
  go_wp2_with fail
  refine HR.out.mono ?_
  rintro e w2 ⟨rfl, l2, s2⟩
  have H2 := Lib.hid s2
  clear s2
  go_wp2_with fail
  go_ret
  exact ⟨rfl, l2, H2.out⟩
end Go.Proofs.YtknnmacmohpanaaDoor
