/- The walk of MachSteps. Conditions: the setting reads as told; the forms' table is as laid. -/
import Derived.Test.YtknnmacmohpanaaDoorMaQe
namespace Go.Proofs.YtknnmacmohpanaaDoor
open Go.RowKit
set_option linter.unusedVariables false
set_option linter.unusedSimpArgs false

/-- A machine and the document's, not yet alike. -/
structure Duo (W : World) (l : Lay) (m : MS) (q : QL) (mq : MS) (w : World) : Prop where
  below : Below W.heap.size W w
  rep : MRep W.heap.size w l m
  qrep : QRep W.heap.size w q mq
  ap : ∀ k, l.fp k → ¬ q.fp k
theorem Mad.duo {W w : World} {l : Lay} {q : QL} {m : MS} (h : Mad W l q m w) : Duo W l m q m w := ⟨h.below, h.rep, h.qrep, h.ap⟩
theorem Duo.mad {W w : World} {l : Lay} {q : QL} {m : MS} (h : Duo W l m q m w) : Mad W l q m w := ⟨h.below, h.rep, h.qrep, h.ap⟩
theorem Duo.stp {W w w2 : World} {l l' : Lay} {m m' : MS} {q : QL} {mq : MS} (h : Duo W l m q mq w) (s : Stp W.heap.size w w2 l l' m') : Duo W l' m' q mq w2 :=
  ⟨h.below.trans (s.chg.below h.below.size (fun i hi => h.rep.lb i hi)), s.rep, h.qrep.chg s.chg (fun k hk hk2 => h.ap k hk2 hk), fun k hk hk2 => (s.new k hk).elim (fun h1 => h.ap k h1 hk2) (fun h1 => absurd (h.qrep.lt hk2) (Nat.not_lt.2 h1))⟩
theorem Duo.qstp {W w w2 : World} {l : Lay} {m : MS} {q q' : QL} {mq mq' : MS} (h : Duo W l m q mq w) (s : QStp W.heap.size w w2 q q' mq') : Duo W l m q' mq' w2 :=
  ⟨h.below.trans (s.chg.below h.below.size (fun i hi => h.qrep.lb i hi)), h.rep.chg s.chg (fun k hk hk2 => h.ap k hk hk2), s.rep, fun k hk hk2 => (s.new k hk2).elim (fun h1 => h.ap k hk h1) (fun h1 => absurd (h.rep.lt hk) (Nat.not_lt.2 h1))⟩
theorem Duo.step {W w : World} {l : Lay} {m : MS} {q : QL} {mq m1 : MS} {M : Nat} {st : Int} (h : Duo W l m q mq w) (hE : Env W) (hM : l.M = M) (hm : MS.run 1 m = m1) (hst : m1.state = st) (h1 : m.steps < 1000000) (h2 : m.out.length < 1000000) :
    Calls Tryd.prog 10 #[.pointer (some ⟨M, 0, none⟩)] w fun e w' => e = .returned (.int .i64 st) ∧ ∃ l', l'.M = M ∧ Duo W l' m1 q mq w' := by
  subst hM hst hm
  exact (stepM_at h.rep (hE.below h.below) hE.size h1 h2).mono fun _ _ ⟨he, l', s⟩ => ⟨he, l', s.M, h.stp s⟩
theorem Duo.qstep {W w : World} {l : Lay} {m : MS} {q : QL} {mq m1 : MS} {Q : Nat} {st : Int} (h : Duo W l m q mq w) (hQ : q.Q = Q) (hm : MS.run 1 mq = m1) (hst : m1.state = st) (h1 : mq.steps < 1000000) (h2 : mq.out.length ≤ 1000000) :
    Calls Tryd.prog 11 #[.pointer (some ⟨Q, 0, none⟩)] w fun e w' => e = .returned (.int .i64 st) ∧ ∃ q', q'.Q = Q ∧ Duo W l m q' m1 w' := by
  subst hst hm
  exact (rstep_at h.qrep hQ h1 h2).mono fun _ _ ⟨he, q', s⟩ => ⟨he, q', s.Q.trans hQ, h.qstp s⟩

set_option maxRecDepth 100000 in
set_option maxHeartbeats 4000000 in
theorem steps_any (pw pi pr : Option Addr) (cw ci cr : Nat) (size n0 : Int) (ws is rs : List Int) (w : World) (hE : Env w) (hw : Arg .u32 w pw cw ws) (hi : Arg .u8 w pi ci is) (hr : Arg .u32 w pr cr rs) (hwr : ∀ x ∈ ws, 0 ≤ x ∧ x < 4294967296) (hir : ∀ x ∈ is, 0 ≤ x ∧ x < 256) (hrr : ∀ x ∈ rs, 0 ≤ x ∧ x < 4294967296) (hn : 0 ≤ n0 ∧ n0 < 256) :
    Calls Tryd.prog 3 #[.agg #[.slice pw ws.length cw, .int .i64 size, .slice pi is.length ci, .slice pr rs.length cr], .int .u8 n0] w fun e w' => e = .returned (.bool true) ∧ Below w.heap.size w w' := by
  have hA := Lib.hid (fun w' (hb : Below w.heap.size w w') => setting_at pw pi pr cw ci cr size ws is rs w' (hE.below hb) (hw.below hb) (hi.below hb) (hr.below hb) hwr hir hrr)
  have HE := Lib.hid hE
  obtain ⟨k, rfl⟩ : ∃ k : Nat, n0 = k := ⟨n0.toNat, by omega⟩
  obtain ⟨N, hN⟩ : ∃ N : Nat, (k : Int) % 61 = N := ⟨k % 61, by omega⟩
  have hN1 : N ≤ 60 := by omega
  have hk1 : (k : Int) < 256 := hn.2
  clear hw hi hr hwr hir hrr hE hn
  go_enter Tryd.func3, Tryd.ntmps3
  go_wp2_with fail
  have hb0 : Below w.heap.size w (w.alloc (.cells #[.slice pw ws.length cw, .int .i64 size, .slice pi is.length ci, .slice pr rs.length cr] 25)) := (Below.refl _ _).alloc (Nat.le_refl _) _
  refine (hA.out _ hb0).mono ?_
  rintro e w1 (⟨-, rfl, hb⟩ | ⟨-, l, q, rfl, hM⟩)
  · have hb2 := hb0.trans (hb.mono hb0.size)
    have HB := Lib.hid hb2
    clear hb hb2 hb0
    go_wp2_with fail
    refine (works_any _ (HE.out.below HB.out)).mono ?_
    rintro e wz ⟨rfl, hb⟩
    have HZ := Lib.hid (HB.out.trans (hb.mono HB.out.size))
    clear hb
    go_wp2_with fail
    go_ret
    exact ⟨rfl, HZ.out⟩
  · have S := Lib.hid (hM.base hb0)
    clear hM hb0
    obtain ⟨m, hm⟩ : ∃ m, m = stM ws size is rs := ⟨_, rfl⟩
    have hz := stM_zero ws size is rs
    rw [← hm] at S hz
    clear hm
    have HZ := Lib.hid hz
    clear hz
    obtain ⟨A, hAe⟩ : ∃ A, A = l.M := ⟨_, rfl⟩
    obtain ⟨B, hBe⟩ : ∃ B, B = q.Q := ⟨_, rfl⟩
    have HH := Lib.hid (And.intro hAe.symm hBe.symm)
    rw [← hAe, ← hBe]
    clear hAe hBe hA
    go_wp2_with fail
    go_loopw [9] (fun i wr => ∃ (j : Nat) (la : Lay) (qa : QL), i = .int .i64 j ∧ j ≤ N ∧ la.M = A ∧ qa.Q = B ∧ Mad w la qa (MS.run j m) wr) (fun i _ => N - (intOf i).toNat)
    case atStart => exact ⟨0, l, q, rfl, Nat.zero_le _, HH.out.1, HH.out.2, S.out⟩
    case round =>
      obtain ⟨j, la, qa, rfl, hj, ha, hb, s⟩ := hrel
      have hbj := run_bounds j m
      rw [HZ.out.1, HZ.out.2.1] at hbj
      have hr1 := run_add j 1 m
      obtain ⟨mj, hmj⟩ : ∃ mj, mj = MS.run j m := ⟨_, rfl⟩
      rw [← hmj] at hbj s hr1
      have T := Lib.hid (And.intro s (And.intro hbj hr1))
      have HAB := Lib.hid (And.intro ha hb)
      clear s hbj ha hb hmj hr1
      by_cases hlt : j < N
      · have d1 : decide ((j : Int) < (N : Int)) = true := by simp; omega
        obtain ⟨m1, hm1⟩ : ∃ m1, m1 = MS.run 1 mj := ⟨_, rfl⟩
        obtain ⟨st, hst⟩ : ∃ st, m1.state = st := ⟨_, rfl⟩
        have hl1 : mj.steps < 1000000 := by have := T.out.2.1.1; omega
        have hl2 : mj.out.length < 1000000 := by have := T.out.2.1.2; simp at this; omega
        have hb1 := run_bounds 1 mj
        rw [← hm1] at hb1
        have hl3 : m1.out.length ≤ 1000000 := by have := T.out.2.1.2; simp at this; omega
        have HR := Lib.hid (And.intro hm1.symm (And.intro hst (And.intro hl1 (And.intro hl2 hl3))))
        clear hm1 hst hl1 hl2 hl3 hb1
        go_wp2_with fail
        refine (T.out.1.duo.step HE.out HAB.out.1 HR.out.1 HR.out.2.1 HR.out.2.2.1 HR.out.2.2.2.1).mono ?_
        rintro e w2 ⟨rfl, l2, ha2, s2⟩
        have S2 := Lib.hid (And.intro s2 ha2)
        clear s2 ha2
        go_wp2_with fail
        refine (S2.out.1.qstep HAB.out.2 HR.out.1 HR.out.2.1 HR.out.2.2.1 (Nat.le_of_lt HR.out.2.2.2.1)).mono ?_
        rintro e w3 ⟨rfl, q2, hb2, s3⟩
        have S3 := Lib.hid (And.intro s3.mad hb2)
        clear s3 hb2
        go_wp2_with fail
        refine (alike_at S3.out.1 HE.out S2.out.2 S3.out.2 HR.out.2.2.2.2).mono ?_
        rintro e w4 ⟨rfl, s4⟩
        have S4 := Lib.hid s4
        clear s4
        go_wp2_with fail
        go_roundw
        case rel =>
          refine ⟨j + 1, l2, q2, by go_num, hlt, S2.out.2, S3.out.2, ?_⟩
          rw [T.out.2.2, HR.out.1]
          exact S4.out
        case measure => simp [intOf]; omega
      · have he : j = N := by omega
        subst he
        have d1 : decide ((j : Int) < (j : Int)) = false := by simp
        have hl2 : mj.out.length ≤ 1000000 := by have := T.out.2.1.2; simp at this; omega
        have HL := Lib.hid hl2
        clear hl2
        go_wp2_with fail
        refine (alike_at T.out.1 HE.out HAB.out.1 HAB.out.2 HL.out).mono ?_
        rintro e wa ⟨rfl, s4⟩
        have S4 := Lib.hid s4
        clear s4
        go_wp2_with fail
        refine (works_any _ (HE.out.below S4.out.below)).mono ?_
        rintro e wz ⟨rfl, hb⟩
        have HZ2 := Lib.hid (S4.out.below.trans (hb.mono S4.out.below.size))
        clear hb
        go_wp2_with fail
        go_ret
        exact ⟨rfl, HZ2.out⟩
end Go.Proofs.YtknnmacmohpanaaDoor
