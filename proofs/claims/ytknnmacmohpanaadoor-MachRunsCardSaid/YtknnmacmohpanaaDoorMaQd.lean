/- Contracts: a step of the document's machine, and many. Conditions: it lies as told. -/
import Derived.Test.YtknnmacmohpanaaDoorMaQb
import Derived.Test.YtknnmacmohpanaaDoorMaQc
import Derived.Test.YtknnmacmohpanaaDoorIsaRh
namespace Go.Proofs.YtknnmacmohpanaaDoor
open Go.RowKit
set_option linter.unusedVariables false
set_option linter.unusedSimpArgs false

theorem rdo_at {base : Nat} {w : World} {l : QL} {m : MS} {Q : Nat} (h : QRep base w l m) (hQ : l.Q = Q) (op : Int) (D A B : Nat) (imm : Int) (hk : OkF op D A B imm) (ho : m.out.length ≤ 1000000) :
    Calls Tryd.prog 34 #[.pointer (some ⟨Q, 0, none⟩), .agg #[.int .i64 op, .int .i64 D, .int .i64 A, .int .i64 B, .int .i64 imm]] w fun e w' => e = .returned (.tuple #[]) ∧ ∃ l', QStp base w w' l l' (m.ex op D (m.regs A) (m.regs B) (imm % 4294967296)) := by
  have h0 := hk.o0
  have h1 := hk.o1
  rcases (show op ≤ 14 ∨ (15 ≤ op ∧ op ≤ 22) ∨ op = 23 ∨ (op = 24 ∨ op = 25) ∨ (26 ≤ op ∧ op ≤ 31) ∨ (op = 32 ∨ op = 33) ∨ op = 34 ∨ op = 35 ∨ op = 36 by omega) with c | c | c | c | c | c | c | c | c
  · exact rdo_reg h hQ op D A B imm hk ho c
  · exact rdo_num h hQ op D A B imm hk ho c.1 c.2
  · exact rdo_lui h hQ op D A B imm hk ho c
  · exact rdo_mem h hQ op D A B imm hk ho c
  · exact rdo_br h hQ op D A B imm hk ho c.1 c.2
  · exact rdo_jmp h hQ op D A B imm hk ho c
  · exact rdo_in h hQ op D A B imm hk ho c
  · exact rdo_out h hQ op D A B imm hk ho c
  · exact rdo_halt h hQ op D A B imm hk ho c

/-- What Decode of the document answers. -/
theorem rdec_ok {v : Int} (hk : Isa.dOk v = true) (v0 : 0 ≤ v) (v1 : v < 4294967296) : ∃ (op : Int) (D A B : Nat) (imm : Int), OkF op D A B imm ∧
    (∀ w, Calls Tryd.prog 33 #[.int .u32 v] w fun e w' => e = .returned (.tuple #[.agg #[.int .i64 op, .int .i64 D, .int .i64 A, .int .i64 B, .int .i64 imm], .int .i64 0]) ∧ Below w.heap.size w w') ∧
    op = Isa.dOp v ∧ D = (Isa.fD v).toNat ∧ A = (Isa.fA v).toNat ∧ B = (Isa.fB v).toNat ∧ imm = Isa.fImm v := by
  obtain ⟨-, ⟨d0, -⟩, ⟨a0, -⟩, b0, -⟩ := dok_range hk
  have hk' : Isa.ok (v / 67108864) (Isa.fD v) (Isa.fA v) (Isa.fB v) (Isa.fImm v) = true := hk
  refine ⟨Isa.dOp v, (Isa.fD v).toNat, (Isa.fA v).toNat, (Isa.fB v).toNat, Isa.fImm v, ok_facts ?_, fun w => ?_, rfl, rfl, rfl, rfl, rfl⟩
  · rw [Int.toNat_of_nonneg d0, Int.toNat_of_nonneg a0, Int.toNat_of_nonneg b0]; exact hk
  · refine (rdec_any v w v0 v1).mono ?_
    rintro e w' ⟨hd, hb⟩
    unfold Dec at hd
    rw [if_pos hk'] at hd
    rw [Int.toNat_of_nonneg d0, Int.toNat_of_nonneg a0, Int.toNat_of_nonneg b0]
    exact ⟨hd, hb⟩
theorem rdec_bad {v : Int} (hk : Isa.dOk v = false) (v0 : 0 ≤ v) (v1 : v < 4294967296) (w : World) : Calls Tryd.prog 33 #[.int .u32 v] w fun e w' => e = .returned (.tuple #[.agg #[.int .i64 0, .int .i64 0, .int .i64 0, .int .i64 0, .int .i64 0], .int .i64 11]) ∧ Below w.heap.size w w' := by
  have hk' : ¬ Isa.ok (v / 67108864) (Isa.fD v) (Isa.fA v) (Isa.fB v) (Isa.fImm v) = true := by
    have : Isa.ok (v / 67108864) (Isa.fD v) (Isa.fA v) (Isa.fB v) (Isa.fImm v) = false := hk
    rw [this]; decide
  refine (rdec_any v w v0 v1).mono ?_
  rintro e w' ⟨hd, hb⟩
  unfold Dec at hd
  rw [if_neg hk'] at hd
  exact ⟨hd, hb⟩
theorem fresh5 {w w4 : World} (hb : Below (w.alloc (.cells #[.int .i64 0, .int .i64 0, .int .i64 0, .int .i64 0, .int .i64 0] 55)).drew.heap.size (w.alloc (.cells #[.int .i64 0, .int .i64 0, .int .i64 0, .int .i64 0, .int .i64 0] 55)).drew w4) :
    Below w.heap.size w w4 ∧ w4.heap[w.heap.size]? = some (.cells #[.int .i64 0, .int .i64 0, .int .i64 0, .int .i64 0, .int .i64 0] 55 (0, 0)) := by
  have h1 : Below w.heap.size w (w.alloc (.cells #[.int .i64 0, .int .i64 0, .int .i64 0, .int .i64 0, .int .i64 0] 55)).drew := ((Below.refl _ _).alloc (Nat.le_refl _) _).drew
  have h2 : w.heap.size < (w.alloc (.cells #[.int .i64 0, .int .i64 0, .int .i64 0, .int .i64 0, .int .i64 0] 55)).drew.heap.size := by show w.heap.size < (w.alloc _).heap.size; simp
  exact ⟨h1.trans (hb.mono (Nat.le_of_lt h2)), (hb.block _ h2).trans (heap_new w _)⟩
theorem run_one {m : MS} (h : m.state = 0) : MS.run 1 m = m.step := by
  show (if m.state = 0 then m.step else m) = _
  rw [if_pos h]
theorem run_one_not {m : MS} (h : ¬ m.state = 0) : MS.run 1 m = m := by
  show (if m.state = 0 then m.step else m) = _
  rw [if_neg h]

set_option maxRecDepth 100000 in
set_option maxHeartbeats 4000000 in
theorem rstep_at {base : Nat} {w : World} {l : QL} {m : MS} {Q : Nat} (h : QRep base w l m) (hQ : l.Q = Q) (hlim : m.steps < 1000000) (ho : m.out.length ≤ 1000000) :
    Calls Tryd.prog 11 #[.pointer (some ⟨Q, 0, none⟩)] w fun e w' => e = .returned (.int .i64 (MS.run 1 m).state) ∧ ∃ l', QStp base w w' l l' (MS.run 1 m) := by
  subst hQ
  by_cases hs : m.state = 0
  · rw [run_one hs]
    have c36 := h.c36
    rw [hs] at c36
    have c33 := h.c33
    have c32 := h.c32
    have hsz := h.ok.size
    obtain ⟨p, hp⟩ : ∃ n : Nat, m.place = n := ⟨m.place.toNat, by have := h.ok.place; omega⟩
    have hp1 : p < 4294967296 := by have := h.ok.place; omega
    rw [hp] at c33
    have HH := Lib.hid (And.intro h (And.intro hp (And.intro hs (And.intro hlim ho))))
    clear h hp hs hlim ho
    go_enter Tryd.func11, Tryd.ntmps11
    by_cases hfar : m.size ≤ p
    · have hdec : decide ((m.size : Int) ≤ (p : Int)) = true := by simp; omega
      have HR : Hid (m.step = m.stop 3) := step_far (by rw [HH.out.2.1]; omega)
      go_upto_region 3 with fail
      go_quiet (fail)
      obtain ⟨w1, hw1⟩ : ∃ w1, w1 = w.drewN nq := ⟨_, rfl⟩
      have s1 : QStp base w w1 l l m := by rw [hw1]; exact (QStp.refl HH.out.1).grow (below_drewN (Below.refl _ _) nq)
      rw [← hw1]
      have HF := Lib.hid (rfall_at s1.rep rfl 3 (by decide))
      have S1 := Lib.hid s1
      clear hw1 s1 c36 c33 c32
      go_wp2_with fail
      refine HF.out.mono ?_
      rintro e w5 ⟨rfl, s5⟩
      have S5 := Lib.hid s5
      clear s5
      go_wp2_with fail
      go_ret
      exact ⟨by rw [HR.out]; rfl, l, by rw [HR.out]; exact S1.out.trans S5.out⟩
    · have hlt : p < m.size := by omega
      have hlt2 : (p : Int) < (m.size : Int) := by omega
      have hdec : decide ((m.size : Int) ≤ (p : Int)) = false := by simp; omega
      go_upto_region 3 with fail
      go_quiet (fail)
      obtain ⟨w1, hw1⟩ : ∃ w1, w1 = w.drewN nq := ⟨_, rfl⟩
      have s1 : QStp base w w1 l l m := by rw [hw1]; exact (QStp.refl HH.out.1).grow (below_drewN (Below.refl _ _) nq)
      rw [← hw1]
      clear hw1 c36 c33 c32
      have c33 := s1.rep.c33
      rw [HH.out.2.1] at c33
      have c32 := s1.rep.c32
      have cT := s1.rep.cm p hlt
      have hv := s1.rep.ok.mem p
      obtain ⟨v, hve⟩ : ∃ v, v = m.mem p := ⟨_, rfl⟩
      rw [← hve] at cT hv
      have HV := Lib.hid hve
      have S1 := Lib.hid s1
      have hBl := lt_of_block s1.rep.mem
      have hQl := lt_of_block s1.rep.mac
      have cT' : ∀ O, (w1.alloc O).cell? ⟨l.B, p, none⟩ = some (.int .u32 v) := fun O => (World.cell?_alloc_lt _ _ _ hBl).trans cT
      have c32' : ∀ O, (w1.alloc O).cell? ⟨l.Q, 32, none⟩ = some (.slice (some ⟨l.B, 0, none⟩) m.size m.size) := fun O => (World.cell?_alloc_lt _ _ _ hQl).trans c32
      have c33' : ∀ O, (w1.alloc O).cell? ⟨l.Q, 33, none⟩ = some (.int .u32 p) := fun O => (World.cell?_alloc_lt _ _ _ hQl).trans c33
      clear s1 hve hfar hBl hQl
      cases hk : Isa.dOk v
      · have HR : Hid (m.step = m.stop 1) := step_bad HH.out.2.1 hlt (by rw [← HV.out]; exact hk)
        have HD := Lib.hid (rdec_bad hk hv.1 hv.2)
        clear hk hv
        go_upto_region 6 with fail
        go_cut [3, 4] (fun x e wx => ∃ X, x = .pointer (some ⟨X, 0, none⟩) ∧ e = .int .i64 11 ∧ QStp base w wx l l m)
        case first =>
          go_region_with (go_at_call 33; refine (HD.out _).mono ?_; rintro e w4 ⟨rfl, hb4⟩; first | (have hq5 := fresh5 hb4; obtain ⟨hb5, hz5⟩ := hq5; have z0 := cell_of_block hz5 0; have z1 := cell_of_block hz5 1; have z2 := cell_of_block hz5 2; have z3 := cell_of_block hz5 3; have z4 := cell_of_block hz5 4; have zf := freeF hz5) | skip)
          all_goals
            go_wp2_with fail
            go_meet
            case rel =>
              first
                | exact ⟨_, rfl, rfl, S1.out.grow (store5 hb5 hz5 (Nat.le_refl _)).1⟩
                | exact ⟨_, rfl, rfl, ((S1.out.grow (Below.refl _ _).drew).grow hb4).grow ((Below.refl _ _).alloc (Nat.le_refl _) _)⟩
        case rest =>
          obtain ⟨X, rfl, rfl, s4⟩ := hcut
          have S4 := Lib.hid s4
          have HF := Lib.hid (rfall_at S4.out.rep rfl 1 (by decide))
          clear s4
          go_wp2_with fail
          refine HF.out.mono ?_
          rintro e w5 ⟨rfl, s5⟩
          have S5 := Lib.hid s5
          clear s5
          go_wp2_with fail
          go_ret
          exact ⟨by rw [HR.out]; rfl, l, by rw [HR.out]; exact S4.out.trans S5.out⟩
      · obtain ⟨op, D, A, B, imm, hok, hdc, e1, e2, e3, e4, e5⟩ := rdec_ok hk hv.1 hv.2
        have HR : Hid (m.step = m.exec op D (m.regs A) (m.regs B) (imm % 4294967296)) := by
          unfold Hid
          rw [step_ok HH.out.2.1 hlt (by rw [← HV.out]; exact hk), ← HV.out, e1, e2, e3, e4, e5]
        have HD := Lib.hid (And.intro hdc hok)
        clear hk hv hdc hok e1 e2 e3 e4 e5
        go_upto_region 6 with fail
        go_cut [3, 4] (fun x e wx => ∃ X, x = .pointer (some ⟨X, 0, none⟩) ∧ e = .int .i64 0 ∧ QStp base w wx l l m ∧ X5 wx X op D A B imm)
        case first =>
          go_region_with (go_at_call 33; refine (HD.out.1 _).mono ?_; rintro e w4 ⟨rfl, hb4⟩; first | (have hq5 := fresh5 hb4; obtain ⟨hb5, hz5⟩ := hq5; have z0 := cell_of_block hz5 0; have z1 := cell_of_block hz5 1; have z2 := cell_of_block hz5 2; have z3 := cell_of_block hz5 3; have z4 := cell_of_block hz5 4; have zf := freeF hz5) | skip)
          all_goals
            go_wp2_with fail
            go_meet
            case rel =>
              first
                | exact ⟨_, rfl, rfl, S1.out.grow (store5 hb5 hz5 (Nat.le_refl _)).1, X5.of (store5 hb5 hz5 (Nat.le_refl _)).2⟩
                | exact ⟨_, rfl, rfl, ((S1.out.grow (Below.refl _ _).drew).grow hb4).grow ((Below.refl _ _).alloc (Nat.le_refl _) _), X5.of (heap_new _ _)⟩
        case rest =>
          obtain ⟨X, rfl, rfl, s4, ⟨x0, x1, x2, x3, x4⟩⟩ := hcut
          have S4 := Lib.hid s4
          have HF := Lib.hid (rdo_at S4.out.rep rfl op D A B imm HD.out.2 HH.out.2.2.2.2)
          have HE := Lib.hid (exec_ex m op D (m.regs A) (m.regs B) (imm % 4294967296) HH.out.2.2.1)
          clear s4
          go_wp2_with fail
          refine HF.out.mono ?_
          rintro e w5 ⟨rfl, l5, s5⟩
          obtain ⟨m5, hm5⟩ : ∃ m5, m5 = m.ex op D (m.regs A) (m.regs B) (imm % 4294967296) := ⟨_, rfl⟩
          have hst : m5.steps = m.steps := by rw [hm5]; rfl
          rw [← hm5] at s5
          have HE2 : Hid (m.step = if m5.state = 2 then m5 else { m5 with steps := m.steps + 1 }) := by unfold Hid; rw [HR.out, hm5]; exact HE.out
          have c36 := s5.rep.c36
          have c39 := s5.rep.c39
          have f39 := s5.rep.fQ 39
          rw [hst] at c39
          rw [s5.Q] at c36 c39 f39
          have hst0 : 0 ≤ m.steps ∧ m.steps < 1000000 := ⟨HH.out.1.ok.steps, HH.out.2.2.2.1⟩
          obtain ⟨hst1, hst2⟩ := hst0
          have S5 := Lib.hid (And.intro s5 hst)
          clear s5 hm5 hst HE
          by_cases h2 : m5.state = 2
          · have HQ : Hid (m.step = m5) := by unfold Hid; rw [HE2.out, if_pos h2]
            have H2 := Lib.hid h2
            rw [h2] at c36
            clear h2 HE2
            go_wp2_with fail
            go_ret
            exact ⟨by rw [HQ.out, H2.out]; rfl, l5, by rw [HQ.out]; exact S4.out.trans S5.out.1⟩
          · have HQ : Hid (m.step = { m5 with steps := m.steps + 1 }) := by unfold Hid; rw [HE2.out, if_neg h2]
            have e2 : (m5.state == 2) = false := beq_eq_false_iff_ne.2 h2
            have s6 := S5.out.1.rep.cell1 39 (.int .i64 (m.steps + 1)) (by decide) (qupd_steps l5 m5 (m.steps + 1)) ⟨S5.out.1.rep.ok.regs, S5.out.1.rep.ok.zero, S5.out.1.rep.ok.size, S5.out.1.rep.ok.mem, S5.out.1.rep.ok.place, S5.out.1.rep.ok.state, S5.out.1.rep.ok.code, S5.out.1.rep.ok.trap, (show 0 ≤ m.steps + 1 by omega), S5.out.1.rep.ok.inp, S5.out.1.rep.ok.ilen, S5.out.1.rep.ok.out⟩ rfl rfl rfl rfl
            have d36 := s6.rep.c36
            rw [S5.out.1.Q] at s6 d36
            have S6 := Lib.hid s6
            have H2 := Lib.hid h2
            clear s6 h2 HE2
            go_wp2_with fail
            go_ret
            exact ⟨by rw [HQ.out]; rfl, l5, by rw [HQ.out]; exact S4.out.trans (S5.out.1.trans S6.out)⟩
  · rw [run_one_not hs]
    have c36 := h.c36
    have e0 : (m.state == 0) = false := beq_eq_false_iff_ne.2 hs
    have H := Lib.hid h
    clear h hlim ho
    go_enter Tryd.func11, Tryd.ntmps11
    go_wp2_with fail
    go_ret
    exact ⟨rfl, l, QStp.refl H.out⟩
end Go.Proofs.YtknnmacmohpanaaDoor
