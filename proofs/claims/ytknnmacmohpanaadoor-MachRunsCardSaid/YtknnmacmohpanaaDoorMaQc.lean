/- Contracts: the other instructions on the document's machine. Conditions: the machine lies as told. -/
import Derived.Test.YtknnmacmohpanaaDoorMaQa
import Derived.StillTailTactics
namespace Go.Proofs.YtknnmacmohpanaaDoor
open Go.RowKit
set_option linter.unusedVariables false
set_option linter.unusedSimpArgs false
set_option maxRecDepth 100000 in
set_option maxHeartbeats 8000000 in
theorem rdo_lui {base : Nat} {w : World} {l : QL} {m : MS} {Q : Nat} (h : QRep base w l m) (hQ : l.Q = Q) (op : Int) (D A B : Nat) (imm : Int) (hk : OkF op D A B imm) (ho : m.out.length ≤ 1000000) (c23 : op = 23) :
    Calls Tryd.prog 34 #[.pointer (some ⟨Q, 0, none⟩), .agg #[.int .i64 op, .int .i64 D, .int .i64 A, .int .i64 B, .int .i64 imm]] w fun e w' => e = .returned (.tuple #[]) ∧ ∃ l', QStp base w w' l l' (m.ex op D (m.regs A) (m.regs B) (imm % 4294967296)) := by
  have CC := Lib.hid c23
  clear c23
  subst hQ
  obtain ⟨o0, o1, hD, hA, hB, i0, i1, hreg, hnum⟩ := hk
  have HK := Lib.hid (And.intro hreg (And.intro hnum ho))
  have HH := Lib.hid h
  clear hreg hnum ho h
  go_enter Tryd.func34, Tryd.ntmps34
  go_upto_region 1 with fail
  obtain ⟨w0, hw0⟩ : ∃ w0, w0 = w.alloc (.cells #[.int .i64 op, .int .i64 D, .int .i64 A, .int .i64 B, .int .i64 imm] 55) := ⟨_, rfl⟩
  have hX := heap_new w (.cells #[.int .i64 op, .int .i64 D, .int .i64 A, .int .i64 B, .int .i64 imm] 55)
  have hb0 : Below w.heap.size w w0 := by rw [hw0]; exact (Below.refl _ _).alloc (Nat.le_refl _) _
  rw [← hw0] at hX ⊢
  clear hw0
  obtain ⟨X, hXe⟩ : ∃ X, X = w.heap.size := ⟨_, rfl⟩
  rw [← hXe] at hX ⊢
  have s0 : QStp base w w0 l l m := (QStp.refl HH.out).grow hb0
  have hnf : ¬ l.fp X := fun hf => by have := HH.out.lt hf; omega
  obtain ⟨ra, hra⟩ : ∃ n : Nat, m.regs A = n := ⟨(m.regs A).toNat, by have := HH.out.ok.regs A; omega⟩
  obtain ⟨rb, hrb⟩ : ∃ n : Nat, m.regs B = n := ⟨(m.regs B).toNat, by have := HH.out.ok.regs B; omega⟩
  have ra1 : ra < 4294967296 := by have := HH.out.ok.regs A; omega
  have rb1 : rb < 4294967296 := by have := HH.out.ok.regs B; omega
  obtain ⟨x0, x1, x2, x3, x4⟩ := X5.of hX
  have HX := Lib.hid (And.intro hnf (And.intro hra hrb))
  have cA := s0.rep.cr A hA
  have cB := s0.rep.cr B hB
  rw [hra] at cA
  rw [hrb] at cB
  have c33 := s0.rep.c33
  obtain ⟨pl, hpl⟩ : ∃ n : Nat, m.place = n := ⟨m.place.toNat, by have := HH.out.ok.place; omega⟩
  have pl1 : pl < 4294967296 := by have := HH.out.ok.place; omega
  rw [hpl] at c33
  have S0 := Lib.hid s0
  have HP := Lib.hid hpl
  clear s0 hX hb0 hXe hnf hra hrb hpl HH
  have hA2 : (A : Int) < 32 := by omega
  have hB2 : (B : Int) < 32 := by omega
  go_quiet (fail)
  obtain ⟨w1, hw1⟩ : ∃ w1, w1 = w0.drewN nq := ⟨_, rfl⟩
  have S1 : QStp base w w1 l l m := by rw [hw1]; exact S0.out.grow (below_drewN (Below.refl _ _) nq)
  replace S1 := Lib.hid S1
  replace x0 : w1.cell? ⟨X, 0, none⟩ = some (.int .i64 op) := by rw [hw1]; exact x0
  replace x1 : w1.cell? ⟨X, 1, none⟩ = some (.int .i64 D) := by rw [hw1]; exact x1
  replace x3 : w1.cell? ⟨X, 3, none⟩ = some (.int .i64 B) := by rw [hw1]; exact x3
  replace x4 : w1.cell? ⟨X, 4, none⟩ = some (.int .i64 imm) := by rw [hw1]; exact x4
  replace cB : w1.cell? ⟨l.Q, B, none⟩ = some (.int .u32 rb) := by rw [hw1]; exact cB
  replace c33 : w1.cell? ⟨l.Q, 33, none⟩ = some (.int .u32 pl) := by rw [hw1]; exact c33
  rw [← hw1]
  clear hw1 x2 cA S0
  go_upto_region 2 with fail
  go_quiet (fail)
  obtain ⟨w2, hw2⟩ : ∃ w2, w2 = w1.drewN nq := ⟨_, rfl⟩
  have S2 : QStp base w w2 l l m := by rw [hw2]; exact S1.out.grow (below_drewN (Below.refl _ _) nq)
  replace S2 := Lib.hid S2
  replace x0 : w2.cell? ⟨X, 0, none⟩ = some (.int .i64 op) := by rw [hw2]; exact x0
  replace x1 : w2.cell? ⟨X, 1, none⟩ = some (.int .i64 D) := by rw [hw2]; exact x1
  replace x4 : w2.cell? ⟨X, 4, none⟩ = some (.int .i64 imm) := by rw [hw2]; exact x4
  replace c33 : w2.cell? ⟨l.Q, 33, none⟩ = some (.int .u32 pl) := by rw [hw2]; exact c33
  rw [← hw2]
  clear hw2 x3 cB S1
  go_upto_region 7 with (go_at_call 58; refine (rword _ _ (by omega) (by omega)).mono ?_; rintro e w' ⟨rfl, rfl⟩)
  obtain ⟨i, hi⟩ : ∃ i, i = imm % 4294967296 := ⟨_, rfl⟩
  obtain ⟨nx, hnx⟩ : ∃ nx, nx = ((pl : Int) + 1) % 4294967296 := ⟨_, rfl⟩
  obtain ⟨T, hT⟩ : ∃ T : Nat, ((ra : Int) + imm) % 4294967296 = T := ⟨(((ra : Int) + imm) % 4294967296).toNat, by omega⟩
  have hir : 0 ≤ i ∧ i < 4294967296 := by omega
  have hnr : 0 ≤ nx ∧ nx < 4294967296 := by omega
  have hTr : T < 4294967296 := by omega
  have HE : Hid (m.ex op D (m.regs A) (m.regs B) (imm % 4294967296) = m.ex op D ra rb i) := by unfold Hid; rw [HX.out.2.1, HX.out.2.2, hi]
  have HPL : Hid ((m.place + 1) % 4294967296 = nx) := by unfold Hid; rw [HP.out, hnx]
  have HT : Hid (((ra : Int) + i) % 4294967296 = T) := by unfold Hid; rw [← hT, hi]; omega
  have HI := Lib.hid hi
  rw [← hi, ← hnx, hT]
  clear hi hnx hT HP hA2 hB2 hA hB
  obtain ⟨hi0, hi1⟩ := hir
  obtain ⟨hn0, hn1⟩ := hnr
  have c23 := CC.out
  clear CC
  have hb0 : op ≤ 23 → rb = 0 := fun h => by
    have e := HX.out.2.2
    rw [HK.out.2.1 (by omega) h] at e
    have := S2.out.rep.ok.zero
    omega
  have HB0 := Lib.hid hb0
  clear hb0
  have HR : Hid (m.ex op D ra rb i = m.go1 D (i * 65536 % 4294967296) nx) := by unfold Hid; rw [← HPL.out, HB0.out (by omega), c23]; exact ex_lui m D ra i ⟨hi0, hi1⟩
  have hw : ∀ w, Calls Tryd.prog 58 #[.int .i64 (IntKind.i64.wrap (IntKind.i64.wrap i * 65536))] w fun e w' => e = .returned (.int .u32 (i * 65536 % 4294967296)) ∧ w = w' := fun w => by
    rw [wrap_small (x := i) (by omega) (by omega), wrap_small (x := i * 65536) (by omega) (by omega)]
    exact rword (i * 65536) w (by omega) (by omega)
  obtain ⟨rr, hrre⟩ : ∃ rr, rr = i * 65536 % 4294967296 := ⟨_, rfl⟩
  have hrr : 0 ≤ rr ∧ rr < 4294967296 := by omega
  rw [← hrre] at HR
  simp only [← hrre] at hw
  have HC := Lib.hid (And.intro hw (rput_at (S2.out.rep.drew) rfl D hD rr hrr))
  clear hw hrr hrre
  subst c23
  go_upto_region 14 with fail
  go_region_with (first
    | (go_at_call 58; refine (HC.out.1 _).mono ?_; rintro e w' ⟨rfl, rfl⟩)
    | (go_at_call 59; refine HC.out.2.mono ?_; rintro e w5 ⟨rfl, s5⟩; have c5 := s5.rep.c33; have f5 := s5.rep.fQ 33))
  all_goals
    have S5 := Lib.hid s5
    clear s5
    go_wp2_with fail
    go_returns
    exact ⟨rfl, l, by rw [HE.out, HR.out]; exact q_end (S2.out.trans ((QStp.refl S2.out.rep).grow (Below.refl _ _).drew |>.trans S5.out)) rfl ⟨hn0, hn1⟩⟩

set_option maxRecDepth 100000 in
set_option maxHeartbeats 8000000 in
theorem rdo_mem {base : Nat} {w : World} {l : QL} {m : MS} {Q : Nat} (h : QRep base w l m) (hQ : l.Q = Q) (op : Int) (D A B : Nat) (imm : Int) (hk : OkF op D A B imm) (ho : m.out.length ≤ 1000000) (c24 : op = 24 ∨ op = 25) :
    Calls Tryd.prog 34 #[.pointer (some ⟨Q, 0, none⟩), .agg #[.int .i64 op, .int .i64 D, .int .i64 A, .int .i64 B, .int .i64 imm]] w fun e w' => e = .returned (.tuple #[]) ∧ ∃ l', QStp base w w' l l' (m.ex op D (m.regs A) (m.regs B) (imm % 4294967296)) := by
  subst hQ
  obtain ⟨o0, o1, hD, hA, hB, i0, i1, hreg, hnum⟩ := hk
  have HK := Lib.hid (And.intro hreg (And.intro hnum ho))
  have HH := Lib.hid h
  clear hreg hnum ho h
  go_enter Tryd.func34, Tryd.ntmps34
  go_upto_region 1 with fail
  obtain ⟨w0, hw0⟩ : ∃ w0, w0 = w.alloc (.cells #[.int .i64 op, .int .i64 D, .int .i64 A, .int .i64 B, .int .i64 imm] 55) := ⟨_, rfl⟩
  have hX := heap_new w (.cells #[.int .i64 op, .int .i64 D, .int .i64 A, .int .i64 B, .int .i64 imm] 55)
  have hb0 : Below w.heap.size w w0 := by rw [hw0]; exact (Below.refl _ _).alloc (Nat.le_refl _) _
  rw [← hw0] at hX ⊢
  clear hw0
  obtain ⟨X, hXe⟩ : ∃ X, X = w.heap.size := ⟨_, rfl⟩
  rw [← hXe] at hX ⊢
  have s0 : QStp base w w0 l l m := (QStp.refl HH.out).grow hb0
  have hnf : ¬ l.fp X := fun hf => by have := HH.out.lt hf; omega
  obtain ⟨ra, hra⟩ : ∃ n : Nat, m.regs A = n := ⟨(m.regs A).toNat, by have := HH.out.ok.regs A; omega⟩
  obtain ⟨rb, hrb⟩ : ∃ n : Nat, m.regs B = n := ⟨(m.regs B).toNat, by have := HH.out.ok.regs B; omega⟩
  have ra1 : ra < 4294967296 := by have := HH.out.ok.regs A; omega
  have rb1 : rb < 4294967296 := by have := HH.out.ok.regs B; omega
  obtain ⟨x0, x1, x2, x3, x4⟩ := X5.of hX
  have HX := Lib.hid (And.intro hnf (And.intro hra hrb))
  have cA := s0.rep.cr A hA
  have cB := s0.rep.cr B hB
  rw [hra] at cA
  rw [hrb] at cB
  have c33 := s0.rep.c33
  obtain ⟨pl, hpl⟩ : ∃ n : Nat, m.place = n := ⟨m.place.toNat, by have := HH.out.ok.place; omega⟩
  have pl1 : pl < 4294967296 := by have := HH.out.ok.place; omega
  rw [hpl] at c33
  have S0 := Lib.hid s0
  have HP := Lib.hid hpl
  clear s0 hX hb0 hXe hnf hra hrb hpl HH
  have hA2 : (A : Int) < 32 := by omega
  have hB2 : (B : Int) < 32 := by omega
  go_quiet (fail)
  obtain ⟨w1, hw1⟩ : ∃ w1, w1 = w0.drewN nq := ⟨_, rfl⟩
  have S1 : QStp base w w1 l l m := by rw [hw1]; exact S0.out.grow (below_drewN (Below.refl _ _) nq)
  replace S1 := Lib.hid S1
  replace x0 : w1.cell? ⟨X, 0, none⟩ = some (.int .i64 op) := by rw [hw1]; exact x0
  replace x1 : w1.cell? ⟨X, 1, none⟩ = some (.int .i64 D) := by rw [hw1]; exact x1
  replace x3 : w1.cell? ⟨X, 3, none⟩ = some (.int .i64 B) := by rw [hw1]; exact x3
  replace x4 : w1.cell? ⟨X, 4, none⟩ = some (.int .i64 imm) := by rw [hw1]; exact x4
  replace cB : w1.cell? ⟨l.Q, B, none⟩ = some (.int .u32 rb) := by rw [hw1]; exact cB
  replace c33 : w1.cell? ⟨l.Q, 33, none⟩ = some (.int .u32 pl) := by rw [hw1]; exact c33
  rw [← hw1]
  clear hw1 x2 cA S0
  go_upto_region 2 with fail
  go_quiet (fail)
  obtain ⟨w2, hw2⟩ : ∃ w2, w2 = w1.drewN nq := ⟨_, rfl⟩
  have S2 : QStp base w w2 l l m := by rw [hw2]; exact S1.out.grow (below_drewN (Below.refl _ _) nq)
  replace S2 := Lib.hid S2
  replace x0 : w2.cell? ⟨X, 0, none⟩ = some (.int .i64 op) := by rw [hw2]; exact x0
  replace x1 : w2.cell? ⟨X, 1, none⟩ = some (.int .i64 D) := by rw [hw2]; exact x1
  replace x4 : w2.cell? ⟨X, 4, none⟩ = some (.int .i64 imm) := by rw [hw2]; exact x4
  replace c33 : w2.cell? ⟨l.Q, 33, none⟩ = some (.int .u32 pl) := by rw [hw2]; exact c33
  rw [← hw2]
  clear hw2 x3 cB S1
  go_upto_region 7 with (go_at_call 58; refine (rword _ _ (by omega) (by omega)).mono ?_; rintro e w' ⟨rfl, rfl⟩)
  obtain ⟨i, hi⟩ : ∃ i, i = imm % 4294967296 := ⟨_, rfl⟩
  obtain ⟨nx, hnx⟩ : ∃ nx, nx = ((pl : Int) + 1) % 4294967296 := ⟨_, rfl⟩
  obtain ⟨T, hT⟩ : ∃ T : Nat, ((ra : Int) + imm) % 4294967296 = T := ⟨(((ra : Int) + imm) % 4294967296).toNat, by omega⟩
  have hir : 0 ≤ i ∧ i < 4294967296 := by omega
  have hnr : 0 ≤ nx ∧ nx < 4294967296 := by omega
  have hTr : T < 4294967296 := by omega
  have HE : Hid (m.ex op D (m.regs A) (m.regs B) (imm % 4294967296) = m.ex op D ra rb i) := by unfold Hid; rw [HX.out.2.1, HX.out.2.2, hi]
  have HPL : Hid ((m.place + 1) % 4294967296 = nx) := by unfold Hid; rw [HP.out, hnx]
  have HT : Hid (((ra : Int) + i) % 4294967296 = T) := by unfold Hid; rw [← hT, hi]; omega
  have HI := Lib.hid hi
  rw [← hi, ← hnx, hT]
  clear hi hnx hT HP hA2 hB2 hA hB
  obtain ⟨hi0, hi1⟩ := hir
  obtain ⟨hn0, hn1⟩ := hnr
  have c32 := S2.out.rep.c32
  have hsz := S2.out.rep.ok.size
  by_cases hfar : m.size ≤ T
  · have HR : Hid (m.ex op D ra rb i = m.stop 2) := by unfold Hid; exact ex_far m op D ra rb i c24 (by rw [HT.out]; omega)
    have hdec : decide ((m.size : Int) ≤ (T : Int)) = true := by simp; omega
    have HF := Lib.hid (rfall_at S2.out.rep rfl 2 (by decide))
    rcases c24 with rfl | rfl
    all_goals
      go_wp2_with fail
      refine HF.out.mono ?_
      rintro e w5 ⟨rfl, s5⟩
      have S5 := Lib.hid s5
      clear s5
      go_wp2_with fail
      go_returns
      exact ⟨rfl, l, by rw [HE.out, HR.out]; exact S2.out.trans S5.out⟩
  · have hlT : T < m.size := by omega
    have hlT2 : (T : Int) < (m.size : Int) := by omega
    have hdec : decide ((m.size : Int) ≤ (T : Int)) = false := by simp; omega
    have cT := S2.out.rep.cm T hlT
    have fT := S2.out.rep.fB T
    rcases c24 with rfl | rfl
    · have HR : Hid (m.ex 24 D ra rb i = m.go1 D (m.mem T) nx) := by unfold Hid; rw [← HPL.out]; exact ex_lw m D ra rb i HT.out hlT
      have hmr := S2.out.rep.ok.mem T
      obtain ⟨rr, hrre⟩ : ∃ rr, rr = m.mem T := ⟨_, rfl⟩
      rw [← hrre] at hmr HR cT
      have HC := Lib.hid (rput_at (S2.out.rep.drew) rfl D hD rr hmr)
      clear hmr hrre hfar
      go_upto_region 19 with fail
      go_region_with (first
        | (go_at_call 59; refine HC.out.mono ?_; rintro e w5 ⟨rfl, s5⟩; have c5 := s5.rep.c33; have f5 := s5.rep.fQ 33))
      all_goals
        have S5 := Lib.hid s5
        clear s5
        go_wp2_with fail
        go_returns
        exact ⟨rfl, l, by rw [HE.out, HR.out]; exact q_end (S2.out.trans ((QStp.refl S2.out.rep).grow (Below.refl _ _).drew |>.trans S5.out)) rfl ⟨hn0, hn1⟩⟩
    · have HR : Hid (m.ex 25 D ra rb i = { m with mem := updF m.mem T rb, place := nx }) := by unfold Hid; rw [← HPL.out]; exact ex_sw m D ra rb i HT.out hlT
      have s5 := S2.out.rep.setM T rb hlT (by omega)
      have c5 := s5.rep.c33
      have f5 := s5.rep.fQ 33
      have S5 := Lib.hid s5
      clear s5 hfar
      go_wp2_with fail
      go_returns
      exact ⟨rfl, l, by rw [HE.out, HR.out]; exact q_end (S2.out.trans S5.out) rfl ⟨hn0, hn1⟩⟩

set_option maxRecDepth 100000 in
set_option maxHeartbeats 8000000 in
theorem rdo_br {base : Nat} {w : World} {l : QL} {m : MS} {Q : Nat} (h : QRep base w l m) (hQ : l.Q = Q) (op : Int) (D A B : Nat) (imm : Int) (hk : OkF op D A B imm) (ho : m.out.length ≤ 1000000) (c26 : 26 ≤ op) (c31 : op ≤ 31) :
    Calls Tryd.prog 34 #[.pointer (some ⟨Q, 0, none⟩), .agg #[.int .i64 op, .int .i64 D, .int .i64 A, .int .i64 B, .int .i64 imm]] w fun e w' => e = .returned (.tuple #[]) ∧ ∃ l', QStp base w w' l l' (m.ex op D (m.regs A) (m.regs B) (imm % 4294967296)) := by
  subst hQ
  obtain ⟨o0, o1, hD, hA, hB, i0, i1, hreg, hnum⟩ := hk
  have HK := Lib.hid (And.intro hreg (And.intro hnum ho))
  have HH := Lib.hid h
  clear hreg hnum ho h
  go_enter Tryd.func34, Tryd.ntmps34
  go_upto_region 1 with fail
  obtain ⟨w0, hw0⟩ : ∃ w0, w0 = w.alloc (.cells #[.int .i64 op, .int .i64 D, .int .i64 A, .int .i64 B, .int .i64 imm] 55) := ⟨_, rfl⟩
  have hX := heap_new w (.cells #[.int .i64 op, .int .i64 D, .int .i64 A, .int .i64 B, .int .i64 imm] 55)
  have hb0 : Below w.heap.size w w0 := by rw [hw0]; exact (Below.refl _ _).alloc (Nat.le_refl _) _
  rw [← hw0] at hX ⊢
  clear hw0
  obtain ⟨X, hXe⟩ : ∃ X, X = w.heap.size := ⟨_, rfl⟩
  rw [← hXe] at hX ⊢
  have s0 : QStp base w w0 l l m := (QStp.refl HH.out).grow hb0
  have hnf : ¬ l.fp X := fun hf => by have := HH.out.lt hf; omega
  obtain ⟨ra, hra⟩ : ∃ n : Nat, m.regs A = n := ⟨(m.regs A).toNat, by have := HH.out.ok.regs A; omega⟩
  obtain ⟨rb, hrb⟩ : ∃ n : Nat, m.regs B = n := ⟨(m.regs B).toNat, by have := HH.out.ok.regs B; omega⟩
  have ra1 : ra < 4294967296 := by have := HH.out.ok.regs A; omega
  have rb1 : rb < 4294967296 := by have := HH.out.ok.regs B; omega
  obtain ⟨x0, x1, x2, x3, x4⟩ := X5.of hX
  have HX := Lib.hid (And.intro hnf (And.intro hra hrb))
  have cA := s0.rep.cr A hA
  have cB := s0.rep.cr B hB
  rw [hra] at cA
  rw [hrb] at cB
  have c33 := s0.rep.c33
  obtain ⟨pl, hpl⟩ : ∃ n : Nat, m.place = n := ⟨m.place.toNat, by have := HH.out.ok.place; omega⟩
  have pl1 : pl < 4294967296 := by have := HH.out.ok.place; omega
  rw [hpl] at c33
  have S0 := Lib.hid s0
  have HP := Lib.hid hpl
  clear s0 hX hb0 hXe hnf hra hrb hpl HH
  have hA2 : (A : Int) < 32 := by omega
  have hB2 : (B : Int) < 32 := by omega
  go_quiet (fail)
  obtain ⟨w1, hw1⟩ : ∃ w1, w1 = w0.drewN nq := ⟨_, rfl⟩
  have S1 : QStp base w w1 l l m := by rw [hw1]; exact S0.out.grow (below_drewN (Below.refl _ _) nq)
  replace S1 := Lib.hid S1
  replace x0 : w1.cell? ⟨X, 0, none⟩ = some (.int .i64 op) := by rw [hw1]; exact x0
  replace x1 : w1.cell? ⟨X, 1, none⟩ = some (.int .i64 D) := by rw [hw1]; exact x1
  replace x3 : w1.cell? ⟨X, 3, none⟩ = some (.int .i64 B) := by rw [hw1]; exact x3
  replace x4 : w1.cell? ⟨X, 4, none⟩ = some (.int .i64 imm) := by rw [hw1]; exact x4
  replace cB : w1.cell? ⟨l.Q, B, none⟩ = some (.int .u32 rb) := by rw [hw1]; exact cB
  replace c33 : w1.cell? ⟨l.Q, 33, none⟩ = some (.int .u32 pl) := by rw [hw1]; exact c33
  rw [← hw1]
  clear hw1 x2 cA S0
  go_upto_region 2 with fail
  go_quiet (fail)
  obtain ⟨w2, hw2⟩ : ∃ w2, w2 = w1.drewN nq := ⟨_, rfl⟩
  have S2 : QStp base w w2 l l m := by rw [hw2]; exact S1.out.grow (below_drewN (Below.refl _ _) nq)
  replace S2 := Lib.hid S2
  replace x0 : w2.cell? ⟨X, 0, none⟩ = some (.int .i64 op) := by rw [hw2]; exact x0
  replace x1 : w2.cell? ⟨X, 1, none⟩ = some (.int .i64 D) := by rw [hw2]; exact x1
  replace x4 : w2.cell? ⟨X, 4, none⟩ = some (.int .i64 imm) := by rw [hw2]; exact x4
  replace c33 : w2.cell? ⟨l.Q, 33, none⟩ = some (.int .u32 pl) := by rw [hw2]; exact c33
  rw [← hw2]
  clear hw2 x3 cB S1
  go_upto_region 7 with (go_at_call 58; refine (rword _ _ (by omega) (by omega)).mono ?_; rintro e w' ⟨rfl, rfl⟩)
  obtain ⟨i, hi⟩ : ∃ i, i = imm % 4294967296 := ⟨_, rfl⟩
  obtain ⟨nx, hnx⟩ : ∃ nx, nx = ((pl : Int) + 1) % 4294967296 := ⟨_, rfl⟩
  obtain ⟨T, hT⟩ : ∃ T : Nat, ((ra : Int) + imm) % 4294967296 = T := ⟨(((ra : Int) + imm) % 4294967296).toNat, by omega⟩
  have hir : 0 ≤ i ∧ i < 4294967296 := by omega
  have hnr : 0 ≤ nx ∧ nx < 4294967296 := by omega
  have hTr : T < 4294967296 := by omega
  have HE : Hid (m.ex op D (m.regs A) (m.regs B) (imm % 4294967296) = m.ex op D ra rb i) := by unfold Hid; rw [HX.out.2.1, HX.out.2.2, hi]
  have HPL : Hid ((m.place + 1) % 4294967296 = nx) := by unfold Hid; rw [HP.out, hnx]
  have HT : Hid (((ra : Int) + i) % 4294967296 = T) := by unfold Hid; rw [← hT, hi]; omega
  have HI := Lib.hid hi
  rw [← hi, ← hnx, hT]
  clear hi hnx hT HP hA2 hB2 hA hB
  obtain ⟨hi0, hi1⟩ := hir
  obtain ⟨hn0, hn1⟩ := hnr
  have f33 := S2.out.rep.fQ 33
  have HR : Hid (m.ex op D ra rb i = { m with place := if goes op ra rb then (nx + i) % 4294967296 else nx }) := by unfold Hid; rw [← HPL.out]; exact ex_br m op D ra rb i c26 c31
  have hgo := fun w => rgoes op ra rb w c26 c31 (by omega) (by omega) (by omega) (by omega)
  obtain ⟨g, hg⟩ : ∃ g, g = goes op ra rb := ⟨_, rfl⟩
  rw [← hg] at HR
  simp only [← hg] at hgo
  have HG := Lib.hid hgo
  clear hgo hg
  have d7 : ¬ (op ≤ 25) := by omega
  cases g with
  | true =>
    go_wp2_with (first
      | (go_at_call 62; refine (HG.out _).mono ?_; rintro e w' ⟨rfl, rfl⟩)
      | (go_at_call 58; refine (rword _ _ (by omega) (by omega)).mono ?_; rintro e w' ⟨rfl, rfl⟩))
    go_returns
    exact ⟨rfl, l, by rw [HE.out, HR.out]; exact q_end (next := (nx + i) % 4294967296) S2.out rfl (by omega)⟩
  | false =>
    go_wp2_with (go_at_call 62; refine (HG.out _).mono ?_; rintro e w' ⟨rfl, rfl⟩)
    go_returns
    exact ⟨rfl, l, by rw [HE.out, HR.out]; exact q_end (next := nx) S2.out rfl ⟨hn0, hn1⟩⟩

set_option maxRecDepth 100000 in
set_option maxHeartbeats 8000000 in
theorem rdo_jmp {base : Nat} {w : World} {l : QL} {m : MS} {Q : Nat} (h : QRep base w l m) (hQ : l.Q = Q) (op : Int) (D A B : Nat) (imm : Int) (hk : OkF op D A B imm) (ho : m.out.length ≤ 1000000) (c32 : op = 32 ∨ op = 33) :
    Calls Tryd.prog 34 #[.pointer (some ⟨Q, 0, none⟩), .agg #[.int .i64 op, .int .i64 D, .int .i64 A, .int .i64 B, .int .i64 imm]] w fun e w' => e = .returned (.tuple #[]) ∧ ∃ l', QStp base w w' l l' (m.ex op D (m.regs A) (m.regs B) (imm % 4294967296)) := by
  subst hQ
  obtain ⟨o0, o1, hD, hA, hB, i0, i1, hreg, hnum⟩ := hk
  have HK := Lib.hid (And.intro hreg (And.intro hnum ho))
  have HH := Lib.hid h
  clear hreg hnum ho h
  go_enter Tryd.func34, Tryd.ntmps34
  go_upto_region 1 with fail
  obtain ⟨w0, hw0⟩ : ∃ w0, w0 = w.alloc (.cells #[.int .i64 op, .int .i64 D, .int .i64 A, .int .i64 B, .int .i64 imm] 55) := ⟨_, rfl⟩
  have hX := heap_new w (.cells #[.int .i64 op, .int .i64 D, .int .i64 A, .int .i64 B, .int .i64 imm] 55)
  have hb0 : Below w.heap.size w w0 := by rw [hw0]; exact (Below.refl _ _).alloc (Nat.le_refl _) _
  rw [← hw0] at hX ⊢
  clear hw0
  obtain ⟨X, hXe⟩ : ∃ X, X = w.heap.size := ⟨_, rfl⟩
  rw [← hXe] at hX ⊢
  have s0 : QStp base w w0 l l m := (QStp.refl HH.out).grow hb0
  have hnf : ¬ l.fp X := fun hf => by have := HH.out.lt hf; omega
  obtain ⟨ra, hra⟩ : ∃ n : Nat, m.regs A = n := ⟨(m.regs A).toNat, by have := HH.out.ok.regs A; omega⟩
  obtain ⟨rb, hrb⟩ : ∃ n : Nat, m.regs B = n := ⟨(m.regs B).toNat, by have := HH.out.ok.regs B; omega⟩
  have ra1 : ra < 4294967296 := by have := HH.out.ok.regs A; omega
  have rb1 : rb < 4294967296 := by have := HH.out.ok.regs B; omega
  obtain ⟨x0, x1, x2, x3, x4⟩ := X5.of hX
  have HX := Lib.hid (And.intro hnf (And.intro hra hrb))
  have cA := s0.rep.cr A hA
  have cB := s0.rep.cr B hB
  rw [hra] at cA
  rw [hrb] at cB
  have c33 := s0.rep.c33
  obtain ⟨pl, hpl⟩ : ∃ n : Nat, m.place = n := ⟨m.place.toNat, by have := HH.out.ok.place; omega⟩
  have pl1 : pl < 4294967296 := by have := HH.out.ok.place; omega
  rw [hpl] at c33
  have S0 := Lib.hid s0
  have HP := Lib.hid hpl
  clear s0 hX hb0 hXe hnf hra hrb hpl HH
  have hA2 : (A : Int) < 32 := by omega
  have hB2 : (B : Int) < 32 := by omega
  go_quiet (fail)
  obtain ⟨w1, hw1⟩ : ∃ w1, w1 = w0.drewN nq := ⟨_, rfl⟩
  have S1 : QStp base w w1 l l m := by rw [hw1]; exact S0.out.grow (below_drewN (Below.refl _ _) nq)
  replace S1 := Lib.hid S1
  replace x0 : w1.cell? ⟨X, 0, none⟩ = some (.int .i64 op) := by rw [hw1]; exact x0
  replace x1 : w1.cell? ⟨X, 1, none⟩ = some (.int .i64 D) := by rw [hw1]; exact x1
  replace x3 : w1.cell? ⟨X, 3, none⟩ = some (.int .i64 B) := by rw [hw1]; exact x3
  replace x4 : w1.cell? ⟨X, 4, none⟩ = some (.int .i64 imm) := by rw [hw1]; exact x4
  replace cB : w1.cell? ⟨l.Q, B, none⟩ = some (.int .u32 rb) := by rw [hw1]; exact cB
  replace c33 : w1.cell? ⟨l.Q, 33, none⟩ = some (.int .u32 pl) := by rw [hw1]; exact c33
  rw [← hw1]
  clear hw1 x2 cA S0
  go_upto_region 2 with fail
  go_quiet (fail)
  obtain ⟨w2, hw2⟩ : ∃ w2, w2 = w1.drewN nq := ⟨_, rfl⟩
  have S2 : QStp base w w2 l l m := by rw [hw2]; exact S1.out.grow (below_drewN (Below.refl _ _) nq)
  replace S2 := Lib.hid S2
  replace x0 : w2.cell? ⟨X, 0, none⟩ = some (.int .i64 op) := by rw [hw2]; exact x0
  replace x1 : w2.cell? ⟨X, 1, none⟩ = some (.int .i64 D) := by rw [hw2]; exact x1
  replace x4 : w2.cell? ⟨X, 4, none⟩ = some (.int .i64 imm) := by rw [hw2]; exact x4
  replace c33 : w2.cell? ⟨l.Q, 33, none⟩ = some (.int .u32 pl) := by rw [hw2]; exact c33
  rw [← hw2]
  clear hw2 x3 cB S1
  go_upto_region 7 with (go_at_call 58; refine (rword _ _ (by omega) (by omega)).mono ?_; rintro e w' ⟨rfl, rfl⟩)
  obtain ⟨i, hi⟩ : ∃ i, i = imm % 4294967296 := ⟨_, rfl⟩
  obtain ⟨nx, hnx⟩ : ∃ nx, nx = ((pl : Int) + 1) % 4294967296 := ⟨_, rfl⟩
  obtain ⟨T, hT⟩ : ∃ T : Nat, ((ra : Int) + imm) % 4294967296 = T := ⟨(((ra : Int) + imm) % 4294967296).toNat, by omega⟩
  have hir : 0 ≤ i ∧ i < 4294967296 := by omega
  have hnr : 0 ≤ nx ∧ nx < 4294967296 := by omega
  have hTr : T < 4294967296 := by omega
  have HE : Hid (m.ex op D (m.regs A) (m.regs B) (imm % 4294967296) = m.ex op D ra rb i) := by unfold Hid; rw [HX.out.2.1, HX.out.2.2, hi]
  have HPL : Hid ((m.place + 1) % 4294967296 = nx) := by unfold Hid; rw [HP.out, hnx]
  have HT : Hid (((ra : Int) + i) % 4294967296 = T) := by unfold Hid; rw [← hT, hi]; omega
  have HI := Lib.hid hi
  rw [← hi, ← hnx, hT]
  clear hi hnx hT HP hA2 hB2 hA hB
  obtain ⟨hi0, hi1⟩ := hir
  obtain ⟨hn0, hn1⟩ := hnr
  have HC := Lib.hid (rput_at S2.out.rep rfl D hD nx ⟨hn0, hn1⟩)
  rcases c32 with rfl | rfl
  · have HR : Hid (m.ex 32 D ra rb i = m.go1 D nx ((nx + i) % 4294967296)) := by unfold Hid; rw [← HPL.out]; exact ex_jal m D ra rb i
    go_wp2_with fail
    refine HC.out.mono ?_
    rintro e w5 ⟨rfl, s5⟩
    have c5 := s5.rep.c33
    have f5 := s5.rep.fQ 33
    have S5 := Lib.hid s5
    clear s5
    go_wp2_with (go_at_call 58; refine (rword _ _ (by omega) (by omega)).mono ?_; rintro e w' ⟨rfl, rfl⟩)
    go_returns
    exact ⟨rfl, l, by rw [HE.out, HR.out]; exact q_end (S2.out.trans S5.out) rfl (by omega)⟩
  · have HR : Hid (m.ex 33 D ra rb i = m.go1 D nx T) := by unfold Hid; rw [← HPL.out, ← HT.out]; exact ex_jalr m D ra rb i
    go_wp2_with fail
    refine HC.out.mono ?_
    rintro e w5 ⟨rfl, s5⟩
    have c5 := s5.rep.c33
    have f5 := s5.rep.fQ 33
    have S5 := Lib.hid s5
    clear s5
    go_wp2_with fail
    go_returns
    exact ⟨rfl, l, by rw [HE.out, HR.out]; exact q_end (S2.out.trans S5.out) rfl (by omega)⟩

set_option maxRecDepth 100000 in
set_option maxHeartbeats 8000000 in
theorem rdo_halt {base : Nat} {w : World} {l : QL} {m : MS} {Q : Nat} (h : QRep base w l m) (hQ : l.Q = Q) (op : Int) (D A B : Nat) (imm : Int) (hk : OkF op D A B imm) (ho : m.out.length ≤ 1000000) (c36 : op = 36) :
    Calls Tryd.prog 34 #[.pointer (some ⟨Q, 0, none⟩), .agg #[.int .i64 op, .int .i64 D, .int .i64 A, .int .i64 B, .int .i64 imm]] w fun e w' => e = .returned (.tuple #[]) ∧ ∃ l', QStp base w w' l l' (m.ex op D (m.regs A) (m.regs B) (imm % 4294967296)) := by
  have CC := Lib.hid c36
  clear c36
  subst hQ
  obtain ⟨o0, o1, hD, hA, hB, i0, i1, hreg, hnum⟩ := hk
  have HK := Lib.hid (And.intro hreg (And.intro hnum ho))
  have HH := Lib.hid h
  clear hreg hnum ho h
  go_enter Tryd.func34, Tryd.ntmps34
  go_upto_region 1 with fail
  obtain ⟨w0, hw0⟩ : ∃ w0, w0 = w.alloc (.cells #[.int .i64 op, .int .i64 D, .int .i64 A, .int .i64 B, .int .i64 imm] 55) := ⟨_, rfl⟩
  have hX := heap_new w (.cells #[.int .i64 op, .int .i64 D, .int .i64 A, .int .i64 B, .int .i64 imm] 55)
  have hb0 : Below w.heap.size w w0 := by rw [hw0]; exact (Below.refl _ _).alloc (Nat.le_refl _) _
  rw [← hw0] at hX ⊢
  clear hw0
  obtain ⟨X, hXe⟩ : ∃ X, X = w.heap.size := ⟨_, rfl⟩
  rw [← hXe] at hX ⊢
  have s0 : QStp base w w0 l l m := (QStp.refl HH.out).grow hb0
  have hnf : ¬ l.fp X := fun hf => by have := HH.out.lt hf; omega
  obtain ⟨ra, hra⟩ : ∃ n : Nat, m.regs A = n := ⟨(m.regs A).toNat, by have := HH.out.ok.regs A; omega⟩
  obtain ⟨rb, hrb⟩ : ∃ n : Nat, m.regs B = n := ⟨(m.regs B).toNat, by have := HH.out.ok.regs B; omega⟩
  have ra1 : ra < 4294967296 := by have := HH.out.ok.regs A; omega
  have rb1 : rb < 4294967296 := by have := HH.out.ok.regs B; omega
  obtain ⟨x0, x1, x2, x3, x4⟩ := X5.of hX
  have HX := Lib.hid (And.intro hnf (And.intro hra hrb))
  have cA := s0.rep.cr A hA
  have cB := s0.rep.cr B hB
  rw [hra] at cA
  rw [hrb] at cB
  have c33 := s0.rep.c33
  obtain ⟨pl, hpl⟩ : ∃ n : Nat, m.place = n := ⟨m.place.toNat, by have := HH.out.ok.place; omega⟩
  have pl1 : pl < 4294967296 := by have := HH.out.ok.place; omega
  rw [hpl] at c33
  have S0 := Lib.hid s0
  have HP := Lib.hid hpl
  clear s0 hX hb0 hXe hnf hra hrb hpl HH
  have hA2 : (A : Int) < 32 := by omega
  have hB2 : (B : Int) < 32 := by omega
  go_quiet (fail)
  obtain ⟨w1, hw1⟩ : ∃ w1, w1 = w0.drewN nq := ⟨_, rfl⟩
  have S1 : QStp base w w1 l l m := by rw [hw1]; exact S0.out.grow (below_drewN (Below.refl _ _) nq)
  replace S1 := Lib.hid S1
  replace x0 : w1.cell? ⟨X, 0, none⟩ = some (.int .i64 op) := by rw [hw1]; exact x0
  replace x1 : w1.cell? ⟨X, 1, none⟩ = some (.int .i64 D) := by rw [hw1]; exact x1
  replace x3 : w1.cell? ⟨X, 3, none⟩ = some (.int .i64 B) := by rw [hw1]; exact x3
  replace x4 : w1.cell? ⟨X, 4, none⟩ = some (.int .i64 imm) := by rw [hw1]; exact x4
  replace cB : w1.cell? ⟨l.Q, B, none⟩ = some (.int .u32 rb) := by rw [hw1]; exact cB
  replace c33 : w1.cell? ⟨l.Q, 33, none⟩ = some (.int .u32 pl) := by rw [hw1]; exact c33
  rw [← hw1]
  clear hw1 x2 cA S0
  go_upto_region 2 with fail
  go_quiet (fail)
  obtain ⟨w2, hw2⟩ : ∃ w2, w2 = w1.drewN nq := ⟨_, rfl⟩
  have S2 : QStp base w w2 l l m := by rw [hw2]; exact S1.out.grow (below_drewN (Below.refl _ _) nq)
  replace S2 := Lib.hid S2
  replace x0 : w2.cell? ⟨X, 0, none⟩ = some (.int .i64 op) := by rw [hw2]; exact x0
  replace x1 : w2.cell? ⟨X, 1, none⟩ = some (.int .i64 D) := by rw [hw2]; exact x1
  replace x4 : w2.cell? ⟨X, 4, none⟩ = some (.int .i64 imm) := by rw [hw2]; exact x4
  replace c33 : w2.cell? ⟨l.Q, 33, none⟩ = some (.int .u32 pl) := by rw [hw2]; exact c33
  rw [← hw2]
  clear hw2 x3 cB S1
  go_upto_region 7 with (go_at_call 58; refine (rword _ _ (by omega) (by omega)).mono ?_; rintro e w' ⟨rfl, rfl⟩)
  obtain ⟨i, hi⟩ : ∃ i, i = imm % 4294967296 := ⟨_, rfl⟩
  obtain ⟨nx, hnx⟩ : ∃ nx, nx = ((pl : Int) + 1) % 4294967296 := ⟨_, rfl⟩
  obtain ⟨T, hT⟩ : ∃ T : Nat, ((ra : Int) + imm) % 4294967296 = T := ⟨(((ra : Int) + imm) % 4294967296).toNat, by omega⟩
  have hir : 0 ≤ i ∧ i < 4294967296 := by omega
  have hnr : 0 ≤ nx ∧ nx < 4294967296 := by omega
  have hTr : T < 4294967296 := by omega
  have HE : Hid (m.ex op D (m.regs A) (m.regs B) (imm % 4294967296) = m.ex op D ra rb i) := by unfold Hid; rw [HX.out.2.1, HX.out.2.2, hi]
  have HPL : Hid ((m.place + 1) % 4294967296 = nx) := by unfold Hid; rw [HP.out, hnx]
  have HT : Hid (((ra : Int) + i) % 4294967296 = T) := by unfold Hid; rw [← hT, hi]; omega
  have HI := Lib.hid hi
  rw [← hi, ← hnx, hT]
  clear hi hnx hT HP hA2 hB2 hA hB
  obtain ⟨hi0, hi1⟩ := hir
  obtain ⟨hn0, hn1⟩ := hnr
  have c36 := CC.out
  clear CC
  subst c36
  have HR : Hid (m.ex 36 D ra rb i = { m with state := 1, code := ra }) := by unfold Hid; exact ex_halt m D ra rb i
  have c36 := S2.out.rep.c36
  have c37 := S2.out.rep.c37
  have f := S2.out.rep.fQ
  have s5 := qhalt_end S2.out rfl ra (by omega)
  have HPQ : Hid (m.place = pl) := by
    unfold Hid
    have := S2.out.rep.c33
    rw [c33] at this
    simp only [Option.some.injEq, Value.int.injEq, true_and] at this
    exact this.symm
  have S5 := Lib.hid s5
  clear s5
  go_wp2_with fail
  go_returns
  refine ⟨rfl, l, ?_⟩
  have hpp : ({ m with state := 1, code := (ra : Int) } : MS) = { ({ m with state := 1, code := (ra : Int) } : MS) with place := pl } := by rw [← HPQ.out]
  rw [HE.out, HR.out, hpp]
  exact q_end S5.out rfl (by omega)

set_option maxRecDepth 100000 in
set_option maxHeartbeats 8000000 in
theorem rdo_in {base : Nat} {w : World} {l : QL} {m : MS} {Q : Nat} (h : QRep base w l m) (hQ : l.Q = Q) (op : Int) (D A B : Nat) (imm : Int) (hk : OkF op D A B imm) (ho : m.out.length ≤ 1000000) (c34 : op = 34) :
    Calls Tryd.prog 34 #[.pointer (some ⟨Q, 0, none⟩), .agg #[.int .i64 op, .int .i64 D, .int .i64 A, .int .i64 B, .int .i64 imm]] w fun e w' => e = .returned (.tuple #[]) ∧ ∃ l', QStp base w w' l l' (m.ex op D (m.regs A) (m.regs B) (imm % 4294967296)) := by
  have CC := Lib.hid c34
  clear c34
  subst hQ
  obtain ⟨o0, o1, hD, hA, hB, i0, i1, hreg, hnum⟩ := hk
  have HK := Lib.hid (And.intro hreg (And.intro hnum ho))
  have HH := Lib.hid h
  clear hreg hnum ho h
  go_enter Tryd.func34, Tryd.ntmps34
  go_upto_region 1 with fail
  obtain ⟨w0, hw0⟩ : ∃ w0, w0 = w.alloc (.cells #[.int .i64 op, .int .i64 D, .int .i64 A, .int .i64 B, .int .i64 imm] 55) := ⟨_, rfl⟩
  have hX := heap_new w (.cells #[.int .i64 op, .int .i64 D, .int .i64 A, .int .i64 B, .int .i64 imm] 55)
  have hb0 : Below w.heap.size w w0 := by rw [hw0]; exact (Below.refl _ _).alloc (Nat.le_refl _) _
  rw [← hw0] at hX ⊢
  clear hw0
  obtain ⟨X, hXe⟩ : ∃ X, X = w.heap.size := ⟨_, rfl⟩
  rw [← hXe] at hX ⊢
  have s0 : QStp base w w0 l l m := (QStp.refl HH.out).grow hb0
  have hnf : ¬ l.fp X := fun hf => by have := HH.out.lt hf; omega
  obtain ⟨ra, hra⟩ : ∃ n : Nat, m.regs A = n := ⟨(m.regs A).toNat, by have := HH.out.ok.regs A; omega⟩
  obtain ⟨rb, hrb⟩ : ∃ n : Nat, m.regs B = n := ⟨(m.regs B).toNat, by have := HH.out.ok.regs B; omega⟩
  have ra1 : ra < 4294967296 := by have := HH.out.ok.regs A; omega
  have rb1 : rb < 4294967296 := by have := HH.out.ok.regs B; omega
  obtain ⟨x0, x1, x2, x3, x4⟩ := X5.of hX
  have HX := Lib.hid (And.intro hnf (And.intro hra hrb))
  have cA := s0.rep.cr A hA
  have cB := s0.rep.cr B hB
  rw [hra] at cA
  rw [hrb] at cB
  have c33 := s0.rep.c33
  obtain ⟨pl, hpl⟩ : ∃ n : Nat, m.place = n := ⟨m.place.toNat, by have := HH.out.ok.place; omega⟩
  have pl1 : pl < 4294967296 := by have := HH.out.ok.place; omega
  rw [hpl] at c33
  have S0 := Lib.hid s0
  have HP := Lib.hid hpl
  clear s0 hX hb0 hXe hnf hra hrb hpl HH
  have hA2 : (A : Int) < 32 := by omega
  have hB2 : (B : Int) < 32 := by omega
  go_quiet (fail)
  obtain ⟨w1, hw1⟩ : ∃ w1, w1 = w0.drewN nq := ⟨_, rfl⟩
  have S1 : QStp base w w1 l l m := by rw [hw1]; exact S0.out.grow (below_drewN (Below.refl _ _) nq)
  replace S1 := Lib.hid S1
  replace x0 : w1.cell? ⟨X, 0, none⟩ = some (.int .i64 op) := by rw [hw1]; exact x0
  replace x1 : w1.cell? ⟨X, 1, none⟩ = some (.int .i64 D) := by rw [hw1]; exact x1
  replace x3 : w1.cell? ⟨X, 3, none⟩ = some (.int .i64 B) := by rw [hw1]; exact x3
  replace x4 : w1.cell? ⟨X, 4, none⟩ = some (.int .i64 imm) := by rw [hw1]; exact x4
  replace cB : w1.cell? ⟨l.Q, B, none⟩ = some (.int .u32 rb) := by rw [hw1]; exact cB
  replace c33 : w1.cell? ⟨l.Q, 33, none⟩ = some (.int .u32 pl) := by rw [hw1]; exact c33
  rw [← hw1]
  clear hw1 x2 cA S0
  go_upto_region 2 with fail
  go_quiet (fail)
  obtain ⟨w2, hw2⟩ : ∃ w2, w2 = w1.drewN nq := ⟨_, rfl⟩
  have S2 : QStp base w w2 l l m := by rw [hw2]; exact S1.out.grow (below_drewN (Below.refl _ _) nq)
  replace S2 := Lib.hid S2
  replace x0 : w2.cell? ⟨X, 0, none⟩ = some (.int .i64 op) := by rw [hw2]; exact x0
  replace x1 : w2.cell? ⟨X, 1, none⟩ = some (.int .i64 D) := by rw [hw2]; exact x1
  replace x4 : w2.cell? ⟨X, 4, none⟩ = some (.int .i64 imm) := by rw [hw2]; exact x4
  replace c33 : w2.cell? ⟨l.Q, 33, none⟩ = some (.int .u32 pl) := by rw [hw2]; exact c33
  rw [← hw2]
  clear hw2 x3 cB S1
  go_upto_region 7 with (go_at_call 58; refine (rword _ _ (by omega) (by omega)).mono ?_; rintro e w' ⟨rfl, rfl⟩)
  obtain ⟨i, hi⟩ : ∃ i, i = imm % 4294967296 := ⟨_, rfl⟩
  obtain ⟨nx, hnx⟩ : ∃ nx, nx = ((pl : Int) + 1) % 4294967296 := ⟨_, rfl⟩
  obtain ⟨T, hT⟩ : ∃ T : Nat, ((ra : Int) + imm) % 4294967296 = T := ⟨(((ra : Int) + imm) % 4294967296).toNat, by omega⟩
  have hir : 0 ≤ i ∧ i < 4294967296 := by omega
  have hnr : 0 ≤ nx ∧ nx < 4294967296 := by omega
  have hTr : T < 4294967296 := by omega
  have HE : Hid (m.ex op D (m.regs A) (m.regs B) (imm % 4294967296) = m.ex op D ra rb i) := by unfold Hid; rw [HX.out.2.1, HX.out.2.2, hi]
  have HPL : Hid ((m.place + 1) % 4294967296 = nx) := by unfold Hid; rw [HP.out, hnx]
  have HT : Hid (((ra : Int) + i) % 4294967296 = T) := by unfold Hid; rw [← hT, hi]; omega
  have HI := Lib.hid hi
  rw [← hi, ← hnx, hT]
  clear hi hnx hT HP hA2 hB2 hA hB
  obtain ⟨hi0, hi1⟩ := hir
  obtain ⟨hn0, hn1⟩ := hnr
  have c34 := CC.out
  clear CC
  subst c34
  have HR : Hid (m.ex 34 D ra rb i = ({ m with inp := m.inp.tail } : MS).go1 D (m.inp.headD 4294967295) nx) := by unfold Hid; rw [← HPL.out]; exact ex_in m D ra rb i
  have c34 := S2.out.rep.c34
  have f34 := S2.out.rep.fQ 34
  rcases S2.out.rep.inp with ⟨hl, p, c, hv⟩ | ⟨N, off, cap, cs, hv, hne, hc, hmx, hN, hcs⟩
  · rw [hv] at c34
    have hself : ({ m with inp := ([] : List Int) } : MS) = m := MS.inp_self m _ hl
    have HR2 : Hid (m.ex 34 D ra rb i = m.go1 D 4294967295 nx) := by
      unfold Hid
      rw [HR.out, hl]
      show ({ m with inp := ([] : List Int) } : MS).go1 D 4294967295 nx = _
      rw [hself]
    have HC := Lib.hid (rput_at S2.out.rep rfl D hD 4294967295 (by decide))
    clear hv hl hself
    go_wp2_with fail
    refine HC.out.mono ?_
    rintro e w5 ⟨rfl, s5⟩
    have c5 := s5.rep.c33
    have f5 := s5.rep.fQ 33
    have S5 := Lib.hid s5
    clear s5
    go_wp2_with fail
    go_returns
    exact ⟨rfl, l, by rw [HE.out, HR2.out]; exact q_end (S2.out.trans S5.out) rfl ⟨hn0, hn1⟩⟩
  · cases hi : m.inp with
    | nil => exact absurd hi hne
    | cons x r =>
      rw [hi] at hcs hv hc
      rw [hv] at c34
      simp only [List.length_cons] at hcs hv hc c34
      have hx := S2.out.rep.ok.inp x (by rw [hi]; exact List.mem_cons_self ..)
      have hl := S2.out.rep.ok.ilen
      rw [hi] at hl
      simp only [List.length_cons] at hl
      have cN : w2.cell? ⟨N, off, none⟩ = some (.int .u8 x) := by rw [cell_of_block hN]; exact hcs 0 (by omega)
      have hz : ((r.length : Int) + 1 == 0) = false := beq_eq_false_iff_ne.2 (by omega)
      obtain ⟨hx0, hx1⟩ := hx
      have HR2 : Hid (m.ex 34 D ra rb i = ({ m with inp := r } : MS).go1 D x nx) := by unfold Hid; rw [HR.out, hi]; rfl
      have hmod : x % 4294967296 = x := by omega
      have H := Lib.hid (And.intro hi (And.intro hv (And.intro hN hcs)))
      clear hi hv hN hcs hne HR
      by_cases hc1 : cap = 1
      · subst hc1
        have hr : r.length = 0 := by omega
        have t := S2.out.rep.setIn x r (.slice (some ⟨N, off, none⟩) 0 0) H.out.1 (Or.inl ⟨List.length_eq_zero_iff.1 hr, _, _, rfl⟩) (fun k hk => by cases hk)
        have HC := Lib.hid (And.intro t (rput_at t.rep rfl D hD x (by omega)))
        rw [hr] at c34 hz
        clear hr t
        go_wp2_with fail
        refine HC.out.2.mono ?_
        rintro e w5 ⟨rfl, s5⟩
        have c5 := s5.rep.c33
        have f5 := s5.rep.fQ 33
        have S5 := Lib.hid s5
        clear s5
        go_wp2_with fail
        go_returns
        exact ⟨rfl, _, by rw [HE.out, HR2.out]; exact q_end (S2.out.trans (HC.out.1.trans S5.out)) rfl ⟨hn0, hn1⟩⟩
      · have hc2 : 1 < cap := by omega
        have t := S2.out.rep.setIn x r (.slice (some ⟨N, off + 1, none⟩) r.length (cap - 1)) H.out.1 (by
          by_cases hr : r = []
          · subst hr; exact Or.inl ⟨rfl, _, _, rfl⟩
          · refine Or.inr ⟨N, off + 1, cap - 1, cs, rfl, hr, by omega, by omega, H.out.2.2.1, fun j hj => ?_⟩
            have := H.out.2.2.2 (j + 1) (by omega)
            rw [show off + 1 + j = off + (j + 1) by omega, this]
            rfl) (fun k hk => by
          rw [H.out.2.1]
          cases r with
          | nil => cases hk
          | cons y q => exact hk)
        have HC := Lib.hid (And.intro t (rput_at t.rep rfl D hD x (by omega)))
        clear hc1 t
        go_wp2_with fail
        refine HC.out.2.mono ?_
        rintro e w5 ⟨rfl, s5⟩
        have c5 := s5.rep.c33
        have f5 := s5.rep.fQ 33
        have S5 := Lib.hid s5
        clear s5
        go_wp2_with fail
        go_returns
        exact ⟨rfl, _, by rw [HE.out, HR2.out]; exact q_end (S2.out.trans (HC.out.1.trans S5.out)) rfl ⟨hn0, hn1⟩⟩

set_option maxRecDepth 100000 in
set_option maxHeartbeats 8000000 in
theorem rdo_out {base : Nat} {w : World} {l : QL} {m : MS} {Q : Nat} (h : QRep base w l m) (hQ : l.Q = Q) (op : Int) (D A B : Nat) (imm : Int) (hk : OkF op D A B imm) (ho : m.out.length ≤ 1000000) (c35 : op = 35) :
    Calls Tryd.prog 34 #[.pointer (some ⟨Q, 0, none⟩), .agg #[.int .i64 op, .int .i64 D, .int .i64 A, .int .i64 B, .int .i64 imm]] w fun e w' => e = .returned (.tuple #[]) ∧ ∃ l', QStp base w w' l l' (m.ex op D (m.regs A) (m.regs B) (imm % 4294967296)) := by
  have CC := Lib.hid c35
  clear c35
  subst hQ
  obtain ⟨o0, o1, hD, hA, hB, i0, i1, hreg, hnum⟩ := hk
  have HK := Lib.hid (And.intro hreg (And.intro hnum ho))
  have HH := Lib.hid h
  clear hreg hnum ho h
  go_enter Tryd.func34, Tryd.ntmps34
  go_upto_region 1 with fail
  obtain ⟨w0, hw0⟩ : ∃ w0, w0 = w.alloc (.cells #[.int .i64 op, .int .i64 D, .int .i64 A, .int .i64 B, .int .i64 imm] 55) := ⟨_, rfl⟩
  have hX := heap_new w (.cells #[.int .i64 op, .int .i64 D, .int .i64 A, .int .i64 B, .int .i64 imm] 55)
  have hb0 : Below w.heap.size w w0 := by rw [hw0]; exact (Below.refl _ _).alloc (Nat.le_refl _) _
  rw [← hw0] at hX ⊢
  clear hw0
  obtain ⟨X, hXe⟩ : ∃ X, X = w.heap.size := ⟨_, rfl⟩
  rw [← hXe] at hX ⊢
  have s0 : QStp base w w0 l l m := (QStp.refl HH.out).grow hb0
  have hnf : ¬ l.fp X := fun hf => by have := HH.out.lt hf; omega
  obtain ⟨ra, hra⟩ : ∃ n : Nat, m.regs A = n := ⟨(m.regs A).toNat, by have := HH.out.ok.regs A; omega⟩
  obtain ⟨rb, hrb⟩ : ∃ n : Nat, m.regs B = n := ⟨(m.regs B).toNat, by have := HH.out.ok.regs B; omega⟩
  have ra1 : ra < 4294967296 := by have := HH.out.ok.regs A; omega
  have rb1 : rb < 4294967296 := by have := HH.out.ok.regs B; omega
  obtain ⟨x0, x1, x2, x3, x4⟩ := X5.of hX
  have HX := Lib.hid (And.intro hnf (And.intro hra hrb))
  have cA := s0.rep.cr A hA
  have cB := s0.rep.cr B hB
  rw [hra] at cA
  rw [hrb] at cB
  have c33 := s0.rep.c33
  obtain ⟨pl, hpl⟩ : ∃ n : Nat, m.place = n := ⟨m.place.toNat, by have := HH.out.ok.place; omega⟩
  have pl1 : pl < 4294967296 := by have := HH.out.ok.place; omega
  rw [hpl] at c33
  have S0 := Lib.hid s0
  have HP := Lib.hid hpl
  clear s0 hX hb0 hXe hnf hra hrb hpl HH
  have hA2 : (A : Int) < 32 := by omega
  have hB2 : (B : Int) < 32 := by omega
  go_quiet (fail)
  obtain ⟨w1, hw1⟩ : ∃ w1, w1 = w0.drewN nq := ⟨_, rfl⟩
  have S1 : QStp base w w1 l l m := by rw [hw1]; exact S0.out.grow (below_drewN (Below.refl _ _) nq)
  replace S1 := Lib.hid S1
  replace x0 : w1.cell? ⟨X, 0, none⟩ = some (.int .i64 op) := by rw [hw1]; exact x0
  replace x1 : w1.cell? ⟨X, 1, none⟩ = some (.int .i64 D) := by rw [hw1]; exact x1
  replace x3 : w1.cell? ⟨X, 3, none⟩ = some (.int .i64 B) := by rw [hw1]; exact x3
  replace x4 : w1.cell? ⟨X, 4, none⟩ = some (.int .i64 imm) := by rw [hw1]; exact x4
  replace cB : w1.cell? ⟨l.Q, B, none⟩ = some (.int .u32 rb) := by rw [hw1]; exact cB
  replace c33 : w1.cell? ⟨l.Q, 33, none⟩ = some (.int .u32 pl) := by rw [hw1]; exact c33
  rw [← hw1]
  clear hw1 x2 cA S0
  go_upto_region 2 with fail
  go_quiet (fail)
  obtain ⟨w2, hw2⟩ : ∃ w2, w2 = w1.drewN nq := ⟨_, rfl⟩
  have S2 : QStp base w w2 l l m := by rw [hw2]; exact S1.out.grow (below_drewN (Below.refl _ _) nq)
  replace S2 := Lib.hid S2
  replace x0 : w2.cell? ⟨X, 0, none⟩ = some (.int .i64 op) := by rw [hw2]; exact x0
  replace x1 : w2.cell? ⟨X, 1, none⟩ = some (.int .i64 D) := by rw [hw2]; exact x1
  replace x4 : w2.cell? ⟨X, 4, none⟩ = some (.int .i64 imm) := by rw [hw2]; exact x4
  replace c33 : w2.cell? ⟨l.Q, 33, none⟩ = some (.int .u32 pl) := by rw [hw2]; exact c33
  rw [← hw2]
  clear hw2 x3 cB S1
  go_upto_region 7 with (go_at_call 58; refine (rword _ _ (by omega) (by omega)).mono ?_; rintro e w' ⟨rfl, rfl⟩)
  obtain ⟨i, hi⟩ : ∃ i, i = imm % 4294967296 := ⟨_, rfl⟩
  obtain ⟨nx, hnx⟩ : ∃ nx, nx = ((pl : Int) + 1) % 4294967296 := ⟨_, rfl⟩
  obtain ⟨T, hT⟩ : ∃ T : Nat, ((ra : Int) + imm) % 4294967296 = T := ⟨(((ra : Int) + imm) % 4294967296).toNat, by omega⟩
  have hir : 0 ≤ i ∧ i < 4294967296 := by omega
  have hnr : 0 ≤ nx ∧ nx < 4294967296 := by omega
  have hTr : T < 4294967296 := by omega
  have HE : Hid (m.ex op D (m.regs A) (m.regs B) (imm % 4294967296) = m.ex op D ra rb i) := by unfold Hid; rw [HX.out.2.1, HX.out.2.2, hi]
  have HPL : Hid ((m.place + 1) % 4294967296 = nx) := by unfold Hid; rw [HP.out, hnx]
  have HT : Hid (((ra : Int) + i) % 4294967296 = T) := by unfold Hid; rw [← hT, hi]; omega
  have HI := Lib.hid hi
  rw [← hi, ← hnx, hT]
  clear hi hnx hT HP hA2 hB2 hA hB
  obtain ⟨hi0, hi1⟩ := hir
  obtain ⟨hn0, hn1⟩ := hnr
  have c35 := CC.out
  clear CC
  subst c35
  have HR : Hid (m.ex 35 D ra rb i = { m with out := m.out ++ [(ra : Int) % 256], place := nx }) := by unfold Hid; rw [← HPL.out]; exact ex_out m D ra rb i
  obtain ⟨j0, hj, hz0, hz1, hz2⟩ := infoB_of
  have c35 := S2.out.rep.c35
  obtain ⟨vo, hvo⟩ : ∃ vo, vo = l.vo := ⟨_, rfl⟩
  have HVO := Lib.hid hvo
  rw [← hvo] at c35
  have hmb := lt_of_block S2.out.rep.mac
  have cO : ∀ O, (w2.alloc O).cell? ⟨l.Q, 35, none⟩ = some vo := fun O => (World.cell?_alloc_lt _ _ _ hmb).trans c35
  have hown := S2.out.rep.out
  rw [← hvo] at hown
  have HOW := Lib.hid hown
  clear hvo hown
  have hbw := S2.out.rep.bs
  have hlo := HK.out.2.2
  go_wp2_with (first
    | (at_builtin; refine wpList_append_at rfl _ _ 23 rfl base 5 j0 (.int .u8 0) 1 Tryd.underlying23 hj hz0 hz1 hz2 rfl _ _ _ rfl (HOW.out.alloc _) ⟨w2.heap.size, 0, none⟩ 1 (.int .u8 ((ra : Int) % 256)) rfl (by simp) rfl (by omega) (by omega) (by simp; omega) ?_)
    | fail)
  · intro v' w5 hown' hgrow hwh
    obtain ⟨va, vk, vc, rfl⟩ : ∃ a k c, v' = .slice a k c := by rcases hown'.2 with ⟨h, -⟩ | ⟨g, cap, cur, h, -⟩ <;> exact ⟨_, _, _, h⟩
    have h5 := qapp_end (S2.out.rep) HVO.out.symm rfl ((ra : Int) % 256) (by omega) hown' hgrow (hwh.imp id (fun hw k hk => by have := hw k hk; first | omega | (simp at this; omega)))
    obtain ⟨hm5, fm5, s5⟩ := h5
    have c5 := s5.rep.c33
    have f5 := s5.rep.fQ 33
    have S5 := Lib.hid s5
    clear hown' hgrow hwh cO s5 hbw
    go_wp2_with fail
    go_returns
    exact ⟨rfl, _, by rw [HE.out, HR.out]; exact q_end (S2.out.trans S5.out) rfl ⟨hn0, hn1⟩⟩
end Go.Proofs.YtknnmacmohpanaaDoor
