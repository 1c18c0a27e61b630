/- Contracts: instructions on the document's machine that reckon. Conditions: the machine lies as told. -/
import Derived.Test.YtknnmacmohpanaaDoorMaQa
import Derived.StillTailTactics
namespace Go.Proofs.YtknnmacmohpanaaDoor
open Go.RowKit
set_option linter.unusedVariables false
set_option linter.unusedSimpArgs false
set_option maxRecDepth 100000 in
set_option maxHeartbeats 8000000 in
theorem rdo_reg {base : Nat} {w : World} {l : QL} {m : MS} {Q : Nat} (h : QRep base w l m) (hQ : l.Q = Q) (op : Int) (D A B : Nat) (imm : Int) (hk : OkF op D A B imm) (ho : m.out.length ≤ 1000000) (c14 : op ≤ 14) :
    Calls Tryd.prog 34 #[.pointer (some ⟨Q, 0, none⟩), .agg #[.int .i64 op, .int .i64 D, .int .i64 A, .int .i64 B, .int .i64 imm]] w fun e w' => e = .returned (.tuple #[]) ∧ ∃ l', QStp base w w' l l' (m.ex op D (m.regs A) (m.regs B) (imm % 4294967296)) := by
  subst hQ
  obtain ⟨o0, o1, hD, hA, hB, i0, i1, hreg, hnum⟩ := hk
  have HK := Lib.hid (And.intro hreg (And.intro hnum ho))
  have HH := Lib.hid h
  clear hreg hnum ho h
  go_enter Tryd.func34, Tryd.ntmps34
  go_upto_region 1 with fail
  obtain ⟨w0, hw0⟩ : ∃ w0, w0 = w.alloc (.cells #[.int .i64 op, .int .i64 D, .int .i64 A, .int .i64 B, .int .i64 imm] 55) := ⟨_, rfl⟩
  have hX := heap_new w (.cells #[.int .i64 op, .int .i64 D, .int .i64 A, .int .i64 B, .int .i64 imm] 55)
  have hb0 : Below w.heap.size w w0 := by rw [hw0]; exact (Below.refl _ _).alloc (Nat.le_refl _) _
  rw [← hw0] at hX ⊢
  clear hw0
  obtain ⟨X, hXe⟩ : ∃ X, X = w.heap.size := ⟨_, rfl⟩
  rw [← hXe] at hX ⊢
  have s0 : QStp base w w0 l l m := (QStp.refl HH.out).grow hb0
  have hnf : ¬ l.fp X := fun hf => by have := HH.out.lt hf; omega
  obtain ⟨ra, hra⟩ : ∃ n : Nat, m.regs A = n := ⟨(m.regs A).toNat, by have := HH.out.ok.regs A; omega⟩
  obtain ⟨rb, hrb⟩ : ∃ n : Nat, m.regs B = n := ⟨(m.regs B).toNat, by have := HH.out.ok.regs B; omega⟩
  have ra1 : ra < 4294967296 := by have := HH.out.ok.regs A; omega
  have rb1 : rb < 4294967296 := by have := HH.out.ok.regs B; omega
  obtain ⟨x0, x1, x2, x3, x4⟩ := X5.of hX
  have HX := Lib.hid (And.intro hnf (And.intro hra hrb))
  have cA := s0.rep.cr A hA
  have cB := s0.rep.cr B hB
  rw [hra] at cA
  rw [hrb] at cB
  have c33 := s0.rep.c33
  obtain ⟨pl, hpl⟩ : ∃ n : Nat, m.place = n := ⟨m.place.toNat, by have := HH.out.ok.place; omega⟩
  have pl1 : pl < 4294967296 := by have := HH.out.ok.place; omega
  rw [hpl] at c33
  have S0 := Lib.hid s0
  have HP := Lib.hid hpl
  clear s0 hX hb0 hXe hnf hra hrb hpl HH
  have hA2 : (A : Int) < 32 := by omega
  have hB2 : (B : Int) < 32 := by omega
  go_quiet (fail)
  obtain ⟨w1, hw1⟩ : ∃ w1, w1 = w0.drewN nq := ⟨_, rfl⟩
  have S1 : QStp base w w1 l l m := by rw [hw1]; exact S0.out.grow (below_drewN (Below.refl _ _) nq)
  replace S1 := Lib.hid S1
  replace x0 : w1.cell? ⟨X, 0, none⟩ = some (.int .i64 op) := by rw [hw1]; exact x0
  replace x1 : w1.cell? ⟨X, 1, none⟩ = some (.int .i64 D) := by rw [hw1]; exact x1
  replace x3 : w1.cell? ⟨X, 3, none⟩ = some (.int .i64 B) := by rw [hw1]; exact x3
  replace x4 : w1.cell? ⟨X, 4, none⟩ = some (.int .i64 imm) := by rw [hw1]; exact x4
  replace cB : w1.cell? ⟨l.Q, B, none⟩ = some (.int .u32 rb) := by rw [hw1]; exact cB
  replace c33 : w1.cell? ⟨l.Q, 33, none⟩ = some (.int .u32 pl) := by rw [hw1]; exact c33
  rw [← hw1]
  clear hw1 x2 cA S0
  go_upto_region 2 with fail
  go_quiet (fail)
  obtain ⟨w2, hw2⟩ : ∃ w2, w2 = w1.drewN nq := ⟨_, rfl⟩
  have S2 : QStp base w w2 l l m := by rw [hw2]; exact S1.out.grow (below_drewN (Below.refl _ _) nq)
  replace S2 := Lib.hid S2
  replace x0 : w2.cell? ⟨X, 0, none⟩ = some (.int .i64 op) := by rw [hw2]; exact x0
  replace x1 : w2.cell? ⟨X, 1, none⟩ = some (.int .i64 D) := by rw [hw2]; exact x1
  replace x4 : w2.cell? ⟨X, 4, none⟩ = some (.int .i64 imm) := by rw [hw2]; exact x4
  replace c33 : w2.cell? ⟨l.Q, 33, none⟩ = some (.int .u32 pl) := by rw [hw2]; exact c33
  rw [← hw2]
  clear hw2 x3 cB S1
  go_upto_region 7 with (go_at_call 58; refine (rword _ _ (by omega) (by omega)).mono ?_; rintro e w' ⟨rfl, rfl⟩)
  obtain ⟨i, hi⟩ : ∃ i, i = imm % 4294967296 := ⟨_, rfl⟩
  obtain ⟨nx, hnx⟩ : ∃ nx, nx = ((pl : Int) + 1) % 4294967296 := ⟨_, rfl⟩
  obtain ⟨T, hT⟩ : ∃ T : Nat, ((ra : Int) + imm) % 4294967296 = T := ⟨(((ra : Int) + imm) % 4294967296).toNat, by omega⟩
  have hir : 0 ≤ i ∧ i < 4294967296 := by omega
  have hnr : 0 ≤ nx ∧ nx < 4294967296 := by omega
  have hTr : T < 4294967296 := by omega
  have HE : Hid (m.ex op D (m.regs A) (m.regs B) (imm % 4294967296) = m.ex op D ra rb i) := by unfold Hid; rw [HX.out.2.1, HX.out.2.2, hi]
  have HPL : Hid ((m.place + 1) % 4294967296 = nx) := by unfold Hid; rw [HP.out, hnx]
  have HT : Hid (((ra : Int) + i) % 4294967296 = T) := by unfold Hid; rw [← hT, hi]; omega
  have HI := Lib.hid hi
  rw [← hi, ← hnx, hT]
  clear hi hnx hT HP hA2 hB2 hA hB
  obtain ⟨hi0, hi1⟩ := hir
  obtain ⟨hn0, hn1⟩ := hnr
  have hi : i = 0 := by have := HK.out.1 c14; have := HI.out; omega
  subst hi
  by_cases hz : rb = 0 ∧ (op = 5 ∨ op = 6)
  · obtain ⟨hb0, h56⟩ := hz
    have HR : Hid (m.ex op D ra rb 0 = m.stop 4) := by unfold Hid; rw [hb0]; exact ex_div0 m op D ra 0 h56
    subst hb0
    have hst := rfall_at S2.out.rep rfl 4 (by decide)
    have HF := Lib.hid hst
    clear hst
    rcases h56 with rfl | rfl
    all_goals
      go_wp2_with fail
      refine HF.out.mono ?_
      rintro e w5 ⟨rfl, s5⟩
      have S5 := Lib.hid s5
      clear s5
      go_wp2_with fail
      go_returns
      exact ⟨rfl, l, by rw [HE.out, HR.out]; exact S2.out.trans S5.out⟩
  · have hz2 : op = 5 ∨ op = 6 → rb ≠ 0 := fun h e => hz ⟨e, h⟩
    have hrr := rk_range op ra rb (by omega) (by omega) (by omega) (by omega) (fun h e => hz2 h (by omega))
    have HR : Hid (m.ex op D ra rb 0 = m.go1 D (rk op ra rb) nx) := by unfold Hid; rw [← HPL.out]; exact ex_reg m op D ra rb o0 c14 (by omega) (fun h => hz ⟨by omega, h.2⟩)
    have hrk := fun w => reckon_at op ra rb w o0 c14 hz2 ra1 rb1
    obtain ⟨rr, hrre⟩ : ∃ rr, rr = rk op ra rb := ⟨_, rfl⟩
    rw [← hrre] at hrr HR
    simp only [← hrre] at hrk
    have HC := Lib.hid (And.intro hrk (And.intro (rput_at (S2.out.rep.drew) rfl D hD rr hrr) hz2))
    clear hz hz2 hrk hrr hrre
    go_upto_region 8 with fail
    go_cut [56] (fun c wx => wx = w2 ∧ c = .bool false)
    case first =>
      by_cases hb : rb = 0
      · have e5 : (op == 5) = false := beq_eq_false_iff_ne.2 (fun e => HC.out.2.2 (Or.inl e) hb)
        have e6 : (op == 6) = false := beq_eq_false_iff_ne.2 (fun e => HC.out.2.2 (Or.inr e) hb)
        have d5 : op ≠ 5 := fun e => HC.out.2.2 (Or.inl e) hb
        have d6 : op ≠ 6 := fun e => HC.out.2.2 (Or.inr e) hb
        subst hb
        go_wp2_with fail
        go_meet
        case rel => exact ⟨rfl, rfl⟩
      · have e : ((rb : Int) == 0) = false := beq_eq_false_iff_ne.2 (by omega)
        have e2 : ¬ ((rb : Int) = 0) := by omega
        go_wp2_with fail
        go_meet
        case rel => exact ⟨rfl, rfl⟩
    case rest =>
      obtain ⟨rfl, rfl⟩ := hcut
      go_upto_region 10 with fail
      go_region_with (first
        | (go_at_call 60; refine (HC.out.1 _).mono ?_; rintro e w' ⟨rfl, rfl⟩)
        | (go_at_call 59; refine HC.out.2.1.mono ?_; rintro e w5 ⟨rfl, s5⟩; have c5 := s5.rep.c33; have f5 := s5.rep.fQ 33))
      all_goals
        have S5 := Lib.hid s5
        clear s5
        go_wp2_with fail
        go_returns
        exact ⟨rfl, l, by rw [HE.out, HR.out]; exact q_end (S2.out.trans ((QStp.refl S2.out.rep).grow (Below.refl _ _).drew |>.trans S5.out)) rfl ⟨hn0, hn1⟩⟩

set_option maxRecDepth 100000 in
set_option maxHeartbeats 8000000 in
theorem rdo_num {base : Nat} {w : World} {l : QL} {m : MS} {Q : Nat} (h : QRep base w l m) (hQ : l.Q = Q) (op : Int) (D A B : Nat) (imm : Int) (hk : OkF op D A B imm) (ho : m.out.length ≤ 1000000) (c15 : 15 ≤ op) (c22 : op ≤ 22) :
    Calls Tryd.prog 34 #[.pointer (some ⟨Q, 0, none⟩), .agg #[.int .i64 op, .int .i64 D, .int .i64 A, .int .i64 B, .int .i64 imm]] w fun e w' => e = .returned (.tuple #[]) ∧ ∃ l', QStp base w w' l l' (m.ex op D (m.regs A) (m.regs B) (imm % 4294967296)) := by
  subst hQ
  obtain ⟨o0, o1, hD, hA, hB, i0, i1, hreg, hnum⟩ := hk
  have HK := Lib.hid (And.intro hreg (And.intro hnum ho))
  have HH := Lib.hid h
  clear hreg hnum ho h
  go_enter Tryd.func34, Tryd.ntmps34
  go_upto_region 1 with fail
  obtain ⟨w0, hw0⟩ : ∃ w0, w0 = w.alloc (.cells #[.int .i64 op, .int .i64 D, .int .i64 A, .int .i64 B, .int .i64 imm] 55) := ⟨_, rfl⟩
  have hX := heap_new w (.cells #[.int .i64 op, .int .i64 D, .int .i64 A, .int .i64 B, .int .i64 imm] 55)
  have hb0 : Below w.heap.size w w0 := by rw [hw0]; exact (Below.refl _ _).alloc (Nat.le_refl _) _
  rw [← hw0] at hX ⊢
  clear hw0
  obtain ⟨X, hXe⟩ : ∃ X, X = w.heap.size := ⟨_, rfl⟩
  rw [← hXe] at hX ⊢
  have s0 : QStp base w w0 l l m := (QStp.refl HH.out).grow hb0
  have hnf : ¬ l.fp X := fun hf => by have := HH.out.lt hf; omega
  obtain ⟨ra, hra⟩ : ∃ n : Nat, m.regs A = n := ⟨(m.regs A).toNat, by have := HH.out.ok.regs A; omega⟩
  obtain ⟨rb, hrb⟩ : ∃ n : Nat, m.regs B = n := ⟨(m.regs B).toNat, by have := HH.out.ok.regs B; omega⟩
  have ra1 : ra < 4294967296 := by have := HH.out.ok.regs A; omega
  have rb1 : rb < 4294967296 := by have := HH.out.ok.regs B; omega
  obtain ⟨x0, x1, x2, x3, x4⟩ := X5.of hX
  have HX := Lib.hid (And.intro hnf (And.intro hra hrb))
  have cA := s0.rep.cr A hA
  have cB := s0.rep.cr B hB
  rw [hra] at cA
  rw [hrb] at cB
  have c33 := s0.rep.c33
  obtain ⟨pl, hpl⟩ : ∃ n : Nat, m.place = n := ⟨m.place.toNat, by have := HH.out.ok.place; omega⟩
  have pl1 : pl < 4294967296 := by have := HH.out.ok.place; omega
  rw [hpl] at c33
  have S0 := Lib.hid s0
  have HP := Lib.hid hpl
  clear s0 hX hb0 hXe hnf hra hrb hpl HH
  have hA2 : (A : Int) < 32 := by omega
  have hB2 : (B : Int) < 32 := by omega
  go_quiet (fail)
  obtain ⟨w1, hw1⟩ : ∃ w1, w1 = w0.drewN nq := ⟨_, rfl⟩
  have S1 : QStp base w w1 l l m := by rw [hw1]; exact S0.out.grow (below_drewN (Below.refl _ _) nq)
  replace S1 := Lib.hid S1
  replace x0 : w1.cell? ⟨X, 0, none⟩ = some (.int .i64 op) := by rw [hw1]; exact x0
  replace x1 : w1.cell? ⟨X, 1, none⟩ = some (.int .i64 D) := by rw [hw1]; exact x1
  replace x3 : w1.cell? ⟨X, 3, none⟩ = some (.int .i64 B) := by rw [hw1]; exact x3
  replace x4 : w1.cell? ⟨X, 4, none⟩ = some (.int .i64 imm) := by rw [hw1]; exact x4
  replace cB : w1.cell? ⟨l.Q, B, none⟩ = some (.int .u32 rb) := by rw [hw1]; exact cB
  replace c33 : w1.cell? ⟨l.Q, 33, none⟩ = some (.int .u32 pl) := by rw [hw1]; exact c33
  rw [← hw1]
  clear hw1 x2 cA S0
  go_upto_region 2 with fail
  go_quiet (fail)
  obtain ⟨w2, hw2⟩ : ∃ w2, w2 = w1.drewN nq := ⟨_, rfl⟩
  have S2 : QStp base w w2 l l m := by rw [hw2]; exact S1.out.grow (below_drewN (Below.refl _ _) nq)
  replace S2 := Lib.hid S2
  replace x0 : w2.cell? ⟨X, 0, none⟩ = some (.int .i64 op) := by rw [hw2]; exact x0
  replace x1 : w2.cell? ⟨X, 1, none⟩ = some (.int .i64 D) := by rw [hw2]; exact x1
  replace x4 : w2.cell? ⟨X, 4, none⟩ = some (.int .i64 imm) := by rw [hw2]; exact x4
  replace c33 : w2.cell? ⟨l.Q, 33, none⟩ = some (.int .u32 pl) := by rw [hw2]; exact c33
  rw [← hw2]
  clear hw2 x3 cB S1
  go_upto_region 7 with (go_at_call 58; refine (rword _ _ (by omega) (by omega)).mono ?_; rintro e w' ⟨rfl, rfl⟩)
  obtain ⟨i, hi⟩ : ∃ i, i = imm % 4294967296 := ⟨_, rfl⟩
  obtain ⟨nx, hnx⟩ : ∃ nx, nx = ((pl : Int) + 1) % 4294967296 := ⟨_, rfl⟩
  obtain ⟨T, hT⟩ : ∃ T : Nat, ((ra : Int) + imm) % 4294967296 = T := ⟨(((ra : Int) + imm) % 4294967296).toNat, by omega⟩
  have hir : 0 ≤ i ∧ i < 4294967296 := by omega
  have hnr : 0 ≤ nx ∧ nx < 4294967296 := by omega
  have hTr : T < 4294967296 := by omega
  have HE : Hid (m.ex op D (m.regs A) (m.regs B) (imm % 4294967296) = m.ex op D ra rb i) := by unfold Hid; rw [HX.out.2.1, HX.out.2.2, hi]
  have HPL : Hid ((m.place + 1) % 4294967296 = nx) := by unfold Hid; rw [HP.out, hnx]
  have HT : Hid (((ra : Int) + i) % 4294967296 = T) := by unfold Hid; rw [← hT, hi]; omega
  have HI := Lib.hid hi
  rw [← hi, ← hnx, hT]
  clear hi hnx hT HP hA2 hB2 hA hB
  obtain ⟨hi0, hi1⟩ := hir
  obtain ⟨hn0, hn1⟩ := hnr
  have hb0 : op ≤ 23 → rb = 0 := fun h => by
    have e := HX.out.2.2
    rw [HK.out.2.1 (by omega) h] at e
    have := S2.out.rep.ok.zero
    omega
  have HB0 := Lib.hid hb0
  clear hb0
  have HR : Hid (m.ex op D ra rb i = m.go1 D (rk (rlike op) ra i) nx) := by unfold Hid; rw [← HPL.out, HB0.out (by omega)]; exact ex_num m op D ra i (by omega) c22 ⟨hi0, hi1⟩
  obtain ⟨n, hne⟩ : ∃ n : Nat, i = n := ⟨i.toNat, by omega⟩
  subst hne
  have hrl : 1 ≤ rlike op ∧ rlike op ≤ 14 ∧ ¬ (rlike op = 5 ∨ rlike op = 6) := by unfold rlike; split <;> omega
  have hrr := rk_range (rlike op) ra n (by omega) (by omega) (by omega) (by omega) (fun h => absurd h hrl.2.2)
  have hrk := fun w => reckon_at (rlike op) ra n w hrl.1 hrl.2.1 (fun h => absurd h hrl.2.2) ra1 (by omega)
  have hlk := fun w => rlike_at op w (by omega) c22
  obtain ⟨rr, hrre⟩ : ∃ rr, rr = rk (rlike op) ra n := ⟨_, rfl⟩
  obtain ⟨ol, hol⟩ : ∃ ol, ol = rlike op := ⟨_, rfl⟩
  rw [← hrre] at hrr HR
  simp only [← hrre] at hrk
  simp only [← hol] at hrk hlk
  have HC := Lib.hid (And.intro hrk (And.intro hlk (show ∀ w', Below w2.heap.size w2 w' → Calls Tryd.prog 59 #[.pointer (some ⟨l.Q, 0, none⟩), .int .i64 D, .int .u32 rr] w' fun e w'' => e = .returned (.tuple #[]) ∧ QStp base w' w'' l l (m.setR D rr) from fun w' hb => rput_at (S2.out.rep.below hb) rfl D hD rr hrr)))
  have HXb := Lib.hid (show ∀ w', Below w2.heap.size w2 w' → w'.cell? ⟨X, 1, none⟩ = some (.int .i64 D) from fun w' hb => (hb.cell (p := ⟨X, 1, none⟩) (World.block_lt_of_cell? w2 _ x1)).trans x1)
  clear hrl hrk hlk hrr hrre hol
  have d14 : decide (op ≤ 14) = false := by simp; omega
  have d22 : decide (op ≤ 22) = true := by simp; omega
  have C15 := Lib.hid c15
  clear c15
  go_upto_region 12 with fail
  go_region_with (first
    | (go_at_call 61; refine (HC.out.2.1 _).mono ?_; rintro e w4 ⟨rfl, hb4⟩; have B4 := (Below.refl w2.heap.size w2).drew.trans hb4; have z1 := HXb.out _ B4)
    | (go_at_call 60; refine (HC.out.1 _).mono ?_; rintro e w' ⟨rfl, rfl⟩)
    | (go_at_call 59; refine (HC.out.2.2 _ B4).mono ?_; rintro e w5 ⟨rfl, s5⟩; have c5 := s5.rep.c33; have f5 := s5.rep.fQ 33))
  all_goals
    have S5 := Lib.hid (And.intro s5 B4)
    clear s5 B4 hb4
    go_wp2_with fail
    go_returns
    exact ⟨rfl, l, by rw [HE.out, HR.out]; exact q_end (S2.out.trans ((QStp.refl S2.out.rep).grow S5.out.2 |>.trans S5.out.1)) rfl ⟨hn0, hn1⟩⟩
end Go.Proofs.YtknnmacmohpanaaDoor
