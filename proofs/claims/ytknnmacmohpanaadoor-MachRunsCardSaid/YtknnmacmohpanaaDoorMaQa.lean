/- What writes the document's machine, what it reckons, what an instruction does, piece by piece. Conditions: it lies as told; words are in their range. -/
import Derived.Test.YtknnmacmohpanaaDoorMaY
import Derived.Test.YtknnmacmohpanaaDoorMaT
namespace Go.Proofs.YtknnmacmohpanaaDoor
open Go.RowKit
set_option linter.unusedVariables false
set_option linter.unusedSimpArgs false
/-- The document's machine has changed, and nothing else that was there. -/
structure QStp (base : Nat) (w w' : World) (l l' : QL) (m' : MS) : Prop where
  rep : QRep base w' l' m'
  Q : l'.Q = l.Q
  chg : Chg l.fp w w'
  new : ∀ k, l'.fp k → l.fp k ∨ w.heap.size ≤ k
theorem QStp.trans {base : Nat} {w w1 w2 : World} {l l1 l2 : QL} {m1 m2 : MS} (s : QStp base w w1 l l1 m1) (t : QStp base w1 w2 l1 l2 m2) : QStp base w w2 l l2 m2 where
  rep := t.rep
  Q := t.Q.trans s.Q
  chg := s.chg.trans t.chg s.new
  new := fun k hk => (t.new k hk).elim (s.new k) (fun h => Or.inr (Nat.le_trans s.chg.size h))
theorem QStp.refl {base : Nat} {w : World} {l : QL} {m : MS} (h : QRep base w l m) : QStp base w w l l m := ⟨h, rfl, Chg.refl _ _, fun _ h => Or.inl h⟩
theorem QStp.own {base : Nat} {w w' : World} {l : QL} {m' : MS} (h : QRep base w' l m' ∧ Chg (fun k => k = l.Q) w w') : QStp base w w' l l m' := ⟨h.1, rfl, h.2.mono (fun _ e => Or.inl e), fun _ h => Or.inl h⟩
theorem QStp.grow {base : Nat} {w w1 w2 : World} {l l1 : QL} {m1 : MS} (s : QStp base w w1 l l1 m1) (hb : Below w1.heap.size w1 w2) : QStp base w w2 l l1 m1 :=
  s.trans ⟨s.rep.below hb, rfl, (Chg.of_below hb : Chg l1.fp w1 w2), fun _ h => Or.inl h⟩

theorem qcell_upd {l : QL} {m m' : MS} {i : Nat} {x : Value} (h : ∀ j, j < 40 → j ≠ i → qcell l m j = qcell l m' j) (hi : qcell l m' i = x) : ∀ j, j < 40 → updF (qcell l m) i x j = qcell l m' j := by
  intro j hl
  by_cases hj : j = i
  · subst hj; rw [updF_same, hi]
  · rw [updF_other _ _ hj, h j hl hj]
theorem qupd_place (l : QL) (m : MS) (s : Int) : ∀ j, j < 40 → updF (qcell l m) 33 (.int .u32 s) j = qcell l { m with place := s } j :=
  qcell_upd (fun j hl hj => by unfold qcell; (repeat' split) <;> (first | rfl | omega)) rfl
theorem qupd_state (l : QL) (m : MS) (s : Int) : ∀ j, j < 40 → updF (qcell l m) 36 (.int .i64 s) j = qcell l { m with state := s } j :=
  qcell_upd (fun j hl hj => by unfold qcell; (repeat' split) <;> (first | rfl | omega)) rfl
theorem qupd_code (l : QL) (m : MS) (s : Int) : ∀ j, j < 40 → updF (qcell l m) 37 (.int .u32 s) j = qcell l { m with code := s } j :=
  qcell_upd (fun j hl hj => by unfold qcell; (repeat' split) <;> (first | rfl | omega)) rfl
theorem qupd_trap (l : QL) (m : MS) (s : Int) : ∀ j, j < 40 → updF (qcell l m) 38 (.int .i64 s) j = qcell l { m with trap := s } j :=
  qcell_upd (fun j hl hj => by unfold qcell; (repeat' split) <;> (first | rfl | omega)) rfl
theorem qupd_steps (l : QL) (m : MS) (s : Int) : ∀ j, j < 40 → updF (qcell l m) 39 (.int .i64 s) j = qcell l { m with steps := s } j :=
  qcell_upd (fun j hl hj => by unfold qcell; (repeat' split) <;> (first | rfl | omega)) rfl
/-- One cell of its block is written, which neither tells of its memory, its input nor its output. -/
theorem QRep.cell1 {base : Nat} {w : World} {l : QL} {m m' : MS} (h : QRep base w l m) (i : Nat) (x : Value) (hi : i < 40) (hx : ∀ j, j < 40 → updF (qcell l m) i x j = qcell l m' j) (ok : MOk m') (hsz : m'.size = m.size) (hmem : m'.mem = m.mem) (hinp : m'.inp = m.inp) (hout : m'.out = m.out) :
    QStp base w (w.setCell ⟨l.Q, i, none⟩ x) l l m' := by
  have hc : Chg (fun k => k = l.Q) w (w.setCell ⟨l.Q, i, none⟩ x) := (Chg.refl _ _).setCell _ _ (Or.inl rfl)
  exact QStp.own ⟨h.upd hc (set_blockF h.mac hi hx) ok hsz hmem hinp hout, hc⟩
namespace QRep
variable {base : Nat} {w : World} {l : QL} {m : MS}
theorem cr (h : QRep base w l m) (i : Nat) (hi : i < 32) : w.cell? ⟨l.Q, i, none⟩ = some (.int .u32 (m.regs i)) := cellV h.mac i (by omega) (by unfold qcell; rw [if_pos hi])
theorem c32 (h : QRep base w l m) : w.cell? ⟨l.Q, 32, none⟩ = some (.slice (some ⟨l.B, 0, none⟩) m.size m.size) := cellV h.mac 32 (by decide) rfl
theorem c33 (h : QRep base w l m) : w.cell? ⟨l.Q, 33, none⟩ = some (.int .u32 m.place) := cellV h.mac 33 (by decide) rfl
theorem c34 (h : QRep base w l m) : w.cell? ⟨l.Q, 34, none⟩ = some l.vi := cellV h.mac 34 (by decide) rfl
theorem c35 (h : QRep base w l m) : w.cell? ⟨l.Q, 35, none⟩ = some l.vo := cellV h.mac 35 (by decide) rfl
theorem c36 (h : QRep base w l m) : w.cell? ⟨l.Q, 36, none⟩ = some (.int .i64 m.state) := cellV h.mac 36 (by decide) rfl
theorem c37 (h : QRep base w l m) : w.cell? ⟨l.Q, 37, none⟩ = some (.int .u32 m.code) := cellV h.mac 37 (by decide) rfl
theorem c38 (h : QRep base w l m) : w.cell? ⟨l.Q, 38, none⟩ = some (.int .i64 m.trap) := cellV h.mac 38 (by decide) rfl
theorem c39 (h : QRep base w l m) : w.cell? ⟨l.Q, 39, none⟩ = some (.int .i64 m.steps) := cellV h.mac 39 (by decide) rfl
theorem cm (h : QRep base w l m) (i : Nat) (hi : i < m.size) : w.cell? ⟨l.B, i, none⟩ = some (.int .u32 (m.mem i)) := cellV h.mem i hi rfl
theorem fQ (h : QRep base w l m) (i : Nat) : w.frozen? ⟨l.Q, i, none⟩ = false := freeF h.mac i
theorem fB (h : QRep base w l m) (i : Nat) : w.frozen? ⟨l.B, i, none⟩ = false := freeF h.mem i
end QRep

set_option maxRecDepth 100000 in
set_option maxHeartbeats 1000000 in
theorem rfall_at {base : Nat} {w : World} {l : QL} {m : MS} {Q : Nat} (h : QRep base w l m) (hQ : l.Q = Q) (n : Int) (hn : 0 ≤ n ∧ n ≤ 4) :
    Calls Tryd.prog 32 #[.pointer (some ⟨Q, 0, none⟩), .int .i64 n] w fun e w' => e = .returned (.tuple #[]) ∧ QStp base w w' l l (m.stop n) := by
  subst hQ
  have c1 := h.c36
  have c2 := h.c38
  have f := h.fQ
  have H := Lib.hid (And.intro h hn)
  clear h hn
  go_enter Tryd.func32, Tryd.ntmps32
  go_wp2
  go_returns
  obtain ⟨h, hn⟩ := H.out
  refine ⟨rfl, ?_⟩
  have s1 := h.cell1 36 (.int .i64 2) (by decide) (qupd_state l m 2) ⟨h.ok.regs, h.ok.zero, h.ok.size, h.ok.mem, h.ok.place, ⟨show (0 : Int) ≤ 2 by decide, show (2 : Int) ≤ 2 by decide⟩, h.ok.code, h.ok.trap, h.ok.steps, h.ok.inp, h.ok.ilen, h.ok.out⟩ rfl rfl rfl rfl
  exact s1.trans (s1.rep.cell1 38 (.int .i64 n) (by decide) (qupd_trap l _ n) (h.ok.stop n hn) rfl rfl rfl rfl)

set_option maxRecDepth 100000 in
set_option maxHeartbeats 1000000 in
theorem rput_at {base : Nat} {w : World} {l : QL} {m : MS} {Q : Nat} (h : QRep base w l m) (hQ : l.Q = Q) (d : Nat) (hd : d < 32) (x : Int) (hx : 0 ≤ x ∧ x < 4294967296) :
    Calls Tryd.prog 59 #[.pointer (some ⟨Q, 0, none⟩), .int .i64 d, .int .u32 x] w fun e w' => e = .returned (.tuple #[]) ∧ QStp base w w' l l (m.setR d x) := by
  subst hQ
  have c1 := h.cr d hd
  have f := h.fQ
  have H := Lib.hid (And.intro h hx)
  clear h hx
  go_enter Tryd.func59, Tryd.ntmps59
  by_cases h0 : d = 0
  · subst h0
    go_wp2
    go_returns
    refine ⟨rfl, ?_⟩
    exact QStp.refl H.out.1
  · have hp : decide (0 < (d : Int)) = true := by simp; omega
    go_wp2
    go_returns
    obtain ⟨h, hx⟩ := H.out
    exact ⟨rfl, QStp.own (h.setR d x hd h0 hx)⟩

def rlike (op : Int) : Int := if op = 15 then 1 else op - 9
set_option maxRecDepth 100000 in
set_option maxHeartbeats 1000000 in
theorem rlike_at (op : Int) (w : World) (h0 : 15 ≤ op) (h1 : op ≤ 22) : Calls Tryd.prog 61 #[.int .i64 op] w fun e w' => e = .returned (.int .i64 (rlike op)) ∧ Below w.heap.size w w' := by
  rcases (show op = 15 ∨ op = 16 ∨ op = 17 ∨ op = 18 ∨ op = 19 ∨ op = 20 ∨ op = 21 ∨ op = 22 by omega) with rfl | rfl | rfl | rfl | rfl | rfl | rfl | rfl
  all_goals
    go_enter Tryd.func61, Tryd.ntmps61
    go_wp2
    go_ret
    exact ⟨rfl, (Below.refl _ _).alloc (Nat.le_refl _) _⟩

def rk (op a b : Int) : Int := if op = 5 ∨ op = 6 then divd op a b else comp op a b
theorem pow_range (n : Int) : 1 ≤ (2 : Int) ^ (n % 32).toNat ∧ (2 : Int) ^ (n % 32).toNat ≤ 2147483648 := by
  have hk : (n % 32).toNat ≤ 31 := by omega
  generalize (n % 32).toNat = k at *
  have h2 : (2 : Int) ^ k = ((2 ^ k : Nat) : Int) := by simp
  have h3 := Nat.two_pow_pos k
  have h4 : 2 ^ k ≤ 2 ^ 31 := Nat.pow_le_pow_right (by decide) hk
  rw [h2]
  omega
theorem mul_pow {a p : Int} (a0 : 0 ≤ a) (a1 : a < 4294967296) (p0 : 1 ≤ p) (p1 : p ≤ 2147483648) : 0 ≤ a * p ∧ a * p < 18446744073709551616 := mul_bound a0 a1 (by omega) (by omega)
theorem rk_both (K A B : Nat) (a1 : A < 4294967296) (b1 : B < 4294967296) (hK : K < 3) : ((opN K A B : Nat) : Int) = rk (7 + K) A B := by
  rcases (show K = 0 ∨ K = 1 ∨ K = 2 by omega) with rfl | rfl | rfl
  · exact (u32_and_nat A B a1 b1).symm
  · exact (u32_or_nat A B a1 b1).symm
  · exact (u32_xor_nat A B a1 b1).symm

theorem rk12 (a b : Int) : rk 12 a b = sgn a / (2 : Int) ^ (b % 32).toNat % 4294967296 := by
  unfold rk comp
  rw [if_neg (by decide), if_neg (by decide), if_neg (by decide), if_neg (by decide), if_neg (by decide), if_neg (by decide), if_neg (by decide), if_neg (by decide), if_neg (by decide), if_neg (by decide), if_pos (by decide)]
theorem rk13 (a b : Int) : rk 13 a b = if sgn a < sgn b then (1 : Int) else 0 := by
  unfold rk comp
  rw [if_neg (by decide), if_neg (by decide), if_neg (by decide), if_neg (by decide), if_neg (by decide), if_neg (by decide), if_neg (by decide), if_neg (by decide), if_neg (by decide), if_neg (by decide), if_neg (by decide), if_pos (by decide)]
theorem sdiv_range {s p : Int} (h0 : -2147483648 ≤ s) (h1 : s < 2147483648) (p0 : 1 ≤ p) : -2147483648 ≤ s / p ∧ s / p < 2147483648 := by
  refine ⟨?_, Int.ediv_lt_of_lt_mul (by omega) ?_⟩
  · rw [Int.le_ediv_iff_mul_le (by omega)]
    have : -2147483648 * p ≤ -2147483648 * 1 := Int.mul_le_mul_of_nonpos_left (by omega) (by omega)
    omega
  · have : 2147483648 * 1 ≤ 2147483648 * p := Int.mul_le_mul_of_nonneg_left (by omega) (by omega)
    omega
set_option maxRecDepth 100000 in
set_option maxHeartbeats 2000000 in
theorem reckon_at (op : Int) (A B : Nat) (w : World) (h0 : 1 ≤ op) (h1 : op ≤ 14) (hz : op = 5 ∨ op = 6 → B ≠ 0) (a1 : A < 4294967296) (b1 : B < 4294967296) :
    Calls Tryd.prog 60 #[.int .i64 op, .int .u32 A, .int .u32 B] w fun e w' => e = .returned (.int .u32 (rk op A B)) ∧ w = w' := by
  obtain ⟨p, hp⟩ : ∃ p, p = (2 : Int) ^ ((B : Int) % 32).toNat := ⟨_, rfl⟩
  have hpw : ∀ w, Calls Tryd.prog 74 #[.int .u32 B] w fun e w' => e = .returned (.int .i64 p) ∧ w = w' := fun w => by rw [hp]; exact rpower B w (by omega) (by omega)
  have hpr := pow_range B
  rw [← hp] at hpr
  obtain ⟨p0, p1⟩ := hpr
  have hm := mul_bound (a := A) (b := B) (by omega) (by omega) (by omega) (by omega)
  have hq := mul_pow (a := A) (p := p) (by omega) (by omega) p0 p1
  have HP := Lib.hid (And.intro hp hpw)
  have hpne : (p == 0) = false := beq_eq_false_iff_ne.2 (by omega)
  have hsg := sgn_range (a := A) (by omega) (by omega)
  have hdp : 0 ≤ (A : Int) / p ∧ (A : Int) / p ≤ A := ⟨Int.ediv_nonneg (by omega) (by omega), Int.ediv_le_self _ (by omega)⟩
  have e1 := Int.tmod_eq_emod_of_nonneg (b := 4294967296) hm.1
  have e2 := Int.tdiv_eq_ediv_of_nonneg (b := 4294967296) hm.1
  have e3 := Int.tmod_eq_emod_of_nonneg (b := 4294967296) hq.1
  have e4 := Int.tdiv_eq_ediv_of_nonneg (b := p) (show 0 ≤ (A : Int) by omega)
  have e5 := Int.tdiv_eq_ediv_of_nonneg (b := (B : Int)) (show 0 ≤ (A : Int) by omega)
  have e6 := Int.tmod_eq_emod_of_nonneg (b := (B : Int)) (show 0 ≤ (A : Int) by omega)
  have HA := Lib.hid (And.intro e1 (And.intro e2 (And.intro e3 (And.intro e4 (And.intro e5 e6)))))
  clear hp hpw e1 e2 e3 e4 e5 e6
  rcases (show op = 1 ∨ op = 2 ∨ op = 3 ∨ op = 4 ∨ op = 5 ∨ op = 6 ∨ op = 7 ∨ op = 8 ∨ op = 9 ∨ op = 10 ∨ op = 11 ∨ op = 12 ∨ op = 13 ∨ op = 14 by omega) with rfl | rfl | rfl | rfl | rfl | rfl | rfl | rfl | rfl | rfl | rfl | rfl | rfl | rfl
  · as_aux_lemma =>
    go_enter Tryd.func60, Tryd.ntmps60
    go_wp2_with (go_at_call 58; refine (rword _ _ (by omega) (by omega)).mono ?_; rintro e w' ⟨rfl, rfl⟩)
    go_ret
    exact ⟨rfl, rfl⟩
  · as_aux_lemma =>
    go_enter Tryd.func60, Tryd.ntmps60
    go_wp2_with (go_at_call 58; refine (rword _ _ (by omega) (by omega)).mono ?_; rintro e w' ⟨rfl, rfl⟩)
    go_ret
    exact ⟨rfl, rfl⟩
  · as_aux_lemma =>
    have e1 := HA.out.1
    go_enter Tryd.func60, Tryd.ntmps60
    go_wp2_with fail
    go_ret
    refine ⟨retW ?_, rfl⟩
    show _ = (A : Int) * B % 4294967296
    omega
  · as_aux_lemma =>
    have e1 := HA.out.2.1
    go_enter Tryd.func60, Tryd.ntmps60
    go_wp2_with fail
    go_ret
    refine ⟨retW ?_, rfl⟩
    show _ = (A : Int) * B / 4294967296
    omega
  · as_aux_lemma =>
    have hb0 := hz (Or.inl rfl)
    have hb : ((B : Int) == 0) = false := beq_eq_false_iff_ne.2 (by omega)
    have e1 := HA.out.2.2.2.2.1
    have hb2 : 0 ≤ (A : Int) / B ∧ (A : Int) / B ≤ A := ⟨Int.ediv_nonneg (by omega) (by omega), Int.ediv_le_self _ (by omega)⟩
    clear hz
    go_enter Tryd.func60, Tryd.ntmps60
    go_wp2_with fail
    go_ret
    refine ⟨retW ?_, rfl⟩
    show _ = (A : Int) / B
    omega
  · as_aux_lemma =>
    have hb0 := hz (Or.inr rfl)
    have hb : ((B : Int) == 0) = false := beq_eq_false_iff_ne.2 (by omega)
    have e1 := HA.out.2.2.2.2.2
    have hb2 : 0 ≤ (A : Int) % B ∧ (A : Int) % B < B := ⟨Int.emod_nonneg _ (by omega), Int.emod_lt_of_pos _ (by omega)⟩
    clear hz hb0
    go_enter Tryd.func60, Tryd.ntmps60
    go_wp2_with fail
    go_ret
    refine ⟨retW ?_, rfl⟩
    show _ = (A : Int) % B
    omega
  · as_aux_lemma =>
    go_enter Tryd.func60, Tryd.ntmps60
    go_wp2_with (go_at_call 73; refine (rboth 0 A B _ (by decide) a1 b1).mono ?_; rintro e w' ⟨rfl, rfl⟩)
    go_ret
    exact ⟨retW (rk_both 0 A B a1 b1 (by decide)), rfl⟩
  · as_aux_lemma =>
    go_enter Tryd.func60, Tryd.ntmps60
    go_wp2_with (go_at_call 73; refine (rboth 1 A B _ (by decide) a1 b1).mono ?_; rintro e w' ⟨rfl, rfl⟩)
    go_ret
    exact ⟨retW (rk_both 1 A B a1 b1 (by decide)), rfl⟩
  · as_aux_lemma =>
    go_enter Tryd.func60, Tryd.ntmps60
    go_wp2_with (go_at_call 73; refine (rboth 2 A B _ (by decide) a1 b1).mono ?_; rintro e w' ⟨rfl, rfl⟩)
    go_ret
    exact ⟨retW (rk_both 2 A B a1 b1 (by decide)), rfl⟩
  · as_aux_lemma =>
    have e1 := HA.out.2.2.1
    go_enter Tryd.func60, Tryd.ntmps60
    go_wp2_with (go_at_call 74; refine (HP.out.2 _).mono ?_; rintro e w' ⟨rfl, rfl⟩)
    go_ret
    refine ⟨retW ?_, rfl⟩
    show _ = (A : Int) * (2 : Int) ^ ((B : Int) % 32).toNat % 4294967296
    rw [← HP.out.1]
  · as_aux_lemma =>
    have e1 := HA.out.2.2.2.1
    go_enter Tryd.func60, Tryd.ntmps60
    go_wp2_with (go_at_call 74; refine (HP.out.2 _).mono ?_; rintro e w' ⟨rfl, rfl⟩)
    go_ret
    refine ⟨retW ?_, rfl⟩
    show _ = (A : Int) / (2 : Int) ^ ((B : Int) % 32).toNat
    rw [← HP.out.1]
  · have hs2 := sdiv_range hsg.1 hsg.2 p0
    have h76 : ∀ w, Calls Tryd.prog 76 #[.int .u32 A] w fun e w' => e = .returned (.int .i64 (sgn A)) ∧ w = w' := fun w => rsigned A w (by omega) (by omega)
    have h75 : ∀ w, Calls Tryd.prog 75 #[.int .i64 (sgn A), .int .i64 p] w fun e w' => e = .returned (.int .i64 (sgn A / p)) ∧ w = w' := fun w => rbelow _ _ w hsg.1 hsg.2 p0 p1
    have h58 : ∀ w, Calls Tryd.prog 58 #[.int .i64 (sgn A / p)] w fun e w' => e = .returned (.int .u32 (sgn A / p % 4294967296)) ∧ w = w' := fun w => rword _ w (by omega) (by omega)
    have hres : sgn A / p % 4294967296 = rk 12 A B := by
      rw [rk12, ← HP.out.1]
    have hp := HP.out.2
    generalize sgn A / p % 4294967296 = r at *
    generalize sgn A / p = q at *
    generalize sgn A = s at *
    have HC := Lib.hid (And.intro hp (And.intro h76 (And.intro h75 (And.intro h58 hres))))
    clear HA HP hm hq hdp hz h0 h1 hs2 hsg hp h76 h75 h58 hres hpne p0 p1
    as_aux_lemma =>
    go_enter Tryd.func60, Tryd.ntmps60
    go_wp2_with (first
      | (go_at_call 74; refine (HC.out.1 _).mono ?_; rintro e w' ⟨rfl, rfl⟩)
      | (go_at_call 76; refine (HC.out.2.1 _).mono ?_; rintro e w' ⟨rfl, rfl⟩)
      | (go_at_call 75; refine (HC.out.2.2.1 _).mono ?_; rintro e w' ⟨rfl, rfl⟩)
      | (go_at_call 58; refine (HC.out.2.2.2.1 _).mono ?_; rintro e w' ⟨rfl, rfl⟩))
    go_ret
    exact ⟨retW HC.out.2.2.2.2, rfl⟩
  · have hr := rk13 A B
    obtain ⟨s, hs⟩ : ∃ s, s = sgn A := ⟨_, rfl⟩
    obtain ⟨u, hu⟩ : ∃ u, u = sgn B := ⟨_, rfl⟩
    have ha : ∀ w, Calls Tryd.prog 76 #[.int .u32 A] w fun e w' => e = .returned (.int .i64 s) ∧ w = w' := fun w => by rw [hs]; exact rsigned A w (by omega) (by omega)
    have hb : ∀ w, Calls Tryd.prog 76 #[.int .u32 B] w fun e w' => e = .returned (.int .i64 u) ∧ w = w' := fun w => by rw [hu]; exact rsigned B w (by omega) (by omega)
    rw [← hs, ← hu] at hr
    have HC := Lib.hid (And.intro ha (And.intro hb hr))
    clear HA HP hm hq hdp hsg hpne p0 p1 hz h0 h1 hs hu ha hb hr
    by_cases hlt : s < u
    · have hd : decide (s < u) = true := decide_eq_true hlt
      have HR := Lib.hid hlt
      clear hlt
      as_aux_lemma =>
      go_enter Tryd.func60, Tryd.ntmps60
      go_upto_region 29 with fail
      go_wp2_with fail
      refine (HC.out.1 _).mono ?_
      rintro e w' ⟨rfl, rfl⟩
      go_wp2_with fail
      refine (HC.out.2.1 _).mono ?_
      rintro e w' ⟨rfl, rfl⟩
      go_wp2_with fail
      go_ret
      exact ⟨retW (by rw [HC.out.2.2, if_pos HR.out]), rfl⟩
    · have hd : decide (s < u) = false := decide_eq_false hlt
      have HR := Lib.hid hlt
      clear hlt
      as_aux_lemma =>
      go_enter Tryd.func60, Tryd.ntmps60
      go_wp2_with fail
      refine (HC.out.1 _).mono ?_
      rintro e w' ⟨rfl, rfl⟩
      go_wp2_with fail
      refine (HC.out.2.1 _).mono ?_
      rintro e w' ⟨rfl, rfl⟩
      go_wp2_with fail
      go_ret
      exact ⟨retW (by rw [HC.out.2.2, if_neg (Int.not_lt.2 HR.out)]), rfl⟩
  · have hr : (if (A : Int) < B then (1 : Int) else 0) = rk 14 A B := rfl
    clear HA HP hm hq hdp hsg hpne p0 p1 hz h0 h1
    by_cases hlt : (A : Int) < B
    · have hd : decide ((A : Int) < B) = true := decide_eq_true hlt
      as_aux_lemma =>
      go_enter Tryd.func60, Tryd.ntmps60
      go_wp2_with fail
      go_ret
      exact ⟨retW (by rw [← hr, if_pos hlt]), rfl⟩
    · have hd : decide ((A : Int) < B) = false := decide_eq_false hlt
      as_aux_lemma =>
      go_enter Tryd.func60, Tryd.ntmps60
      go_wp2_with fail
      go_ret
      exact ⟨retW (by rw [← hr, if_neg (Int.not_lt.2 hlt)]), rfl⟩

structure OkF (op : Int) (D A B : Nat) (imm : Int) : Prop where
  o0 : 1 ≤ op
  o1 : op ≤ 36
  d : D < 32
  a : A < 32
  b : B < 32
  i0 : -1048576 ≤ imm
  i1 : imm ≤ 1048575
  reg : op ≤ 14 → imm = 0
  num : 15 ≤ op → op ≤ 23 → B = 0
theorem ok_facts {op : Int} {D A B : Nat} {imm : Int} (h : Isa.ok op D A B imm = true) : OkF op D A B imm := by
  unfold Isa.ok Isa.regOk at h
  simp only [Bool.and_eq_true, decide_eq_true_eq] at h
  obtain ⟨⟨⟨⟨⟨hf, ⟨-, hd⟩⟩, ⟨-, ha⟩⟩, ⟨-, hb⟩⟩, hl⟩, hh⟩ := h
  have ho := (not_congr (Isa.form_pos op)).1 hf
  have hd' : (D : Int) ≤ 31 := by split at hd <;> omega
  have ha' : (A : Int) ≤ 31 := by split at ha <;> omega
  have hb' : (B : Int) ≤ 31 := by split at hb <;> omega
  have hlo : -1048576 ≤ Isa.low op := by unfold Isa.low; (repeat' split) <;> omega
  have hhi : Isa.high op ≤ 1048575 := by unfold Isa.high; (repeat' split) <;> omega
  refine ⟨by omega, by omega, by omega, by omega, by omega, by omega, by omega, fun h14 => ?_, fun h15 h23 => ?_⟩
  · have e : Isa.form op = 1 := by unfold Isa.form; rw [if_pos (by omega)]
    have e1 : Isa.low op = 0 := by unfold Isa.low; rw [e]; rfl
    have e2 : Isa.high op = 0 := by unfold Isa.high; rw [e]; rfl
    omega
  · have e : Isa.shape (Isa.form op) 2 = false := by
      unfold Isa.form
      rw [if_neg (by omega)]
      split
      · rfl
      · rw [if_pos (by omega)]; rfl
    rw [e] at hb
    simp at hb
    exact hb

/-- What the document's machine makes of an instruction, but for the number of steps. -/
def MS.ex (m : MS) (op : Int) (D : Nat) (a b i : Int) : MS := { m.exec op D a b i with steps := m.steps }
def MS.go1 (m : MS) (D : Nat) (x next : Int) : MS := { m.setR D x with place := next }
theorem exec_ex (m : MS) (op : Int) (D : Nat) (a b i : Int) (hs : m.state = 0) : m.exec op D a b i = if (m.ex op D a b i).state = 2 then m.ex op D a b i else { m.ex op D a b i with steps := m.steps + 1 } := by
  have key : ∀ x : MS, (x.state = 2 ∧ x.steps = m.steps) ∨ (x.state ≠ 2 ∧ x.steps = m.steps + 1) → x = if ({ x with steps := m.steps } : MS).state = 2 then { x with steps := m.steps } else { ({ x with steps := m.steps } : MS) with steps := m.steps + 1 } := by
    rintro x (⟨h1, h2⟩ | ⟨h1, h2⟩)
    · have h1' : ({ x with steps := m.steps } : MS).state = 2 := h1
      rw [if_pos h1', ← h2]
    · have h1' : ¬ ({ x with steps := m.steps } : MS).state = 2 := h1
      rw [if_neg h1', ← h2]
  refine key _ ?_
  unfold MS.exec
  (repeat' split) <;> first
    | exact Or.inl ⟨rfl, rfl⟩
    | exact Or.inr ⟨(show (0 : Int) ≠ 2 by decide) ∘ (fun h => hs.symm.trans h), rfl⟩
    | exact Or.inr ⟨show (1 : Int) ≠ 2 by decide, rfl⟩

section
variable (m : MS) (op : Int) (D : Nat) (a b i : Int)
theorem ex_div0 (h : op = 5 ∨ op = 6) : m.ex op D a 0 i = m.stop 4 := by
  unfold MS.ex MS.exec
  rcases h with rfl | rfl <;> rfl
theorem ex_reg (o0 : 1 ≤ op) (o1 : op ≤ 14) (hb : 0 ≤ b ∧ b < 4294967296) (hz : ¬ (b = 0 ∧ (op = 5 ∨ op = 6))) : m.ex op D a b 0 = m.go1 D (rk op a b) ((m.place + 1) % 4294967296) := by
  unfold MS.ex MS.exec rk
  rw [if_neg (by omega), if_neg (by omega), if_neg (by omega), if_neg (by omega), if_neg (by omega), if_neg (by omega), if_neg (by omega), if_neg (by omega)]
  by_cases h : op = 5 ∨ op = 6
  · rw [if_pos h, if_neg (fun e => hz ⟨e, h⟩), if_pos h]; rfl
  · rw [if_neg h, if_neg h, show (b + 0) % 4294967296 = b by omega]; rfl
theorem comp_like (o0 : 15 ≤ op) (o1 : op ≤ 22) : comp op a i = rk (rlike op) a i := by
  rcases (show op = 15 ∨ op = 16 ∨ op = 17 ∨ op = 18 ∨ op = 19 ∨ op = 20 ∨ op = 21 ∨ op = 22 by omega) with h | h | h | h | h | h | h | h <;> rw [h] <;> unfold rk rlike comp <;> simp
theorem ex_num (o0 : 15 ≤ op) (o1 : op ≤ 22) (hi : 0 ≤ i ∧ i < 4294967296) : m.ex op D a 0 i = m.go1 D (rk (rlike op) a i) ((m.place + 1) % 4294967296) := by
  unfold MS.ex MS.exec
  rw [if_neg (by omega), if_neg (by omega), if_neg (by omega), if_neg (by omega), if_neg (by omega), if_neg (by omega), if_neg (by omega), if_neg (by omega), if_neg (by omega), show (0 + i) % 4294967296 = i by omega, comp_like op a i o0 o1]
  rfl
theorem comp23 (x : Int) : comp 23 a x = x * 65536 % 4294967296 := by
  unfold comp
  simp
theorem ex_lui (hi : 0 ≤ i ∧ i < 4294967296) : m.ex 23 D a 0 i = m.go1 D (i * 65536 % 4294967296) ((m.place + 1) % 4294967296) := by
  unfold MS.ex MS.exec
  rw [if_neg (by omega), if_neg (by omega), if_neg (by omega), if_neg (by omega), if_neg (by omega), if_neg (by omega), if_neg (by omega), if_neg (by omega), if_neg (by omega), show (0 + i) % 4294967296 = i by omega, comp23]
  rfl
theorem ex_far (h : op = 24 ∨ op = 25) (hf : (m.size : Int) ≤ (a + i) % 4294967296) : m.ex op D a b i = m.stop 2 := by
  unfold MS.ex MS.exec
  rcases h with rfl | rfl
  · rw [if_pos rfl, if_pos hf]; rfl
  · rw [if_neg (by decide), if_pos rfl, if_pos hf]; rfl
theorem ex_lw {T : Nat} (hT : (a + i) % 4294967296 = T) (hf : T < m.size) : m.ex 24 D a b i = m.go1 D (m.mem T) ((m.place + 1) % 4294967296) := by
  unfold MS.ex MS.exec
  rw [if_pos rfl, hT, if_neg (by omega), Int.toNat_natCast]
  rfl
theorem ex_sw {T : Nat} (hT : (a + i) % 4294967296 = T) (hf : T < m.size) : m.ex 25 D a b i = { m with mem := updF m.mem T b, place := (m.place + 1) % 4294967296 } := by
  unfold MS.ex MS.exec
  rw [if_neg (by decide), if_pos rfl, hT, if_neg (by omega), Int.toNat_natCast]
  rfl
theorem ex_br (o0 : 26 ≤ op) (o1 : op ≤ 31) : m.ex op D a b i = { m with place := if goes op a b then ((m.place + 1) % 4294967296 + i) % 4294967296 else (m.place + 1) % 4294967296 } := by
  unfold MS.ex MS.exec
  rw [if_neg (by omega), if_neg (by omega), if_pos ⟨o0, o1⟩]
  rfl
theorem ex_jal : m.ex 32 D a b i = m.go1 D ((m.place + 1) % 4294967296) (((m.place + 1) % 4294967296 + i) % 4294967296) := by
  unfold MS.ex MS.exec
  rw [if_neg (by decide), if_neg (by decide), if_neg (by decide), if_pos rfl]
  rfl
theorem ex_jalr : m.ex 33 D a b i = m.go1 D ((m.place + 1) % 4294967296) ((a + i) % 4294967296) := by
  unfold MS.ex MS.exec
  rw [if_neg (by decide), if_neg (by decide), if_neg (by decide), if_neg (by decide), if_pos rfl]
  rfl
theorem ex_in : m.ex 34 D a b i = { m with inp := m.inp.tail }.go1 D (m.inp.headD 4294967295) ((m.place + 1) % 4294967296) := by
  unfold MS.ex MS.exec
  rw [if_neg (by decide), if_neg (by decide), if_neg (by decide), if_neg (by decide), if_neg (by decide), if_pos rfl]
  rfl
theorem ex_out : m.ex 35 D a b i = { m with out := m.out ++ [a % 256], place := (m.place + 1) % 4294967296 } := by
  unfold MS.ex MS.exec
  rw [if_neg (by decide), if_neg (by decide), if_neg (by decide), if_neg (by decide), if_neg (by decide), if_neg (by decide), if_pos rfl]
  rfl
theorem ex_halt : m.ex 36 D a b i = { m with state := 1, code := a } := by
  unfold MS.ex MS.exec
  rw [if_neg (by decide), if_neg (by decide), if_neg (by decide), if_neg (by decide), if_neg (by decide), if_neg (by decide), if_neg (by decide), if_pos rfl]
  rfl
end

theorem QRep.bs {base : Nat} {w : World} {l : QL} {m : MS} (h : QRep base w l m) : base ≤ w.heap.size := Nat.le_of_lt (Nat.lt_of_le_of_lt (h.lb _ (Or.inl rfl)) (h.lt (Or.inl rfl)))
/-- A word of the memory is written. -/
theorem QRep.setM {base : Nat} {w : World} {l : QL} {m : MS} (h : QRep base w l m) (i : Nat) (x : Int) (hi : i < m.size) (hx : 0 ≤ x ∧ x < 4294967296) :
    QStp base w (w.setCell ⟨l.B, i, none⟩ (.int .u32 x)) l l { m with mem := updF m.mem i x } := by
  have hc : Chg (fun k => k = l.B) w (w.setCell ⟨l.B, i, none⟩ (.int .u32 x)) := (Chg.refl _ _).setCell _ _ (Or.inl rfl)
  refine ⟨⟨h.ok.setM i x hx, hc.same h.mac (fun e => ne_kind h.mac h.mem (by decide) e), ?_, ?_, ?_, h.ne, h.lb⟩, rfl, hc.mono (fun _ e => Or.inr (Or.inl e)), fun _ h => Or.inl h⟩
  · exact set_blockF h.mem hi (fun j _ => by
      unfold qmem updF
      by_cases hj : j = i
      · rw [if_pos hj]; show _ = Value.int .u32 (if j = i then x else m.mem j); rw [if_pos hj]
      · rw [if_neg hj]; show _ = Value.int .u32 (if j = i then x else m.mem j); rw [if_neg hj])
  · exact h.inp.kept fun k hk => by
      obtain ⟨cs, hk'⟩ := h.inp.block hk
      exact hc.block k (lt_of_block hk') (fun e => ne_kind hk' h.mem (by decide) e)
  · exact own_kept h.out fun k hk => by
      obtain ⟨cs, hk'⟩ := own_block h.out hk
      exact hc.block k (lt_of_block hk') (fun e => ne_kind hk' h.mem (by decide) e)
/-- The place is written last. -/
theorem q_end {base : Nat} {w w5 : World} {l l5 : QL} {m5 : MS} {Q : Nat} {next : Int} (s : QStp base w w5 l l5 m5) (hQ : l5.Q = Q) (hn : 0 ≤ next ∧ next < 4294967296) : QStp base w (w5.setCell ⟨Q, 33, none⟩ (.int .u32 next)) l l5 { m5 with place := next } := by
  subst hQ
  exact s.trans (s.rep.cell1 33 _ (by decide) (qupd_place l5 m5 next) (s.rep.ok.goto next hn) rfl rfl rfl rfl)
theorem qupd_vi (l : QL) (m : MS) (v : Value) (r : List Int) : ∀ j, j < 40 → updF (qcell l m) 34 v j = qcell { l with vi := v } { m with inp := r } j := by
  intro j _
  by_cases hj : j = 34
  · subst hj; rw [updF_same]; rfl
  · rw [updF_other _ _ hj]; unfold qcell; (repeat' split) <;> (first | rfl | omega)
theorem QRep.setIn {base : Nat} {w : World} {l : QL} {m : MS} (h : QRep base w l m) (x : Int) (r : List Int) (v : Value) (hm : m.inp = x :: r) (hv : InRep w v r) (hb : ∀ k, inB v = some k → inB l.vi = some k) :
    QStp base w (w.setCell ⟨l.Q, 34, none⟩ v) l { l with vi := v } { m with inp := r } := by
  have hc : Chg (fun k => k = l.Q) w (w.setCell ⟨l.Q, 34, none⟩ v) := (Chg.refl _ _).setCell _ _ (Or.inl rfl)
  have hfp : ∀ k, ({ l with vi := v } : QL).fp k → l.fp k := by
    intro k hk
    rcases hk with e | e | e | e
    · exact Or.inl e
    · exact Or.inr (Or.inl e)
    · exact Or.inr (Or.inr (Or.inl (hb k e)))
    · exact Or.inr (Or.inr (Or.inr e))
  refine ⟨⟨?_, ?_, ?_, ?_, ?_, ?_, fun k hk => h.lb k (hfp k hk)⟩, rfl, hc.mono (fun _ e => Or.inl e), fun k hk => Or.inl (hfp k hk)⟩
  · have hi := h.ok.inp
    rw [hm] at hi
    exact ⟨h.ok.regs, h.ok.zero, h.ok.size, h.ok.mem, h.ok.place, h.ok.state, h.ok.code, h.ok.trap, h.ok.steps, fun y hy => hi y (List.mem_cons_of_mem _ hy), by have := h.ok.ilen; rw [hm] at this; simp at this; show r.length ≤ 1024; omega, h.ok.out⟩
  · exact set_blockF h.mac (by decide) (qupd_vi l m v r)
  · exact hc.same h.mem (fun e => ne_kind h.mem h.mac (by decide) e)
  · exact hv.kept fun k hk => by
      obtain ⟨cs, hk'⟩ := hv.block hk
      exact hc.block k (lt_of_block hk') (fun e => ne_kind hk' h.mac (by decide) e)
  · exact own_kept h.out fun k hk => by
      obtain ⟨cs, hk'⟩ := own_block h.out hk
      exact hc.block k (lt_of_block hk') (fun e => ne_kind hk' h.mac (by decide) e)
  · rcases h.ne with e | e
    · left
      show inB v = none
      cases hv' : inB v with
      | none => rfl
      | some k => rw [hb k hv'] at e; cases e
    · show inB v = none ∨ inB v ≠ l.vo.ownBlock
      cases hv' : inB v with
      | none => exact Or.inl rfl
      | some k => right; rw [← hb k hv']; exact e
theorem qupd_vo (l : QL) (m : MS) (v : Value) (r : List Int) : ∀ j, j < 40 → updF (qcell l m) 35 v j = qcell { l with vo := v } { m with out := r } j := by
  intro j _
  by_cases hj : j = 35
  · subst hj; rw [updF_same]; rfl
  · rw [updF_other _ _ hj]; unfold qcell; (repeat' split) <;> (first | rfl | omega)
/-- Behind an append to the output. -/
theorem qapp_end {base : Nat} {w w5 : World} {l : QL} {m : MS} {v' : Value} {O : Obj} {vo : Value} {Q : Nat} (h : QRep base w l m) (hvo : l.vo = vo) (hQ : l.Q = Q) (x : Int) (hx : 0 ≤ x ∧ x < 256)
    (hown : w5.ownsRow base 5 1 v' (m.out.length + 1) (byL m.out ++ [.int .u8 x])) (hg : (w.alloc O).grownBy w5 vo.ownBlock)
    (hwh : v'.ownBlock = vo.ownBlock ∨ ∀ k, v'.ownBlock = some k → w.heap.size ≤ k) :
    w5.cell? ⟨Q, 35, none⟩ = some vo ∧ w5.frozen? ⟨Q, 35, none⟩ = false ∧
    QStp base w (w5.setCell ⟨Q, 35, none⟩ v') l { l with vo := v' } { m with out := m.out ++ [x] } := by
  subst hvo hQ
  have hc : Chg (fun k => l.vo.ownBlock = some k) w w5 := ((Chg.refl (fun k => l.vo.ownBlock = some k) w).alloc O).grown hg (fun k e => Or.inl e)
  have nob : ∀ {b t : Nat} {cs : Array Value} {fr : Nat × Nat}, w.heap[b]? = some (.cells cs t fr) → t ≠ 5 → ¬ l.vo.ownBlock = some b := by
    intro b t cs fr hb ht e
    obtain ⟨ds, hd⟩ := own_block h.out e
    exact ne_kind hb hd ht rfl
  have hm5 := hc.same h.mac (nob h.mac (by decide))
  have hc6 : Chg (fun k => k = l.Q ∨ l.vo.ownBlock = some k) w (w5.setCell ⟨l.Q, 35, none⟩ v') := (hc.mono (fun _ e => Or.inr e)).setCell ⟨l.Q, 35, none⟩ v' (Or.inl (Or.inl rfl))
  have sam : ∀ {b t : Nat} {cs : Array Value} {fr : Nat × Nat}, w.heap[b]? = some (.cells cs t fr) → t ≠ 5 → t ≠ 43 → (w5.setCell ⟨l.Q, 35, none⟩ v').heap[b]? = some (.cells cs t fr) := by
    intro b t cs fr hb h5 h6
    exact hc6.same hb (fun e => e.elim (ne_kind hb h.mac h6) (nob hb h5))
  have hfp : ∀ k, ({ l with vo := v' } : QL).fp k → l.fp k ∨ w.heap.size ≤ k := by
    intro k hk
    rcases hk with e | e | e | e
    · exact Or.inl (Or.inl e)
    · exact Or.inl (Or.inr (Or.inl e))
    · exact Or.inl (Or.inr (Or.inr (Or.inl e)))
    · rcases hwh with hw | hw
      · exact Or.inl (Or.inr (Or.inr (Or.inr (hw ▸ e))))
      · exact Or.inr (hw k e)
  refine ⟨cellV hm5 35 (by decide) rfl, freeF hm5 35, ⟨⟨?_, ?_, ?_, ?_, ?_, ?_, ?_⟩, rfl, hc6.mono (fun k e => e.elim Or.inl (fun e => Or.inr (Or.inr (Or.inr e)))), hfp⟩⟩
  · refine ⟨h.ok.regs, h.ok.zero, h.ok.size, h.ok.mem, h.ok.place, h.ok.state, h.ok.code, h.ok.trap, h.ok.steps, h.ok.inp, h.ok.ilen, ?_⟩
    intro y hy
    rcases List.mem_append.1 hy with hy | hy
    · exact h.ok.out y hy
    · simp only [List.mem_singleton] at hy; rw [hy]; exact hx
  · exact set_blockF hm5 (by decide) (qupd_vo l m v' _)
  · exact sam h.mem (by decide) (by decide)
  · refine h.inp.kept fun k hk => ?_
    obtain ⟨cs, hk'⟩ := h.inp.block hk
    refine hc6.block k (lt_of_block hk') ?_
    rintro (e | e)
    · exact ne_kind hk' h.mac (by decide) e
    · rcases h.ne with en | en
      · rw [en] at hk; cases hk
      · exact en (hk.trans e.symm)
  · have hlen : (m.out ++ [x]).length = m.out.length + 1 := by simp
    have hby : byL (m.out ++ [x]) = byL m.out ++ [.int .u8 x] := by unfold byL; simp
    show (w5.setCell ⟨l.Q, 35, none⟩ v').ownsRow base 5 1 v' (m.out ++ [x]).length (byL (m.out ++ [x]))
    rw [hlen, hby]
    refine own_kept hown fun k hk => Below.heap_setCell _ _ _ _ ?_
    obtain ⟨cs, hk'⟩ := own_block hown hk
    exact fun e => ne_kind hk' hm5 (by decide) e
  · show inB l.vi = none ∨ inB l.vi ≠ v'.ownBlock
    rcases hwh with hw | hw
    · rw [hw]; exact h.ne
    · cases hi : inB l.vi with
      | none => exact Or.inl rfl
      | some k =>
        right
        intro e
        have h1 := hw k e.symm
        obtain ⟨cs, hk'⟩ := h.inp.block hi
        have := lt_of_block hk'
        omega
  · intro k hk
    rcases hfp k hk with e | e
    · exact h.lb k e
    · exact Nat.le_trans h.bs e
theorem qhalt_end {base : Nat} {w w5 : World} {l : QL} {m : MS} {Q : Nat} (s : QStp base w w5 l l m) (hQ : l.Q = Q) (x : Int) (hx : 0 ≤ x ∧ x < 4294967296) :
    QStp base w ((w5.setCell ⟨Q, 36, none⟩ (.int .i64 1)).setCell ⟨Q, 37, none⟩ (.int .u32 x)) l l { m with state := 1, code := x } := by
  subst hQ
  have s1 := s.rep.cell1 36 (.int .i64 1) (by decide) (qupd_state l m 1) ⟨s.rep.ok.regs, s.rep.ok.zero, s.rep.ok.size, s.rep.ok.mem, s.rep.ok.place, ⟨show (0 : Int) ≤ 1 by decide, show (1 : Int) ≤ 2 by decide⟩, s.rep.ok.code, s.rep.ok.trap, s.rep.ok.steps, s.rep.ok.inp, s.rep.ok.ilen, s.rep.ok.out⟩ rfl rfl rfl rfl
  have s2 := s1.rep.cell1 37 (.int .u32 x) (by decide) (qupd_code l _ x) ⟨s1.rep.ok.regs, s1.rep.ok.zero, s1.rep.ok.size, s1.rep.ok.mem, s1.rep.ok.place, s1.rep.ok.state, hx, s1.rep.ok.trap, s1.rep.ok.steps, s1.rep.ok.inp, s1.rep.ok.ilen, s1.rep.ok.out⟩ rfl rfl rfl rfl
  exact s.trans (s1.trans s2)
/-- The instruction's own block. -/
structure X5 (w : World) (X : Nat) (op : Int) (D A B : Nat) (imm : Int) : Prop where
  c0 : w.cell? ⟨X, 0, none⟩ = some (.int .i64 op)
  c1 : w.cell? ⟨X, 1, none⟩ = some (.int .i64 D)
  c2 : w.cell? ⟨X, 2, none⟩ = some (.int .i64 A)
  c3 : w.cell? ⟨X, 3, none⟩ = some (.int .i64 B)
  c4 : w.cell? ⟨X, 4, none⟩ = some (.int .i64 imm)
theorem X5.of {w : World} {X : Nat} {op imm : Int} {D A B t : Nat} {fr : Nat × Nat} (h : w.heap[X]? = some (.cells #[.int .i64 op, .int .i64 D, .int .i64 A, .int .i64 B, .int .i64 imm] t fr)) : X5 w X op D A B imm :=
  ⟨by rw [cell_of_block h]; rfl, by rw [cell_of_block h]; rfl, by rw [cell_of_block h]; rfl, by rw [cell_of_block h]; rfl, by rw [cell_of_block h]; rfl⟩
theorem X5.below {w w' : World} {X : Nat} {op imm : Int} {D A B : Nat} (h : X5 w X op D A B imm) (hb : Below w.heap.size w w') : X5 w' X op D A B imm := by
  have hX := World.block_lt_of_cell? w _ h.c0
  exact ⟨(hb.cell (p := ⟨X, 0, none⟩) hX).trans h.c0, (hb.cell (p := ⟨X, 1, none⟩) hX).trans h.c1, (hb.cell (p := ⟨X, 2, none⟩) hX).trans h.c2, (hb.cell (p := ⟨X, 3, none⟩) hX).trans h.c3, (hb.cell (p := ⟨X, 4, none⟩) hX).trans h.c4⟩
theorem X5.stp {base : Nat} {w w' w0 : World} {l l' : QL} {m' : MS} {X : Nat} {op imm : Int} {D A B : Nat} (h : X5 w X op D A B imm) (s : QStp base w w' l l' m') (hX : ¬ l.fp X) : X5 w' X op D A B imm := by
  have hl := World.block_lt_of_cell? w _ h.c0
  have hb := s.chg.block X hl hX
  exact ⟨(World.cell?_of_block (a := ⟨X, 0, none⟩) hb).trans h.c0, (World.cell?_of_block (a := ⟨X, 1, none⟩) hb).trans h.c1, (World.cell?_of_block (a := ⟨X, 2, none⟩) hb).trans h.c2, (World.cell?_of_block (a := ⟨X, 3, none⟩) hb).trans h.c3, (World.cell?_of_block (a := ⟨X, 4, none⟩) hb).trans h.c4⟩
theorem rk_range (op a b : Int) (a0 : 0 ≤ a) (a1 : a < 4294967296) (b0 : 0 ≤ b) (b1 : b < 4294967296) (hz : op = 5 ∨ op = 6 → b ≠ 0) : 0 ≤ rk op a b ∧ rk op a b < 4294967296 := by
  unfold rk
  split
  · rename_i h
    exact divd_range op a b a0 a1 (by have := hz h; omega)
  · exact comp_range op a b a0 a1 b0 b1
theorem wrap_small {x : Int} (h0 : -9223372036854775808 ≤ x) (h1 : x ≤ 9223372036854775807) : IntKind.i64.wrap x = x := by
  rw [IntKind.wrap_i64]
  omega
end Go.Proofs.YtknnmacmohpanaaDoor
