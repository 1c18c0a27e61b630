/- Contracts: a step of the machine. Conditions: the machine lies as told; the forms' table is as laid. -/
import Derived.Test.YtknnmacmohpanaaDoorMaJ
import Derived.Test.YtknnmacmohpanaaDoorMaL
namespace Go.Proofs.YtknnmacmohpanaaDoor
open Go.RowKit

theorem Env.drewN {w : World} (h : Env w) (n : Nat) : Env (w.drewN n) := h.below (below_drewN (Below.refl _ _) n)
theorem Env.drew {w : World} (h : Env w) : Env w.drew := h.below (Below.refl _ _).drew

theorem and_range (a b : Int) : 0 ≤ bits .and .u32 a b ∧ bits .and .u32 a b < 4294967296 := by
  show 0 ≤ IntKind.u32.wrap ((BitVec.ofInt 32 a &&& BitVec.ofInt 32 b).toNat : Int) ∧ IntKind.u32.wrap ((BitVec.ofInt 32 a &&& BitVec.ofInt 32 b).toNat : Int) < 4294967296
  rw [IntKind.wrap_u32']; omega
theorem or_range (a b : Int) : 0 ≤ bits .or .u32 a b ∧ bits .or .u32 a b < 4294967296 := by
  show 0 ≤ IntKind.u32.wrap ((BitVec.ofInt 32 a ||| BitVec.ofInt 32 b).toNat : Int) ∧ IntKind.u32.wrap ((BitVec.ofInt 32 a ||| BitVec.ofInt 32 b).toNat : Int) < 4294967296
  rw [IntKind.wrap_u32']; omega
theorem xor_range (a b : Int) : 0 ≤ bits .xor .u32 a b ∧ bits .xor .u32 a b < 4294967296 := by
  show 0 ≤ IntKind.u32.wrap ((BitVec.ofInt 32 a ^^^ BitVec.ofInt 32 b).toNat : Int) ∧ IntKind.u32.wrap ((BitVec.ofInt 32 a ^^^ BitVec.ofInt 32 b).toNat : Int) < 4294967296
  rw [IntKind.wrap_u32']; omega
theorem noD {v : Int} (h : Isa.dOp v = 25 ∨ (26 ≤ Isa.dOp v ∧ Isa.dOp v ≤ 31) ∨ Isa.dOp v = 35 ∨ Isa.dOp v = 36) : Isa.fD v = 0 := by
  have hs : Isa.sh v 0 = false := by
    unfold Isa.sh
    rcases (show Isa.dOp v = 25 ∨ Isa.dOp v = 26 ∨ Isa.dOp v = 27 ∨ Isa.dOp v = 28 ∨ Isa.dOp v = 29 ∨ Isa.dOp v = 30 ∨ Isa.dOp v = 31 ∨ Isa.dOp v = 35 ∨ Isa.dOp v = 36 by omega) with e | e | e | e | e | e | e | e | e <;> rw [e] <;> rfl
  unfold Isa.fD Isa.dD
  rw [hs]
  rfl
theorem step_bad {m : MS} {p : Nat} (hp : m.place = p) (hlt : p < m.size) (hd : Isa.dOk (m.mem p) = false) : m.step = m.stop 1 := by
  unfold MS.step
  rw [hp, Int.toNat_natCast, if_neg (by omega), if_pos hd]
theorem step_ok {m : MS} {p : Nat} (hp : m.place = p) (hlt : p < m.size) (hd : Isa.dOk (m.mem p) = true) :
    m.step = m.exec (Isa.dOp (m.mem p)) (Isa.fD (m.mem p)).toNat (m.regs (Isa.fA (m.mem p)).toNat) (m.regs (Isa.fB (m.mem p)).toNat) (Isa.fImm (m.mem p) % 4294967296) := by
  unfold MS.step
  rw [hp, Int.toNat_natCast, if_neg (by omega), if_neg (by rw [hd]; decide)]
theorem step_far {m : MS} (hp : (m.size : Int) ≤ m.place) : m.step = m.stop 3 := by
  unfold MS.step
  rw [if_pos hp]
/-- What the switch leaves: the place to come, what D becomes, all else done. -/
def Sw (base : Nat) (w : World) (l : Lay) (m : MS) (d : Nat) (X o : Nat) (v : Int) (r : MS) (n x : Value) (wx : World) : Prop :=
  ∃ l2 m2 next dv, n = .int .u32 next ∧ x = .int .u32 dv ∧ Stp base w wx l l2 m2 ∧ IAt wx X o v ∧ (0 ≤ next ∧ next < 4294967296) ∧ (0 ≤ dv ∧ dv < 4294967296) ∧ m2.steps = m.steps ∧ r = m2.fin d dv next
/-- A word's fields, as the machine keeps them. -/
theorem inst_of (v : Int) : ∃ (op : Int) (d a b : Nat) (i : Int), icell v 1 = .int .u32 i ∧ icell v 2 = .int .u8 op ∧ icell v 3 = .int .u8 d ∧ icell v 4 = .int .u8 a ∧ icell v 5 = .int .u8 b ∧
    (0 ≤ op ∧ op ≤ 36) ∧ d ≤ 31 ∧ a ≤ 31 ∧ b ≤ 31 ∧ (0 ≤ i ∧ i < 4294967296) ∧
    ((Isa.dOk v = false ∧ op = 0) ∨ (Isa.dOk v = true ∧ 1 ≤ op ∧ (op = 25 ∨ (26 ≤ op ∧ op ≤ 31) ∨ op = 35 ∨ op = 36 → d = 0) ∧ op = Isa.dOp v ∧ d = (Isa.fD v).toNat ∧ a = (Isa.fA v).toNat ∧ b = (Isa.fB v).toNat ∧ i = Isa.fImm v % 4294967296)) := by
  cases hd : Isa.dOk v
  · refine ⟨0, 0, 0, 0, 0, ?_, ?_, ?_, ?_, ?_, by omega, by omega, by omega, by omega, by omega, Or.inl ⟨rfl, rfl⟩⟩ <;> (unfold icell; rw [hd]; rfl)
  · obtain ⟨⟨o0, o1⟩, ⟨d0, d1⟩, ⟨a0, a1⟩, b0, b1⟩ := dok_range hd
    refine ⟨Isa.dOp v, (Isa.fD v).toNat, (Isa.fA v).toNat, (Isa.fB v).toNat, Isa.fImm v % 4294967296, ?_, ?_, ?_, ?_, ?_, by omega, by omega, by omega, by omega, by omega, Or.inr ⟨rfl, o0, fun ho => by rw [noD ho]; rfl, rfl, rfl, rfl, rfl, rfl⟩⟩
    · unfold icell; rw [hd]; rfl
    · unfold icell; rw [hd]; rfl
    · unfold icell; rw [hd, Int.toNat_of_nonneg d0]; rfl
    · unfold icell; rw [hd, Int.toNat_of_nonneg a0]; rfl
    · unfold icell; rw [hd, Int.toNat_of_nonneg b0]; rfl

theorem MOk.fin {m : MS} (h : MOk m) (d : Nat) (x next : Int) (hx : 0 ≤ x ∧ x < 4294967296) (hn : 0 ≤ next ∧ next < 4294967296) : MOk (m.fin d x next) := by
  have g := h.setR d x hx
  exact ⟨g.regs, g.zero, g.size, g.mem, hn, g.state, g.code, g.trap, by show 0 ≤ m.steps + 1; have := h.steps; omega, g.inp, g.ilen, g.out⟩
theorem fin_end {base : Nat} {w wz : World} {l : Lay} {m r : MS} {M d : Nat} {dv next st : Int} (h : MRep base w l m) (hM : l.M = M) (hst : m.steps = st) (hr : r = m.fin d dv next) (hn : 0 ≤ next ∧ next < 4294967296) (hv : 0 ≤ dv ∧ dv < 4294967296) (hd : d ≤ 31)
    (hcz : Chg (fun k => k = M) w wz) (hbz : wz.heap[M]? = some (.cells (cellsF 42 (updF (mcell l m) (1 + d) (.int .u32 dv))) 66 (0, 0))) :
    Stp base w (((wz.setCell ⟨M, 1, none⟩ (.int .u32 0)).setCell ⟨M, 35, none⟩ (.int .u32 next)).setCell ⟨M, 39, none⟩ (.int .i64 (st + 1))) l l r := by
  subst hM hst hr
  have hc := ((hcz.setCell ⟨l.M, 1, none⟩ (.int .u32 0) (Or.inl rfl)).setCell ⟨l.M, 35, none⟩ (.int .u32 next) (Or.inl rfl)).setCell ⟨l.M, 39, none⟩ (.int .i64 (m.steps + 1)) (Or.inl rfl)
  have hb := set_blockF (set_blockF (set_blockF hbz (i := 1) (x := .int .u32 0) (by decide) (fun _ _ => rfl)) (i := 35) (x := .int .u32 next) (by decide) (fun _ _ => rfl)) (i := 39) (x := .int .i64 (m.steps + 1)) (g := mcell l (m.fin d dv next)) (by decide) (fun j hj => by
    unfold updF mcell
    by_cases h39 : j = 39
    · subst h39; rfl
    rw [if_neg h39]
    by_cases h35 : j = 35
    · subst h35; rfl
    rw [if_neg h35]
    by_cases h1 : j = 1
    · subst h1
      rw [if_pos rfl, if_neg (by decide), if_pos (by decide)]
      exact congrArg _ (h.ok.setR d dv hv).zero.symm
    rw [if_neg h1]
    by_cases hd1 : j = 1 + d
    · subst hd1
      rw [if_pos rfl, if_neg (by omega), if_pos (by omega)]
      have : (m.fin d dv next).regs (1 + d - 1) = dv := by
        show (if d = 0 then m.regs else updF m.regs d dv) (1 + d - 1) = dv
        rw [if_neg (by omega), show 1 + d - 1 = d by omega, updF_same]
      rw [this]
    · rw [if_neg hd1]
      by_cases h0 : j = 0
      · rw [if_pos h0, if_pos h0]
      rw [if_neg h0, if_neg h0]
      by_cases h32 : j ≤ 32
      · rw [if_pos h32, if_pos h32]
        have : (m.fin d dv next).regs (j - 1) = m.regs (j - 1) := by
          show (if d = 0 then m.regs else updF m.regs d dv) (j - 1) = _
          split
          · rfl
          · rw [updF_other _ _ (by omega)]
        rw [this]
      · rw [if_neg h32, if_neg h32]
        (repeat' split) <;> (first | rfl | omega))
  exact Stp.own ⟨h.upd hc hb (h.ok.fin d dv next hv hn) rfl rfl rfl, hc⟩

theorem computed_q (op a b : Int) (w : World) (o0 : 0 ≤ op) (o1 : op < 256) (a0 : 0 ≤ a) (a1 : a < 4294967296) (b0 : 0 ≤ b) (b1 : b < 4294967296) :
    Calls Tryd.prog 68 #[.int .u8 op, .int .u32 a, .int .u32 b] w fun e w' => e = .returned (.int .u32 (comp op a b)) ∧ w' = w := (computed_any op a b w o0 o1 a0 a1 b0 b1).mono fun _ _ ⟨he, hw⟩ => ⟨he, hw.symm⟩
theorem comp_range (op a b : Int) (a0 : 0 ≤ a) (a1 : a < 4294967296) (b0 : 0 ≤ b) (b1 : b < 4294967296) : 0 ≤ comp op a b ∧ comp op a b < 4294967296 := by
  have h1 := and_range a b
  have h2 := or_range a b
  have h3 := xor_range a b
  have hm := mul_bound a0 a1 b0 b1
  have hp : (0 : Int) < 2 ^ (b % 32).toNat := Int.pow_pos (by decide)
  have hd : 0 ≤ a / (2 : Int) ^ (b % 32).toNat ∧ a / (2 : Int) ^ (b % 32).toNat ≤ a := ⟨Int.ediv_nonneg a0 (Int.le_of_lt hp), Int.ediv_le_self _ a0⟩
  unfold comp
  (repeat' split) <;> omega
theorem Stp.drewN' {base : Nat} {w w' : World} {l l' : Lay} {m : MS} (s : Stp base w w' l l' m) (n : Nat) : Stp base w (w'.drewN n) l l' m := s.trans ⟨s.rep.drewN n, rfl, (Chg.refl _ _).drewN n, fun _ h => Or.inl h⟩
theorem IAt.drewN {w : World} {X o : Nat} {v : Int} (h : IAt w X o v) (n : Nat) : IAt (w.drewN n) X o v := h.chg ((Chg.refl (fun _ => False) _).drewN n) id

theorem holds_val (op a b : Int) (x : Bool) (w : World) (o0 : 26 ≤ op) (o1 : op ≤ 31) (a0 : 0 ≤ a) (a1 : a < 4294967296) (b0 : 0 ≤ b) (b1 : b < 4294967296) (hx : goes op a b = x) :
    Calls Tryd.prog 65 #[.int .u8 op, .int .u32 a, .int .u32 b] w fun e w' => e = .returned (.bool x) ∧ w = w' := by rw [← hx]; exact holds_any op a b w o0 o1 a0 a1 b0 b1
theorem divd_range (op a b : Int) (a0 : 0 ≤ a) (a1 : a < 4294967296) (b0 : 0 < b) : 0 ≤ divd op a b ∧ divd op a b < 4294967296 := by
  unfold divd
  have h1 : 0 ≤ a / b := Int.ediv_nonneg a0 (by omega)
  have h2 := Int.ediv_le_self b a0
  have h3 := Int.emod_nonneg a (show b ≠ 0 by omega)
  have h4 : a % b ≤ a := by
    have h5 := Int.mul_ediv_add_emod a b
    have h6 := Int.mul_nonneg (show 0 ≤ b by omega) h1
    omega
  split <;> omega
theorem halt_end {base : Nat} {w : World} {l : Lay} {m : MS} (h : MRep base w l m) (x : Int) (hx : 0 ≤ x ∧ x < 4294967296) :
    Chg (fun k => k = l.M) w ((w.setCell ⟨l.M, 36, none⟩ (.int .i64 1)).setCell ⟨l.M, 37, none⟩ (.int .u32 x)) ∧
    Stp base w ((w.setCell ⟨l.M, 36, none⟩ (.int .i64 1)).setCell ⟨l.M, 37, none⟩ (.int .u32 x)) l l { m with state := 1, code := x } := by
  have s1 := h.set1 36 (.int .i64 1) (by decide) (upd_state l m 1) ⟨h.ok.regs, h.ok.zero, h.ok.size, h.ok.mem, h.ok.place, ⟨show (0 : Int) ≤ 1 by decide, show (1 : Int) ≤ 2 by decide⟩, h.ok.code, h.ok.trap, h.ok.steps, h.ok.inp, h.ok.ilen, h.ok.out⟩ rfl rfl rfl
  have s2 := s1.1.set1 37 (.int .u32 x) (by decide) (upd_code l _ x) ⟨s1.1.ok.regs, s1.1.ok.zero, s1.1.ok.size, s1.1.ok.mem, s1.1.ok.place, s1.1.ok.state, hx, s1.1.ok.trap, s1.1.ok.steps, s1.1.ok.inp, s1.1.ok.ilen, s1.1.ok.out⟩ rfl rfl rfl
  exact ⟨s1.2.trans s2.2 (fun _ h => Or.inl h), (Stp.own s1).trans (Stp.own s2)⟩
theorem upd_vo (l : Lay) (m : MS) (v : Value) (r : List Int) : ∀ j, j < 42 → updF (mcell l m) 41 v j = mcell { l with vo := v } { m with out := r } j := by
  intro j hj'
  by_cases hj : j = 41
  · subst hj; rw [updF_same]; rfl
  · rw [updF_other _ _ hj]; unfold mcell; (repeat' split) <;> (first | rfl | omega)
/-- Behind an append to the output. -/
theorem app_end {base : Nat} {w w5 : World} {l : Lay} {m : MS} {v' : Value} {O : Obj} (h : MRep base w l m) (x : Int) (hx : 0 ≤ x ∧ x < 256)
    (hown : w5.ownsRow base 5 1 v' (m.out.length + 1) (byL m.out ++ [.int .u8 x])) (hg : (w.alloc O).grownBy w5 l.vo.ownBlock)
    (hwh : v'.ownBlock = l.vo.ownBlock ∨ ∀ k, v'.ownBlock = some k → w.heap.size ≤ k) :
    w5.cell? ⟨l.M, 41, none⟩ = some l.vo ∧ w5.frozen? ⟨l.M, 41, none⟩ = false ∧ Chg (fun k => k = l.M ∨ l.vo.ownBlock = some k) w (w5.setCell ⟨l.M, 41, none⟩ v') ∧
    Stp base w (w5.setCell ⟨l.M, 41, none⟩ v') l { l with vo := v' } { m with out := m.out ++ [x] } := by
  have hc : Chg (fun k => l.vo.ownBlock = some k) w w5 := ((Chg.refl (fun k => l.vo.ownBlock = some k) w).alloc O).grown hg (fun k e => Or.inl e)
  have nob : ∀ {b t : Nat} {cs : Array Value} {fr : Nat × Nat}, w.heap[b]? = some (.cells cs t fr) → t ≠ 5 → ¬ l.vo.ownBlock = some b := by
    intro b t cs fr hb ht e
    obtain ⟨ds, hd⟩ := own_block h.out e
    exact ne_kind hb hd ht rfl
  have hm5 := hc.same h.mac (nob h.mac (by decide))
  have hc6 : Chg (fun k => k = l.M ∨ l.vo.ownBlock = some k) w (w5.setCell ⟨l.M, 41, none⟩ v') := (hc.mono (fun _ e => Or.inr e)).setCell ⟨l.M, 41, none⟩ v' (Or.inl (Or.inl rfl))
  have sam : ∀ {b t : Nat} {cs : Array Value} {fr : Nat × Nat}, w.heap[b]? = some (.cells cs t fr) → t ≠ 5 → t ≠ 66 → (w5.setCell ⟨l.M, 41, none⟩ v').heap[b]? = some (.cells cs t fr) := by
    intro b t cs fr hb h5 h6
    exact hc6.same hb (fun e => e.elim (ne_kind hb h.mac h6) (nob hb h5))
  have hfp : ∀ k, ({ l with vo := v' } : Lay).fp k → l.fp k ∨ w.heap.size ≤ k := by
    intro k hk
    rcases hk with e | e | e | e | e | e
    · exact Or.inl (Or.inl e)
    · exact Or.inl (Or.inr (Or.inl e))
    · exact Or.inl (Or.inr (Or.inr (Or.inl e)))
    · exact Or.inl (Or.inr (Or.inr (Or.inr (Or.inl e))))
    · exact Or.inl (Or.inr (Or.inr (Or.inr (Or.inr (Or.inl e)))))
    · rcases hwh with hw | hw
      · exact Or.inl (Or.inr (Or.inr (Or.inr (Or.inr (Or.inr (hw ▸ e))))))
      · exact Or.inr (hw k e)
  refine ⟨cellV hm5 41 (by decide) rfl, freeF hm5 41, hc6, ⟨⟨?_, ?_, ?_, ?_, h.nop, ?_, ?_, ?_, ?_, ?_⟩, rfl, hc6.mono (fun k e => e.elim Or.inl (fun e => Or.inr (Or.inr (Or.inr (Or.inr (Or.inr e)))))), hfp⟩⟩
  · refine ⟨h.ok.regs, h.ok.zero, h.ok.size, h.ok.mem, h.ok.place, h.ok.state, h.ok.code, h.ok.trap, h.ok.steps, h.ok.inp, h.ok.ilen, ?_⟩
    intro y hy
    rcases List.mem_append.1 hy with hy | hy
    · exact h.ok.out y hy
    · simp only [List.mem_singleton] at hy; rw [hy]; exact hx
  · exact set_blockF hm5 (by decide) (upd_vo l m v' _)
  · exact sam h.dir (by decide) (by decide)
  · exact fun P hP => sam (h.pag P hP) (by decide) (by decide)
  · intro I hI
    obtain ⟨g, hg', hi⟩ := h.ins I hI
    exact ⟨g, hg', sam hi (by decide) (by decide)⟩
  · refine h.inp.kept fun k hk => ?_
    obtain ⟨cs, hk'⟩ := h.inp.block hk
    refine hc6.block k (lt_of_block hk') ?_
    rintro (e | e)
    · exact ne_kind hk' h.mac (by decide) e
    · rcases h.ne with en | en
      · rw [en] at hk; cases hk
      · exact en (hk.trans e.symm)
  · have hlen : (m.out ++ [x]).length = m.out.length + 1 := by simp
    have hby : byL (m.out ++ [x]) = byL m.out ++ [.int .u8 x] := by unfold byL; simp
    show (w5.setCell ⟨l.M, 41, none⟩ v').ownsRow base 5 1 v' (m.out ++ [x]).length (byL (m.out ++ [x]))
    rw [hlen, hby]
    refine own_kept hown fun k hk => Below.heap_setCell _ _ _ _ ?_
    obtain ⟨cs, hk'⟩ := own_block hown hk
    exact fun e => ne_kind hk' hm5 (by decide) e
  · show inB l.vi = none ∨ inB l.vi ≠ v'.ownBlock
    rcases hwh with hw | hw
    · rw [hw]; exact h.ne
    · cases hi : inB l.vi with
      | none => exact Or.inl rfl
      | some k =>
        right
        intro e
        have h1 := hw k e.symm
        obtain ⟨cs, hk'⟩ := h.inp.block hi
        have := lt_of_block hk'
        omega
  · intro k hk
    rcases hfp k hk with e | e
    · exact h.lb k e
    · exact Nat.le_trans h.bs e

set_option maxRecDepth 100000 in
set_option maxHeartbeats 4000000 in
theorem step_far_at {base : Nat} {w : World} {l : Lay} {m : MS} (h : MRep base w l m) (hp : (m.size : Int) ≤ m.place) :
    Calls Tryd.prog 36 #[.pointer (some ⟨l.M, 0, none⟩)] w fun e w' => e = .returned (.tuple #[]) ∧ ∃ l', Stp base w w' l l' m.step := by
  have c35 := h.c35
  have c33 := h.c33
  have hdec : decide ((m.size : Int) ≤ m.place) = true := by simpa using hp
  have HP := Lib.hid (step_far hp)
  have HH := Lib.hid h
  clear h hp
  go_enter Tryd.func36, Tryd.ntmps36
  go_wp2_with fail
  go_quiet (fail)
  obtain ⟨w1, hw1⟩ : ∃ w1, w1 = w.drewN nq := ⟨_, rfl⟩
  have s1 : Stp base w w1 l l m := by rw [hw1]; exact ⟨HH.out.drewN nq, rfl, (Chg.refl _ _).drewN nq, fun _ h => Or.inl h⟩
  rw [← hw1]
  clear hw1 c35 c33
  have hst := Lib.hid (stop_at s1.rep 3 (by decide))
  have S1 := Lib.hid s1
  clear s1
  go_wp2_with fail
  refine hst.out.mono ?_
  rintro e w5 ⟨rfl, s5⟩
  have S5 := Lib.hid s5
  clear s5
  go_wp2_with fail
  go_returns
  exact ⟨rfl, l, by rw [HP.out]; exact S1.out.trans S5.out⟩

set_option maxRecDepth 100000 in
set_option maxHeartbeats 40000000 in
theorem step_near {base : Nat} {w : World} {l : Lay} {m : MS} (h : MRep base w l m) (hE : Env w) (hb : 1 ≤ base) (hs : m.state = 0) (hlim : m.steps < 1000000) (hlo : m.out.length < 1000000) (hp : m.place < m.size) (p : Nat) (hpp : m.place = p) :
    Calls Tryd.prog 36 #[.pointer (some ⟨l.M, 0, none⟩)] w fun e w' => e = .returned (.tuple #[]) ∧ ∃ l', Stp base w w' l l' m.step := by
  have c35 := h.c35
  have c33 := h.c33
  rw [hpp] at c35 hp
  have hlt : p < m.size := by omega
  have hsz := h.ok.size
  have hdec : decide ((m.size : Int) ≤ (p : Int)) = false := by simp; omega
  have HP := Lib.hid (And.intro hpp hs)
  have HH := Lib.hid (And.intro h hE)
  clear h hpp hs hp hE
  go_enter Tryd.func36, Tryd.ntmps36
  go_wp2_with fail
  go_quiet (fail)
  obtain ⟨w1, hw1⟩ : ∃ w1, w1 = w.drewN nq := ⟨_, rfl⟩
  have s1 : Stp base w w1 l l m := by rw [hw1]; exact ⟨HH.out.1.drewN nq, rfl, (Chg.refl _ _).drewN nq, fun _ h => Or.inl h⟩
  rw [← hw1]
  clear hw1 c35 c33
  have c35 := s1.rep.c35
  rw [HP.out.1] at c35
  have S1 := Lib.hid s1
  clear s1
  go_wp2_with fail
  go_still_tail 7, (by kernel_rfl)
  change wpList _ _ _ _ _ w1.drew
  obtain ⟨w2, hw2⟩ : ∃ w2, w2 = w1.drew := ⟨_, rfl⟩
  have s2 : Stp base w w2 l l m := by rw [hw2]; exact S1.out.trans ⟨S1.out.rep.drew, rfl, (Chg.refl _ _).drew, fun _ h => Or.inl h⟩
  rw [← hw2]
  have hE2 : Env w2 := HH.out.2.chg s2.chg (fun k hk => Nat.le_trans hb (HH.out.1.lb k hk))
  clear hw2 c35 S1
  go_wp2_with fail
  refine (fetch_at s2.rep hE2 hb p hlt).mono ?_
  rintro e w3 ⟨X, o, l3, rfl, hI, s3⟩
  replace s3 := s2.trans s3
  obtain ⟨v, hv⟩ : ∃ v, v = m.mem p := ⟨_, rfl⟩
  rw [← hv] at hI
  have hvr : 0 ≤ v ∧ v < 4294967296 := by rw [hv]; exact s3.rep.ok.mem p
  have HV := Lib.hid hv
  have hM3 := s3.M
  clear s2 hE2 hv
  obtain ⟨op, d, a, b, i, k1, k2, k3, k4, k5, ⟨o0, o1⟩, d1, a1, b1, ⟨i0, i1⟩, hk⟩ := inst_of v
  have x1 := hI.cell 1 (by decide); rw [k1] at x1
  have x2 := hI.cell 2 (by decide); rw [k2] at x2
  have x3 := hI.cell 3 (by decide); rw [k3] at x3
  have x4 := hI.cell 4 (by decide); rw [k4] at x4
  have x5 := hI.cell 5 (by decide); rw [k5] at x5
  have ra := s3.rep.cr a (by omega); rw [hM3] at ra
  have rb := s3.rep.cr b (by omega); rw [hM3] at rb
  have va := s3.rep.ok.regs a
  have vb := s3.rep.ok.regs b
  have c35 := s3.rep.c35; rw [HP.out.1, hM3] at c35
  have ea : (a : Int) % 32 = a := by omega
  have eb : (b : Int) % 32 = b := by omega
  have HK := Lib.hid (And.intro hk (And.intro hI (And.intro s3 (And.intro k3 hM3))))
  clear hk k1 k2 k3 k4 k5 hI s3 hM3 hvr
  obtain ⟨va0, va1⟩ := va
  obtain ⟨vb0, vb1⟩ := vb
  go_upto_region 3 with fail
  go_quiet (fail)
  obtain ⟨w4, hw4⟩ : ∃ w4, w4 = w3.drewN nq := ⟨_, rfl⟩
  have H4 : Hid (Stp base w w4 l l3 m ∧ IAt w4 X o v) := by
    unfold Hid
    rw [hw4]
    exact ⟨HK.out.2.2.1.trans ⟨HK.out.2.2.1.rep.drewN nq, rfl, (Chg.refl _ _).drewN nq, fun _ h => Or.inl h⟩, HK.out.2.1.chg ((Chg.refl (fun _ => False) _).drewN nq) id⟩
  replace x1 : w4.cell? ⟨X, o + 1, none⟩ = some (.int .u32 i) := by rw [hw4]; exact x1
  replace x2 : w4.cell? ⟨X, o + 2, none⟩ = some (.int .u8 op) := by rw [hw4]; exact x2
  replace c35 : w4.cell? ⟨l.M, 35, none⟩ = some (.int .u32 p) := by rw [hw4]; exact c35
  rw [← hw4]
  clear hw4 x3 x4 x5 ra rb ea eb
  go_upto_block 0 with fail
  go_cut [5, 6] (fun n x wx => Sw base w l m d X o v m.step n x wx)
  case first =>
    have hM := H4.out.1.M
    rcases HK.out.1 with ⟨hd, ho⟩ | ⟨hd, ho1, hD, hop, hdd, haa, hbb, hii⟩
    · as_aux_lemma =>
      have HB : Hid (m.step = m.stop 1) := step_bad HP.out.1 hlt (by rw [← HV.out]; exact hd)
      clear hd
      subst ho
      go_wp2_with fail
      have hst := stop_at H4.out.1.rep 1 (by decide)
      rw [hM] at hst
      refine hst.mono ?_
      rintro e w5 ⟨rfl, s5⟩
      have S5 := Lib.hid s5
      clear hst s5
      go_wp2_with fail
      go_returns
      exact ⟨rfl, l3, by rw [HB.out]; exact H4.out.1.trans S5.out⟩
    · have HB : Hid (m.step = m.exec op d (m.regs a) (m.regs b) i) := by
        unfold Hid
        rw [step_ok HP.out.1 hlt (by rw [← HV.out]; exact hd), ← HV.out, ← hop, ← hdd, ← haa, ← hbb, ← hii]
      have HO := Lib.hid hD
      clear hd hD hop hdd haa hbb hii
      by_cases c24 : op = 24
      · as_aux_lemma =>
        subst c24
        obtain ⟨T, hT⟩ : ∃ T : Nat, (m.regs a + i) % 4294967296 = T := ⟨((m.regs a + i) % 4294967296).toNat, by omega⟩
        have c33' := H4.out.1.rep.c33
        rw [hM] at c33'
        by_cases hfar : m.size ≤ T
        · have HE : Hid (m.step = m.stop 2) := by
            unfold Hid
            rw [HB.out]
            unfold MS.exec
            rw [if_pos rfl, hT, if_pos (by omega)]
          have hdec2 : decide ((m.size : Int) ≤ (T : Int)) = true := by simp; omega
          have hst := stop_at H4.out.1.rep 2 (by decide)
          rw [hM] at hst
          have HT := Lib.hid hst
          clear hst HB HO
          go_wp2_with fail
          refine HT.out.mono ?_
          rintro e w5 ⟨rfl, s5⟩
          have S5 := Lib.hid s5
          clear s5
          go_wp2_with fail
          go_returns
          exact ⟨rfl, l3, by rw [HE.out]; exact H4.out.1.trans S5.out⟩
        · have hlT : T < m.size := by omega
          have HE : Hid (m.step = m.fin d (m.mem T) ((m.place + 1) % 4294967296)) := by
            unfold Hid
            rw [HB.out]
            unfold MS.exec
            rw [if_pos rfl, hT, if_neg (by omega), Int.toNat_natCast]
          have hdec2 : decide ((m.size : Int) ≤ (T : Int)) = false := by simp; omega
          have hld := H4.out.1.rep.load T hlT
          rw [hM] at hld
          have HL := Lib.hid hld
          clear hld HB HO hfar
          go_wp2_with (go_at_call 42; refine (HL.out).mono ?_; rintro e w' ⟨rfl, rfl⟩)
          go_meet
          case rel =>
            refine ⟨l3, m, _, _, rfl, rfl, H4.out.1, H4.out.2, by omega, H4.out.1.rep.ok.mem T, rfl, ?_⟩
            rw [HE.out, HP.out.1, show ((p : Int) + 1) % 4294967296 = p + 1 by omega]
      by_cases c25 : op = 25
      · as_aux_lemma =>
        subst c25
        obtain ⟨T, hT⟩ : ∃ T : Nat, (m.regs a + i) % 4294967296 = T := ⟨((m.regs a + i) % 4294967296).toNat, by omega⟩
        have c33' := H4.out.1.rep.c33
        rw [hM] at c33'
        by_cases hfar : m.size ≤ T
        · have HE : Hid (m.step = m.stop 2) := by
            unfold Hid
            rw [HB.out]
            unfold MS.exec
            rw [if_neg (by decide), if_pos rfl, hT, if_pos (by omega)]
          have hdec2 : decide ((m.size : Int) ≤ (T : Int)) = true := by simp; omega
          have hst := stop_at H4.out.1.rep 2 (by decide)
          rw [hM] at hst
          have HT := Lib.hid hst
          clear hst HB HO
          go_wp2_with fail
          refine HT.out.mono ?_
          rintro e w5 ⟨rfl, s5⟩
          have S5 := Lib.hid s5
          clear s5
          go_wp2_with fail
          go_returns
          exact ⟨rfl, l3, by rw [HE.out]; exact H4.out.1.trans S5.out⟩
        · have hlT : T < m.size := by omega
          have HE : Hid (m.step = { m with mem := updF m.mem T (m.regs b) }.fin d 0 ((m.place + 1) % 4294967296)) := by
            unfold Hid
            rw [HB.out, HO.out (Or.inl rfl)]
            unfold MS.exec
            rw [if_neg (by decide), if_pos rfl, hT, if_neg (by omega), Int.toNat_natCast]
          have hdec2 : decide ((m.size : Int) ≤ (T : Int)) = false := by simp; omega
          have hld := store_at H4.out.1.rep T (m.regs b) hlT ⟨vb0, vb1⟩
          rw [hM] at hld
          have HL := Lib.hid hld
          clear hld HB HO hfar
          go_wp2_with fail
          refine HL.out.mono ?_
          rintro e w5 ⟨rfl, hc5, l5, s5⟩
          have H5 := Lib.hid (And.intro hc5 s5)
          clear hc5 s5
          go_wp2_with fail
          go_meet
          case rel =>
            obtain ⟨hc5, s5⟩ := H5.out
            obtain ⟨s4, hI4⟩ := H4.out
            refine ⟨l5, _, _, _, rfl, rfl, s4.trans s5, hI4.chg hc5 ?_, by omega, by omega, rfl, ?_⟩
            · rintro (e | e)
              · exact hI4.ne s4.rep.dir (by decide) (by decide) e.symm
              · exact hI4.ne (s4.rep.pag X e) (by decide) (by decide) rfl
            · rw [HE.out, HP.out.1, show ((p : Int) + 1) % 4294967296 = p + 1 by omega]
      by_cases c26 : 26 ≤ op ∧ op ≤ 31
      · as_aux_lemma =>
        have h0 := HO.out (Or.inr (Or.inl c26))
        cases hg : goes op (m.regs a) (m.regs b)
        · have HE : Hid (m.step = m.fin d 0 ((m.place + 1) % 4294967296)) := by
            unfold Hid
            rw [HB.out, h0]
            unfold MS.exec
            rw [if_neg c24, if_neg c25, if_pos c26, hg]
            rfl
          have HG := Lib.hid hg
          clear HB HO c24 c25 hg h0
          rcases (show op = 26 ∨ op = 27 ∨ op = 28 ∨ op = 29 ∨ op = 30 ∨ op = 31 by omega) with rfl | rfl | rfl | rfl | rfl | rfl
          all_goals
            clear c26
            go_wp2_with (go_at_call 65; refine (holds_val _ _ _ _ _ (by decide) (by decide) va0 va1 vb0 vb1 HG.out).mono ?_; rintro e w' ⟨rfl, rfl⟩)
            go_meet
            case rel =>
              refine ⟨l3, m, _, _, rfl, rfl, H4.out.1, H4.out.2, by omega, by omega, rfl, ?_⟩
              rw [HE.out, HP.out.1, show ((p : Int) + 1) % 4294967296 = p + 1 by omega]
        · have HE : Hid (m.step = m.fin d 0 (((m.place + 1) % 4294967296 + i) % 4294967296)) := by
            unfold Hid
            rw [HB.out, h0]
            unfold MS.exec
            rw [if_neg c24, if_neg c25, if_pos c26, hg]
            rfl
          have HG := Lib.hid hg
          clear HB HO c24 c25 hg h0
          rcases (show op = 26 ∨ op = 27 ∨ op = 28 ∨ op = 29 ∨ op = 30 ∨ op = 31 by omega) with rfl | rfl | rfl | rfl | rfl | rfl
          all_goals
            clear c26
            go_wp2_with (go_at_call 65; refine (holds_val _ _ _ _ _ (by decide) (by decide) va0 va1 vb0 vb1 HG.out).mono ?_; rintro e w' ⟨rfl, rfl⟩)
            go_meet
            case rel =>
              refine ⟨l3, m, _, _, rfl, rfl, H4.out.1, H4.out.2, by omega, by omega, rfl, ?_⟩
              rw [HE.out, HP.out.1, show ((p : Int) + 1) % 4294967296 = p + 1 by omega]
      by_cases c32 : op = 32
      · as_aux_lemma =>
        have HE : Hid (m.step = m.fin d ((m.place + 1) % 4294967296) (((m.place + 1) % 4294967296 + i) % 4294967296)) := by
          unfold Hid
          rw [HB.out]
          unfold MS.exec
          rw [if_neg c24, if_neg c25, if_neg c26, if_pos c32]
        subst c32
        clear HB HO c24 c25 c26
        go_wp2_with fail
        go_quiet (fail)
        go_wp2_with fail
        go_meet
        case rel =>
          refine ⟨l3, m, _, _, rfl, rfl, H4.out.1.drewN' nq, H4.out.2.drewN nq, by omega, by omega, rfl, ?_⟩
          rw [HE.out, HP.out.1, show ((p : Int) + 1) % 4294967296 = p + 1 by omega]
      by_cases c33 : op = 33
      · as_aux_lemma =>
        have HE : Hid (m.step = m.fin d ((m.place + 1) % 4294967296) ((m.regs a + i) % 4294967296)) := by
          unfold Hid
          rw [HB.out]
          unfold MS.exec
          rw [if_neg c24, if_neg c25, if_neg c26, if_neg c32, if_pos c33]
        subst c33
        clear HB HO c24 c25 c26 c32
        go_wp2_with fail
        go_quiet (fail)
        go_wp2_with fail
        go_meet
        case rel =>
          refine ⟨l3, m, _, _, rfl, rfl, H4.out.1.drewN' nq, H4.out.2.drewN nq, by omega, by omega, rfl, ?_⟩
          rw [HE.out, HP.out.1, show ((p : Int) + 1) % 4294967296 = p + 1 by omega]
      by_cases c34 : op = 34
      · as_aux_lemma =>
        have HE : Hid (m.step = { m with inp := m.inp.tail }.fin d (m.inp.headD 4294967295) ((m.place + 1) % 4294967296)) := by
          unfold Hid
          rw [HB.out]
          unfold MS.exec
          rw [if_neg c24, if_neg c25, if_neg c26, if_neg c32, if_neg c33, if_pos c34]
        subst c34
        have hrd := read_at H4.out.1.rep
        rw [hM] at hrd
        have HL := Lib.hid hrd
        clear HB HO c24 c25 c26 c32 c33 hrd
        go_wp2_with fail
        refine HL.out.mono ?_
        rintro e w5 ⟨rfl, hc5, l5, s5⟩
        have H5 := Lib.hid (And.intro hc5 s5)
        clear hc5 s5
        go_wp2_with fail
        go_meet
        case rel =>
          obtain ⟨hc5, s5⟩ := H5.out
          obtain ⟨s4, hI4⟩ := H4.out
          refine ⟨l5, _, _, _, rfl, rfl, s4.trans s5, hI4.chg hc5 ?_, by omega, ?_, rfl, ?_⟩
          · intro e
            have hm4 := s4.rep.mac
            rw [hM] at hm4
            exact hI4.ne hm4 (by decide) (by decide) e.symm
          · have := s4.rep.ok.inp
            cases hin : m.inp with
            | nil => exact ⟨by decide, by decide⟩
            | cons y r => have := this y (by rw [hin]; exact List.mem_cons_self ..); show 0 ≤ y ∧ y < 4294967296; omega
          · rw [HE.out, HP.out.1, show ((p : Int) + 1) % 4294967296 = p + 1 by omega, List.headD_eq_head?_getD]
      by_cases c35' : op = 35
      · as_aux_lemma =>
        have HE : Hid (m.step = { m with out := m.out ++ [m.regs a % 256] }.fin d 0 ((m.place + 1) % 4294967296)) := by
          unfold Hid
          rw [HB.out, HO.out (by omega)]
          unfold MS.exec
          rw [if_neg c24, if_neg c25, if_neg c26, if_neg c32, if_neg c33, if_neg c34, if_pos c35']
        subst c35'
        obtain ⟨j0, hj, hz0, hz1, hz2⟩ := infoB_of
        have c41 := H4.out.1.rep.c41
        rw [hM] at c41
        obtain ⟨vo, hvo⟩ : ∃ vo, vo = l3.vo := ⟨_, rfl⟩
        have HVO := Lib.hid hvo
        rw [← hvo] at c41
        have hmb := lt_of_block H4.out.1.rep.mac
        rw [hM] at hmb
        have cA : ∀ O, (w4.alloc O).cell? ⟨l.M, 41, none⟩ = some vo := fun O => (World.cell?_alloc_lt _ _ _ hmb).trans c41
        have hown := H4.out.1.rep.out
        rw [← hvo] at hown
        have HOW := Lib.hid hown
        clear HB HO c24 c25 c26 c32 c33 c34 hvo hown
        have hbw := H4.out.1.rep.bs
        go_wp2_with (first
          | (at_builtin; refine wpList_append_at rfl _ _ 23 rfl base 5 j0 (.int .u8 0) 1 Tryd.underlying23 hj hz0 hz1 hz2 rfl _ _ _ rfl (HOW.out.alloc _) ⟨w4.heap.size, 0, none⟩ 1 (.int .u8 (m.regs a % 256)) rfl (by simp) rfl (by omega) (by omega) (by simp; omega) ?_)
          | fail)
        · intro v' w5 hown' hgrow hwh
          obtain ⟨va, vk, vc, rfl⟩ : ∃ a k c, v' = .slice a k c := by rcases hown'.2 with ⟨h, -⟩ | ⟨g, cap, cur, h, -⟩ <;> exact ⟨_, _, _, h⟩
          have h5 := app_end H4.out.1.rep (m.regs a % 256) (by omega) hown' (by rw [← HVO.out]; exact hgrow) (by rw [← HVO.out]; exact hwh.imp id (fun hw k hk => by have := hw k hk; first | omega | (simp at this; omega)))
          rw [hM] at h5
          obtain ⟨hm5, fm5, h5⟩ := h5
          have H5 := Lib.hid h5
          clear hown' hgrow hwh cA h5 hbw
          go_wp2_with fail
          go_meet
          case rel =>
            obtain ⟨hc5, s5⟩ := H5.out
            obtain ⟨s4, hI4⟩ := H4.out
            refine ⟨_, _, _, _, rfl, rfl, s4.trans s5, hI4.chg hc5 ?_, by omega, by omega, rfl, ?_⟩
            · rintro (e | e)
              · have hm4 := s4.rep.mac
                rw [hM] at hm4
                exact hI4.ne hm4 (by decide) (by decide) e.symm
              · obtain ⟨cs, hk⟩ := own_block s4.rep.out e
                exact hI4.ne hk (by decide) (by decide) rfl
            · rw [HE.out, HP.out.1, show ((p : Int) + 1) % 4294967296 = p + 1 by omega]
      by_cases c36 : op = 36
      · as_aux_lemma =>
        have HE : Hid (m.step = { m with state := 1, code := m.regs a }.fin d 0 m.place) := by
          unfold Hid
          rw [HB.out, HO.out (by omega)]
          unfold MS.exec
          rw [if_neg c24, if_neg c25, if_neg c26, if_neg c32, if_neg c33, if_neg c34, if_neg c35', if_pos c36]
        subst c36
        have hm4 := H4.out.1.rep.mac
        rw [hM] at hm4
        have f36 := freeF hm4 36
        have f37 := freeF hm4 37
        have y36 := H4.out.1.rep.c36
        have y37 := H4.out.1.rep.c37
        rw [hM] at y36 y37
        clear HB HO c24 c25 c26 c32 c33 c34 c35' hm4
        go_wp2_with fail
        go_meet
        case rel =>
          obtain ⟨s4, hI4⟩ := H4.out
          have h5 := halt_end s4.rep (m.regs a) ⟨va0, va1⟩
          rw [hM] at h5
          refine ⟨l3, _, _, _, rfl, rfl, s4.trans h5.2, hI4.chg h5.1 ?_, by omega, by omega, rfl, ?_⟩
          · intro e
            have hm4 := s4.rep.mac
            rw [hM] at hm4
            exact hI4.ne hm4 (by decide) (by decide) e.symm
          · rw [HE.out, HP.out.1]
      by_cases c5 : op = 5 ∨ op = 6
      · as_aux_lemma =>
        by_cases hz : m.regs b = 0
        · have HE : Hid (m.step = m.stop 4) := by
            unfold Hid
            rw [HB.out]
            unfold MS.exec
            rw [if_neg c24, if_neg c25, if_neg c26, if_neg c32, if_neg c33, if_neg c34, if_neg c35', if_neg c36, if_pos c5, if_pos hz]
          have hz' : (m.regs b == 0) = true := by rw [hz]; rfl
          have hst := stop_at H4.out.1.rep 4 (by decide)
          rw [hM] at hst
          have HT := Lib.hid hst
          clear hst HB HO c24 c25 c26 c32 c33 c34 c35' c36 hz
          rcases c5 with rfl | rfl
          all_goals
            go_wp2_with fail
            refine HT.out.mono ?_
            rintro e w5 ⟨rfl, s5⟩
            have S5 := Lib.hid s5
            clear s5
            go_wp2_with fail
            go_returns
            exact ⟨rfl, l3, by rw [HE.out]; exact H4.out.1.trans S5.out⟩
        · have HE : Hid (m.step = m.fin d (divd op (m.regs a) (m.regs b)) ((m.place + 1) % 4294967296)) := by
            unfold Hid
            rw [HB.out]
            unfold MS.exec
            rw [if_neg c24, if_neg c25, if_neg c26, if_neg c32, if_neg c33, if_neg c34, if_neg c35', if_neg c36, if_pos c5, if_neg hz]
          have hz' : (m.regs b == 0) = false := beq_eq_false_iff_ne.2 hz
          have HZ := Lib.hid hz
          have hdr := divd_range op (m.regs a) (m.regs b) va0 va1 (by omega)
          clear HB HO c24 c25 c26 c32 c33 c34 c35' c36 hz
          rcases c5 with rfl | rfl
          all_goals
            go_wp2_with (go_at_call 67; refine (divided_any _ _ _ _ (by decide) HZ.out va0 va1 vb0 vb1).mono ?_; rintro e w' ⟨rfl, rfl⟩)
            go_meet
            case rel =>
              refine ⟨l3, m, _, _, rfl, rfl, H4.out.1, H4.out.2, by omega, hdr, rfl, ?_⟩
              rw [HE.out, HP.out.1, show ((p : Int) + 1) % 4294967296 = p + 1 by omega]
      as_aux_lemma =>
      -- the others
      have n0 : (op == 0) = false := beq_eq_false_iff_ne.2 (by omega)
      have n5 : (op == 5) = false := beq_eq_false_iff_ne.2 (by omega)
      have n6 : (op == 6) = false := beq_eq_false_iff_ne.2 (by omega)
      have n24 : (op == 24) = false := beq_eq_false_iff_ne.2 (by omega)
      have n25 : (op == 25) = false := beq_eq_false_iff_ne.2 (by omega)
      have n26 : (op == 26) = false := beq_eq_false_iff_ne.2 (by omega)
      have n27 : (op == 27) = false := beq_eq_false_iff_ne.2 (by omega)
      have n28 : (op == 28) = false := beq_eq_false_iff_ne.2 (by omega)
      have n29 : (op == 29) = false := beq_eq_false_iff_ne.2 (by omega)
      have n30 : (op == 30) = false := beq_eq_false_iff_ne.2 (by omega)
      have n31 : (op == 31) = false := beq_eq_false_iff_ne.2 (by omega)
      have n32 : (op == 32) = false := beq_eq_false_iff_ne.2 (by omega)
      have n33 : (op == 33) = false := beq_eq_false_iff_ne.2 (by omega)
      have n34 : (op == 34) = false := beq_eq_false_iff_ne.2 (by omega)
      have n35 : (op == 35) = false := beq_eq_false_iff_ne.2 (by omega)
      have n36 : (op == 36) = false := beq_eq_false_iff_ne.2 (by omega)
      have HE : Hid (m.step = m.fin d (comp op (m.regs a) ((m.regs b + i) % 4294967296)) ((m.place + 1) % 4294967296)) := by
        unfold Hid
        rw [HB.out]
        unfold MS.exec
        rw [if_neg c24, if_neg c25, if_neg c26, if_neg c32, if_neg c33, if_neg c34, if_neg c35', if_neg c36, if_neg c5]
      clear c24 c25 c26 c32 c33 c34 c35' c36 c5 HB HO
      go_wp2_with fail
      go_quiet ((go_at_call 68; exact Calls.quiet_of_same (computed_q op (m.regs a) ((m.regs b + i) % 4294967296) _ o0 (by omega) va0 va1 (by omega) (by omega))))
      go_wp2_with fail
      go_meet
      case rel =>
        have hcr := comp_range op (m.regs a) ((m.regs b + i) % 4294967296) va0 va1 (by omega) (by omega)
        refine ⟨l3, m, _, _, rfl, rfl, H4.out.1.drewN' nq, H4.out.2.drewN nq, by omega, hcr, rfl, ?_⟩
        rw [HE.out, HP.out.1, show ((p : Int) + 1) % 4294967296 = p + 1 by omega]
  case rest =>
    obtain ⟨l2, m2, next, dv, rfl, rfl, s5, hI5, ⟨n0, n1⟩, ⟨v0, v1⟩, hst, hr⟩ := hcut
    have x3' := hI5.cell 3 (by decide)
    rw [HK.out.2.2.2.1] at x3'
    have hM5 := s5.M
    have hm5 := s5.rep.mac
    rw [hM5] at hm5
    have hne : l.M ≠ X := by rw [← hM5]; exact hI5.ne s5.rep.mac (by decide) (by decide)
    have ed : (d : Int) % 32 = d := by omega
    have cd := s5.rep.cr d (by omega)
    rw [hM5] at cd
    have fd := freeF hm5 (1 + d)
    have hs5 := s5.rep.ok.steps
    rw [hst] at hs5
    have HR := Lib.hid (And.intro s5 (And.intro hM5 (And.intro hm5 (And.intro hst hr))))
    clear s5 hI5 hM5 hm5 hst hr hne
    go_upto_region 43 with fail
    go_region
    obtain ⟨wz, hwz⟩ : ∃ wz, wz = (wc.setCell ⟨l.M, 1 + d, none⟩ (.int .u32 dv)).drew := ⟨_, rfl⟩
    have hcz : Chg (fun k => k = l.M) wc wz := by rw [hwz]; exact ((Chg.refl (fun k => k = l.M) wc).setCell ⟨l.M, 1 + d, none⟩ (.int .u32 dv) (Or.inl rfl)).drew
    have hbz : wz.heap[l.M]? = some (.cells (cellsF 42 (updF (mcell l2 m2) (1 + d) (.int .u32 dv))) 66 (0, 0)) := by
      rw [hwz]
      exact set_blockF HR.out.2.2.1 (by omega) (fun _ _ => rfl)
    rw [← hwz]
    clear hwz cd fd x3'
    have y1 := cellF hbz 1 (by decide)
    have y35 : wz.cell? ⟨l.M, 35, none⟩ = some (.int .u32 m2.place) := cellV hbz 35 (by decide) (by rw [updF_other _ _ (by omega)]; rfl)
    have y39 : wz.cell? ⟨l.M, 39, none⟩ = some (.int .i64 m.steps) := cellV hbz 39 (by decide) (by rw [updF_other _ _ (by omega), ← HR.out.2.2.2.1]; rfl)
    have g1 := freeF hbz 1
    have g35 := freeF hbz 35
    have g39 := freeF hbz 39
    have HZ := Lib.hid (And.intro hcz hbz)
    clear hcz hbz
    go_wp2_with fail
    go_returns
    obtain ⟨s5, hM5, hm5, hst, hr⟩ := HR.out
    obtain ⟨hcz, hbz⟩ := HZ.out
    refine ⟨rfl, l2, ?_⟩
    exact s5.trans (fin_end s5.rep hM5 hst hr ⟨n0, n1⟩ ⟨v0, v1⟩ d1 hcz hbz)
end Go.Proofs.YtknnmacmohpanaaDoor
