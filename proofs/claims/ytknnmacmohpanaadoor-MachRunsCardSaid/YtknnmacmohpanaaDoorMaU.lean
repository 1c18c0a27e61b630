/- Machines side by side; the walk of works. Conditions: the forms' table is as laid. -/
import Derived.Test.YtknnmacmohpanaaDoorMaR
import Derived.Laws.BytesArg
namespace Go.Proofs.YtknnmacmohpanaaDoor
open Go.RowKit

def Ap (a b : Lay) : Prop := ∀ k, a.fp k → ¬ b.fp k
theorem Ap.symm {a b : Lay} (h : Ap a b) : Ap b a := fun k hb ha => h k ha hb
theorem MRep.base {b b' : Nat} {w : World} {l : Lay} {m : MS} (h : MRep b w l m) (hb : b' ≤ b) : MRep b' w l m :=
  ⟨h.ok, h.mac, h.dir, h.pag, h.nop, h.ins, h.inp, own_base h.out hb, h.ne, fun k hk => Nat.le_trans hb (h.lb k hk)⟩
/-- Machines that share nothing. -/
structure Ms (base : Nat) (w : World) (L : List (Lay × MS)) : Prop where
  rep : ∀ p ∈ L, MRep base w p.1 p.2
  ap : L.Pairwise fun p q => Ap p.1 q.1
theorem Ms.nil (base : Nat) (w : World) : Ms base w [] := ⟨fun _ h => absurd h List.not_mem_nil, List.Pairwise.nil⟩
theorem Ms.below {base : Nat} {w w' : World} {L : List (Lay × MS)} (h : Ms base w L) (hb : Below w.heap.size w w') : Ms base w' L := ⟨fun p hp => (h.rep p hp).below hb, h.ap⟩
theorem Ms.tail {base : Nat} {w : World} {p : Lay × MS} {L : List (Lay × MS)} (h : Ms base w (p :: L)) : Ms base w L := ⟨fun q hq => h.rep q (List.mem_cons_of_mem _ hq), (List.pairwise_cons.1 h.ap).2⟩
theorem Ms.head {base : Nat} {w : World} {p : Lay × MS} {L : List (Lay × MS)} (h : Ms base w (p :: L)) : MRep base w p.1 p.2 := h.rep p (List.mem_cons_self ..)
/-- A new machine joins. -/
theorem Ms.add {base : Nat} {w w' : World} {L : List (Lay × MS)} {l : Lay} {m : MS} (h : Ms base w L) (hbs : base ≤ w.heap.size) (hm : MRep w.heap.size w' l m) (hb : Below w.heap.size w w') : Ms base w' (L ++ [(l, m)]) := by
  refine ⟨fun p hp => ?_, ?_⟩
  · rcases List.mem_append.1 hp with hp | hp
    · exact (h.rep p hp).below hb
    · obtain rfl := List.mem_singleton.1 hp
      exact hm.base hbs
  · refine List.pairwise_append.2 ⟨h.ap, List.pairwise_singleton _ _, fun p hp q hq => ?_⟩
    obtain rfl := List.mem_singleton.1 hq
    intro k hk hk2
    have h1 := (h.rep p hp).lt hk
    have h2 := hm.lb k hk2
    exact absurd h1 (Nat.not_lt.2 h2)
/-- The first machine goes on. -/
theorem Ms.stp {base : Nat} {w w' : World} {L : List (Lay × MS)} {l l' : Lay} {m m' : MS} (h : Ms base w ((l, m) :: L)) (s : Stp base w w' l l' m') : Ms base w' ((l', m') :: L) := by
  have hp := List.pairwise_cons.1 h.ap
  refine ⟨fun p hp' => ?_, List.pairwise_cons.2 ⟨fun q hq k hk hk2 => ?_, hp.2⟩⟩
  · rcases List.mem_cons.1 hp' with rfl | hq
    · exact s.rep
    · exact (h.tail.rep p hq).chg s.chg fun k hk hk2 => hp.1 p hq k hk2 hk
  · rcases s.new k hk with h1 | h1
    · exact hp.1 q hq k h1 hk2
    · exact absurd ((h.tail.rep q hq).lt hk2) (Nat.not_lt.2 h1)

/-- Machines in a call that began at W. -/
structure Sit (W w : World) (L : List (Lay × MS)) : Prop where
  below : Below W.heap.size W w
  env : Env w
  one : 1 ≤ W.heap.size
  ms : Ms W.heap.size w L
namespace Sit
variable {W w w' : World} {L : List (Lay × MS)} {l : Lay} {m : MS}
theorem start (h : Env W) : Sit W W [] := ⟨Below.refl _ _, h, h.size, Ms.nil _ _⟩
theorem grow (s : Sit W w L) (hb : Below w.heap.size w w') : Sit W w' L := ⟨s.below.trans (hb.mono s.below.size), s.env.below hb, s.one, s.ms.below hb⟩
theorem alloc (s : Sit W w L) (o : Obj) : Sit W (w.alloc o) L := s.grow ((Below.refl _ _).alloc (Nat.le_refl _) o)
theorem drew (s : Sit W w L) : Sit W w.drew L := s.grow (Below.refl _ _).drew
theorem drewN (s : Sit W w L) (n : Nat) : Sit W (w.drewN n) L := s.grow (below_drewN (Below.refl _ _) n)
theorem tail {p : Lay × MS} (s : Sit W w (p :: L)) : Sit W w L := ⟨s.below, s.env, s.one, s.ms.tail⟩
theorem rep (s : Sit W w ((l, m) :: L)) : MRep W.heap.size w l m := s.ms.head
theorem perm {L' : List (Lay × MS)} (s : Sit W w L) (h : L.Perm L') : Sit W w L' :=
  ⟨s.below, s.env, s.one, fun p hp => s.ms.rep p (h.mem_iff.2 hp), (h.pairwise_iff (fun {a b} (hab : Ap a.1 b.1) => hab.symm)).1 s.ms.ap⟩
theorem swap {p q : Lay × MS} (s : Sit W w (p :: q :: L)) : Sit W w (q :: p :: L) := s.perm (List.Perm.swap _ _ _)
theorem add (s : Sit W w L) (hm : MRep w.heap.size w' l m) (hb : Below w.heap.size w w') : Sit W w' ((l, m) :: L) :=
  (⟨s.below.trans (hb.mono s.below.size), s.env.below hb, s.one, s.ms.add s.below.size hm hb⟩ : Sit W w' (L ++ [(l, m)])).perm (List.perm_append_comm)
theorem stp {l' : Lay} {m' : MS} (s : Sit W w ((l, m) :: L)) (t : Stp W.heap.size w w' l l' m') : Sit W w' ((l', m') :: L) :=
  ⟨s.below.trans (t.chg.below s.below.size (fun i hi => s.rep.lb i hi)), s.env.chg t.chg (fun i hi => Nat.le_trans s.one (s.rep.lb i hi)), s.one, s.ms.stp t⟩
theorem word {op d a b imm v : Int} (s : Sit W w L) (ho : Isa.ok op d a b imm = true) (hv : Isa.word op d a b imm = v) :
    Calls Tryd.prog 28 #[.agg #[.int .i64 op, .int .i64 d, .int .i64 a, .int .i64 b, .int .i64 imm]] w fun e w' => e = .returned (.int .u32 v) ∧ Sit W w' L :=
  (word_any op d a b imm v w s.env ho hv).mono fun _ _ ⟨he, hb⟩ => ⟨he, s.grow hb⟩
theorem new {vw vb : Value} {ws bs : List Int} (s : Sit W w L) (n : Int) (N : Nat) (hN : n = N) (hw : WRead w vw ws) (hb : BRead w vb bs) (hkn : ws.length ≤ N) (hn : N ≤ 1024) (h1 : 1 ≤ N) (hl : bs.length ≤ 1000) (hws : ∀ x ∈ ws, 0 ≤ x ∧ x < 4294967296) (hbs : ∀ x ∈ bs, 0 ≤ x ∧ x < 256) :
    Calls Tryd.prog 27 #[vw, .int .i64 n, vb] w fun e w' => ∃ l, e = .returned (.tuple #[.pointer (some ⟨l.M, 0, none⟩), .int .i64 0]) ∧ Below w.heap.size w w' ∧ Sit W w' ((l, MS.new ws N bs) :: L) := by
  subst hN
  exact (new_ok vw vb N ws bs w hw hb hkn hn h1 hl hws hbs).mono fun _ _ ⟨l, he, hm, hb⟩ => ⟨l, he, hb, s.add hm hb⟩
theorem newBad (s : Sit W w L) (p : Option Addr) (k c : Nat) (n : Int) (vb : Value) (hn : n < 1 ∨ 335544320 < n ∨ n < k) :
    Calls Tryd.prog 27 #[.slice p k c, .int .i64 n, vb] w fun e w' => e = .returned (.tuple #[.pointer none, .int .i64 2]) ∧ Sit W w' L :=
  (new_bad p k c n vb w hn).mono fun _ _ ⟨he, hw⟩ => ⟨he, hw ▸ s⟩
theorem run {m' : MS} {st : Int} {M : Nat} (s : Sit W w ((l, m) :: L)) (hM : l.M = M) (n : Int) (hm : MS.run n.toNat m = m') (hst : m'.state = st) (hlim : m.steps + n ≤ 1000000) (hlo : (m.out.length : Int) + n ≤ 1000000) :
    Calls Tryd.prog 13 #[.pointer (some ⟨M, 0, none⟩), .int .i64 n] w fun e w' => e = .returned (.int .i64 st) ∧ ∃ l', l'.M = M ∧ Sit W w' ((l', m') :: L) := by
  subst hst hm hM
  exact (run_at s.rep s.env s.one n hlim hlo).mono fun _ _ ⟨he, l', t⟩ => ⟨he, l', t.M, s.stp t⟩
theorem step {m' : MS} {st : Int} {M : Nat} (s : Sit W w ((l, m) :: L)) (hM : l.M = M) (hm : MS.run 1 m = m') (hst : m'.state = st) (hlim : m.steps < 1000000) (hlo : m.out.length < 1000000) :
    Calls Tryd.prog 10 #[.pointer (some ⟨M, 0, none⟩)] w fun e w' => e = .returned (.int .i64 st) ∧ ∃ l', l'.M = M ∧ Sit W w' ((l', m') :: L) := by
  subst hst hm hM
  exact (stepM_at s.rep s.env s.one hlim hlo).mono fun _ _ ⟨he, l', t⟩ => ⟨he, l', t.M, s.stp t⟩
theorem copy {M : Nat} (s : Sit W w ((l, m) :: L)) (hM : l.M = M) (ho : m.out.length ≤ 1000000) :
    Calls Tryd.prog 18 #[.pointer (some ⟨M, 0, none⟩)] w fun e w' => ∃ l', e = .returned (.pointer (some ⟨l'.M, 0, none⟩)) ∧ Sit W w' ((l', m) :: (l, m) :: L) := by
  subst hM
  exact (copy_at s.rep ho).mono fun _ _ ⟨l', he, hm, hb⟩ => ⟨l', he, s.add hm hb⟩
/-- Out, and what string makes of it. -/
theorem out {bs : List Int} {M : Nat} (s : Sit W w ((l, m) :: L)) (hM : l.M = M) (n : Nat) (ho : m.out.length ≤ 1000000) (hb : m.out = bs) (hn : bs.length = n) :
    Calls Tryd.prog 21 #[.pointer (some ⟨M, 0, none⟩)] w fun e w' => ∃ a c, e = .returned (.slice a n c) ∧ (∀ w'', Below w'.heap.size w' w'' → (convert 23 9 (.slice a n c)).run Tryd.prog w'' = .ok (.string (strOfNums bs)) w'') ∧ Sit W w' ((l, m) :: L) := by
  subst hb hn hM
  refine (out_at s.rep ho).mono ?_
  rintro _ w' ⟨v, he, hO, hb⟩
  have hc := fun g hg => hO.cells (g := g) hg
  have hlt := hO.lt
  rcases hO.2 with ⟨rfl, h0⟩ | ⟨g, cap, cur, rfl, -⟩
  · refine ⟨none, 0, by rw [he, h0], fun w'' hb'' => ?_, s.grow hb⟩
    rw [List.eq_nil_of_length_eq_zero h0]
    exact run_convert_bytes_nil w'' 23 5 Tryd.underlying23 Tryd.underlying5 _ _ 9 Tryd.underlying9
  · refine ⟨some ⟨g, 0, none⟩, cap, he, fun w'' hb'' => ?_, s.grow hb⟩
    refine run_convert_bytes_arg w'' 23 5 Tryd.underlying23 Tryd.underlying5 g 0 _ cap m.out rfl (fun i hi => ?_) 9 Tryd.underlying9
    have h1 := hc g rfl i (.int .u8 (m.out.getD i 0)) (by unfold byL; rw [List.getElem?_map, List.getElem?_eq_getElem hi]; simp [List.getD, List.getElem?_eq_getElem hi])
    exact (hb''.cell (hlt g rfl).2).trans (by rw [Addr.add_mid] at h1; exact h1)
theorem val {M : Nat} (s : Sit W w ((l, m) :: L)) (hM : l.M = M) : w.cell? ⟨M, 0, none⟩ = some (.pointer (some ⟨M, 0, none⟩)) ∧ w.cell? ⟨M, 35, none⟩ = some (.int .u32 m.place) ∧ w.cell? ⟨M, 36, none⟩ = some (.int .i64 m.state) ∧ w.cell? ⟨M, 37, none⟩ = some (.int .u32 m.code) ∧ w.cell? ⟨M, 38, none⟩ = some (.int .i64 m.trap) ∧ w.cell? ⟨M, 39, none⟩ = some (.int .i64 m.steps) := by
  subst hM
  exact ⟨s.rep.c0, s.rep.c35, s.rep.c36, s.rep.c37, s.rep.c38, s.rep.c39⟩
end Sit
theorem wlit (w : World) (ws : List Int) (hne : ws ≠ []) (h : ws.length ≤ 1000) : WRead (w.alloc (.cells (byW ws).toArray 38)) (.slice (some ⟨w.heap.size, 0, none⟩) ws.length ws.length) ws := by
  refine Or.inr ⟨hne, _, _, rfl, Nat.le_refl _, by omega, fun j u hj => ?_⟩
  rw [show (⟨w.heap.size, 0, none⟩ : Addr).add j = ⟨w.heap.size, j, none⟩ by rw [Addr.add_mid, Nat.zero_add], cell_of_block (heap_new w _)]
  simpa using hj
theorem blit (w : World) (bs : List Int) : BRead (w.alloc (.cells (byL bs).toArray 5)) (.slice (some ⟨w.heap.size, 0, none⟩) bs.length bs.length) bs := by
  refine Or.inr ⟨_, _, rfl, fun j u hj => ?_⟩
  rw [show (⟨w.heap.size, 0, none⟩ : Addr).add j = ⟨w.heap.size, j, none⟩ by rw [Addr.add_mid, Nat.zero_add], cell_of_block (heap_new w _)]
  simpa using hj
theorem bnil (w : World) : BRead w (.slice none 0 0) [] := Or.inl ⟨rfl, rfl⟩

theorem ok1 : Isa.ok 15 4 0 0 65 = true := by decide
theorem ok2 : Isa.ok 35 0 4 0 0 = true := by decide
theorem ok3 : Isa.ok 36 0 4 0 0 = true := by decide
theorem w1 : Isa.word 15 4 0 0 65 = 1015021633 := by decide
theorem w2 : Isa.word 35 0 4 0 0 = 2357198848 := by decide
theorem w3 : Isa.word 36 0 4 0 0 = 2424307712 := by decide
theorem mworks : (MS.run 10 (MS.new [1015021633, 2357198848, 2424307712] 10 [])).state = 1 ∧ (MS.run 10 (MS.new [1015021633, 2357198848, 2424307712] 10 [])).code = 65 ∧ (MS.run 10 (MS.new [1015021633, 2357198848, 2424307712] 10 [])).out = [65] ∧ (MS.run 10 (MS.new [1015021633, 2357198848, 2424307712] 10 [])).steps = 3 ∧ (MS.run 10 (MS.new [1015021633, 2357198848, 2424307712] 10 [])).place = 2 := by decide +kernel
set_option maxRecDepth 100000 in
set_option maxHeartbeats 4000000 in
theorem works_any (w : World) (h : Env w) : Calls Tryd.prog 9 #[] w fun e w' => e = .returned (.bool true) ∧ Below w.heap.size w w' := by
  have S0 := Lib.hid (Sit.start h)
  clear h
  go_enter Tryd.func9, Tryd.ntmps9
  go_wp2_with fail
  refine (S0.out.word ok1 w1).mono ?_
  rintro e wA ⟨rfl, s⟩
  have SA := Lib.hid s
  clear s
  go_wp2_with fail
  refine (SA.out.word ok2 w2).mono ?_
  rintro e wB ⟨rfl, s⟩
  have SB := Lib.hid s
  clear s
  go_wp2_with fail
  refine (SB.out.word ok3 w3).mono ?_
  rintro e wC ⟨rfl, s⟩
  have SC := Lib.hid s
  clear s
  go_wp2_with fail
  refine ((SC.out.alloc _).new 10 10 rfl (wlit wC [1015021633, 2357198848, 2424307712] (by decide) (by decide)) (bnil _) (by decide) (by decide) (by decide) (by decide) (by decide) (by decide)).mono ?_
  rintro e wD ⟨l, rfl, -, s⟩
  have SD := Lib.hid s
  clear s
  go_wp2_with fail
  obtain ⟨m, hm⟩ : ∃ m, m = MS.run 10 (MS.new [1015021633, 2357198848, 2424307712] 10 []) := ⟨_, rfl⟩
  have MW := mworks
  rw [← hm] at MW
  obtain ⟨k1, k2, k3, k4, k5⟩ := MW
  refine (SD.out.run rfl 10 hm.symm k1 (by decide) (by decide)).mono ?_
  rintro e wE ⟨rfl, l2, hl, s⟩
  have SE := Lib.hid s
  obtain ⟨c0, c35, -, c37, -, c39⟩ := s.val hl
  rw [k2] at c37
  have K := Lib.hid (And.intro k3 (And.intro k4 k5))
  clear s hm k1 k2 k3 k4 k5
  go_wp2_with (go_at_call 29; refine (code_at _ _ _ c0 c37).mono ?_; rintro e w' ⟨rfl, rfl⟩)
  clear c0 c35 c37 c39
  refine (SE.out.out hl 1 (by rw [K.out.1]; decide) K.out.1 rfl).mono ?_
  rintro e wF ⟨a, c, rfl, hc, s⟩
  have hcv : (convert 23 9 (.slice a 1 c)).run Tryd.prog wF = .ok (.string ⟨#[65]⟩) wF := hc wF (Below.refl _ _)
  have SF := Lib.hid s
  obtain ⟨c0, c35, -, -, -, c39⟩ := s.val hl
  rw [K.out.2.1] at c39
  rw [K.out.2.2] at c35
  clear s hc
  go_wp2_with (first
    | (go_at_call 20; refine (steps_at _ _ _ c0 c39).mono ?_; rintro e w' ⟨rfl, rfl⟩)
    | (go_at_call 25; refine (place_at _ _ _ c0 c35).mono ?_; rintro e w' ⟨rfl, rfl⟩))
  go_ret
  exact ⟨rfl, SF.out.below⟩
end Go.Proofs.YtknnmacmohpanaaDoor
