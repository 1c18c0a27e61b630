/- Contracts: the instruction at an address. Conditions: the machine lies as told; the forms' table is as laid. -/
import Derived.Test.YtknnmacmohpanaaDoorMaI
namespace Go.Proofs.YtknnmacmohpanaaDoor
open Go.RowKit

/-- The six cells of what a word is decoded to, in a block that is none of a machine's others. -/
def IAt (w : World) (X o : Nat) (v : Int) : Prop := ∃ cs t, w.heap[X]? = some (.cells cs t (0, 0)) ∧ (t = 101 ∨ t = 117) ∧ ∀ k, k < 6 → cs[o + k]? = some (icell v k)
theorem IAt.cell {w : World} {X o : Nat} {v : Int} (h : IAt w X o v) (k : Nat) (hk : k < 6) : w.cell? ⟨X, o + k, none⟩ = some (icell v k) := by
  obtain ⟨cs, t, hX, -, hc⟩ := h
  rw [cell_of_block hX, hc k hk]
theorem IAt.ne {w : World} {X o : Nat} {v : Int} (h : IAt w X o v) {b t : Nat} {cs : Array Value} {fr : Nat × Nat} (hb : w.heap[b]? = some (.cells cs t fr)) (h1 : t ≠ 101) (h2 : t ≠ 117) : b ≠ X := by
  obtain ⟨ds, u, hX, hu, -⟩ := h
  exact ne_kind hb hX (by rcases hu with rfl | rfl <;> assumption)
theorem IAt.chg {w w' : World} {X o : Nat} {v : Int} (h : IAt w X o v) {F : Nat → Prop} (hc : Chg F w w') (hn : ¬ F X) : IAt w' X o v := by
  obtain ⟨cs, t, hX, ht, hcs⟩ := h
  exact ⟨cs, t, hc.same hX hn, ht, hcs⟩

theorem MRep.cache {base : Nat} {w : World} {l : Lay} {m : MS} (h : MRep base w l m) (P : Nat) (hP : l.pg = some P) :
    Stp base w ((w.alloc (.cells Tryd.zeroCells117 117)).setCell ⟨P, 1024, none⟩ (.pointer (some ⟨w.heap.size, 0, none⟩))) l { l with ip := some w.heap.size } m := by
  have hp := h.pag P hP
  have hPl := lt_of_block hp
  have hc : Chg (fun k => k = P) w ((w.alloc (.cells Tryd.zeroCells117 117)).setCell ⟨P, 1024, none⟩ (.pointer (some ⟨w.heap.size, 0, none⟩))) := ((Chg.refl _ _).alloc _).setCell _ _ (Or.inl rfl)
  refine ⟨⟨h.ok, ?_, ?_, ?_, ?_, ?_, ?_, ?_, h.ne, ?_⟩, rfl, hc.mono (fun k e => Or.inr (Or.inr (Or.inl (by rw [e, hP])))), ?_⟩
  · exact hc.same h.mac (fun e => ne_kind h.mac hp (by decide) e)
  · exact hc.same h.dir (fun e => ne_kind h.dir hp (by decide) e)
  · intro Q hQ
    rw [show ({ l with ip := some w.heap.size } : Lay).pg = l.pg from rfl, hP] at hQ
    obtain rfl := Option.some.inj hQ
    refine set_blockF ((Below.heap_alloc _ _ _ hPl).trans hp) (by decide) fun j hj => ?_
    by_cases e : j = 1024
    · subst e; rw [updF_same]; rfl
    · rw [updF_other _ _ e]; unfold pcell; rw [if_pos (by omega), if_pos (by omega)]
  · intro hn
    rw [show ({ l with ip := some w.heap.size } : Lay).pg = l.pg from rfl, hP] at hn
    cases hn
  · intro I hI2
    obtain rfl := Option.some.inj hI2
    refine ⟨fun _ => 0, fun _ => ⟨Int.le_refl _, show (0 : Int) < 4294967296 by decide⟩, ?_⟩
    rw [Below.heap_setCell _ _ _ _ (by show _ ≠ P; omega), heap_new, zero117]
  · refine h.inp.kept fun k hk => ?_
    obtain ⟨cs, hk'⟩ := h.inp.block hk
    exact hc.block k (lt_of_block hk') (fun e => ne_kind hk' hp (by decide) e)
  · refine own_kept h.out fun k hk => ?_
    obtain ⟨cs, hk'⟩ := own_block h.out hk
    exact hc.block k (lt_of_block hk') (fun e => ne_kind hk' hp (by decide) e)
  · intro k hk
    rcases hk with e | e | e | e | e | e
    · exact h.lb k (Or.inl e)
    · exact h.lb k (Or.inr (Or.inl e))
    · exact h.lb k (Or.inr (Or.inr (Or.inl e)))
    · obtain rfl := Option.some.inj e; exact h.bs
    · exact h.lb k (Or.inr (Or.inr (Or.inr (Or.inr (Or.inl e)))))
    · exact h.lb k (Or.inr (Or.inr (Or.inr (Or.inr (Or.inr e)))))
  · intro k hk
    rcases hk with e | e | e | e | e | e
    · exact Or.inl (Or.inl e)
    · exact Or.inl (Or.inr (Or.inl e))
    · exact Or.inl (Or.inr (Or.inr (Or.inl e)))
    · obtain rfl := Option.some.inj e; exact Or.inr (Nat.le_refl _)
    · exact Or.inl (Or.inr (Or.inr (Or.inr (Or.inr (Or.inl e)))))
    · exact Or.inl (Or.inr (Or.inr (Or.inr (Or.inr (Or.inr e)))))

/-- Only what words were decoded to has changed. -/
theorem MRep.insts {base : Nat} {w w' : World} {l : Lay} {m : MS} (h : MRep base w l m) (I : Nat) (g : Nat → Int) (hI : l.ip = some I) (hc : Chg (fun k => k = I) w w') (hg : ∀ j, 0 ≤ g j ∧ g j < 4294967296)
    (hn : w'.heap[I]? = some (.cells (cellsF 6144 (fun i => icell (g (i / 6)) (i % 6))) 117 (0, 0))) : MRep base w' l m := by
  obtain ⟨g0, -, hi⟩ := h.ins I hI
  refine ⟨h.ok, ?_, ?_, ?_, h.nop, ?_, ?_, ?_, h.ne, h.lb⟩
  · exact hc.same h.mac (fun e => ne_kind h.mac hi (by decide) e)
  · exact hc.same h.dir (fun e => ne_kind h.dir hi (by decide) e)
  · exact fun Q hQ => hc.same (h.pag Q hQ) (fun e => ne_kind (h.pag Q hQ) hi (by decide) e)
  · intro J hJ
    rw [hI] at hJ
    obtain rfl := Option.some.inj hJ
    exact ⟨g, hg, hn⟩
  · refine h.inp.kept fun k hk => ?_
    obtain ⟨cs, hk'⟩ := h.inp.block hk
    exact hc.block k (lt_of_block hk') (fun e => ne_kind hk' hi (by decide) e)
  · refine own_kept h.out fun k hk => ?_
    obtain ⟨cs, hk'⟩ := own_block h.out hk
    exact hc.block k (lt_of_block hk') (fun e => ne_kind hk' hi (by decide) e)

/-- What fetch leaves. -/
def Fet (base : Nat) (w : World) (l : Lay) (m : MS) (v : Int) (e : Ending) (w' : World) : Prop :=
  ∃ X o l', e = .returned (.pointer (some ⟨X, o, none⟩)) ∧ IAt w' X o v ∧ Stp base w w' l l' m

set_option maxRecDepth 100000 in
set_option maxHeartbeats 1000000 in
theorem fetch_none {base : Nat} {w : World} {l : Lay} {m : MS} (h : MRep base w l m) (at' : Nat) (ha : at' < 1024) (hP : l.pg = none) :
    Calls Tryd.prog 64 #[.pointer (some ⟨l.M, 33, none⟩), .int .u32 at'] w (Fet base w l m (m.mem at')) := by
  have e1 : ((at' : Int) / 1024) = 0 := by omega
  have c34 := h.c34
  have cG := cell_of_one h.dir
  rw [hP] at cG
  have cG' : w.cell? ⟨l.G, 0, none⟩ = some (.pointer none) := cG
  have hm := (h.nop hP).2 at'
  rw [hm]
  have H := Lib.hid (And.intro h hm)
  clear h cG hm hP
  go_enter Tryd.func64, Tryd.ntmps64
  go_wp2
  go_ret
  have hz := heap_new w (.cells #[.int .u32 0, .int .u32 0, .int .u8 0, .int .u8 0, .int .u8 0, .int .u8 0] 101)
  refine ⟨w.heap.size, 0, l, rfl, ⟨_, _, hz, Or.inl rfl, ?_⟩, ⟨H.out.1.alloc _, rfl, (Chg.refl _ _).alloc _, fun _ h => Or.inl h⟩⟩
  intro k hk
  have hd : Isa.dOk 0 = false := by decide
  match k, hk with
  | 0, _ => rfl
  | 1, _ => unfold icell; rw [hd]; rfl
  | 2, _ => unfold icell; rw [hd]; rfl
  | 3, _ => unfold icell; rw [hd]; rfl
  | 4, _ => unfold icell; rw [hd]; rfl
  | 5, _ => unfold icell; rw [hd]; rfl

theorem norm1 (w : World) (P i t : Nat) (C : Array Value) (v : Value) (hP : P < w.heap.size) :
    (w.setCell ⟨P, i, none⟩ v).alloc (.cells C t) = (w.alloc (.cells C t)).setCell ⟨P, i, none⟩ v := by
  rw [World.setCell_alloc_past _ _ _ _ hP]
theorem icell_kinds (v : Int) : ∃ n1 n2 n3 n4 n5 : Int, icell v 1 = .int .u32 n1 ∧ icell v 2 = .int .u8 n2 ∧ icell v 3 = .int .u8 n3 ∧ icell v 4 = .int .u8 n4 ∧ icell v 5 = .int .u8 n5 := by
  cases hd : Isa.dOk v
  · exact ⟨0, 0, 0, 0, 0, by unfold icell; rw [hd]; exact ⟨rfl, rfl, rfl, rfl, rfl⟩⟩
  · exact ⟨_, _, _, _, _, by unfold icell; rw [hd]; exact ⟨rfl, rfl, rfl, rfl, rfl⟩⟩
/-- Six cells are written. -/
def set6 (w : World) (I o : Nat) (f : Nat → Value) : World :=
  (((((w.setCell ⟨I, o, none⟩ (f 0)).setCell ⟨I, o + 1, none⟩ (f 1)).setCell ⟨I, o + 2, none⟩ (f 2)).setCell ⟨I, o + 3, none⟩ (f 3)).setCell ⟨I, o + 4, none⟩ (f 4)).setCell ⟨I, o + 5, none⟩ (f 5)
theorem set6_chg (w : World) (I o : Nat) (f : Nat → Value) : Chg (fun k => k = I) w (set6 w I o f) := by
  unfold set6
  have c0 := (Chg.refl (fun k => k = I) w).setCell ⟨I, o, none⟩ (f 0) (Or.inl rfl)
  have c1 := c0.setCell ⟨I, o + 1, none⟩ (f 1) (Or.inl rfl)
  have c2 := c1.setCell ⟨I, o + 2, none⟩ (f 2) (Or.inl rfl)
  have c3 := c2.setCell ⟨I, o + 3, none⟩ (f 3) (Or.inl rfl)
  have c4 := c3.setCell ⟨I, o + 4, none⟩ (f 4) (Or.inl rfl)
  exact c4.setCell ⟨I, o + 5, none⟩ (f 5) (Or.inl rfl)
theorem set6_block {w : World} {I q t n : Nat} {g : Nat → Value} {fr : Nat × Nat} (h : w.heap[I]? = some (.cells (cellsF n g) t fr)) (f : Nat → Value) (hq : q * 6 + 6 ≤ n) :
    (set6 w I (q * 6) f).heap[I]? = some (.cells (cellsF n (fun i => if i / 6 = q then f (i % 6) else g i)) t fr) := by
  unfold set6
  refine set_blockF (set_blockF (set_blockF (set_blockF (set_blockF (set_blockF h (by omega) (fun _ _ => rfl)) (by omega) (fun _ _ => rfl)) (by omega) (fun _ _ => rfl)) (by omega) (fun _ _ => rfl)) (by omega) (fun _ _ => rfl)) (by omega) (fun j _ => ?_)
  unfold updF
  by_cases h5 : j = q * 6 + 5
  · rw [if_pos h5, if_pos (by omega)]; congr 1; omega
  rw [if_neg h5]
  by_cases h4 : j = q * 6 + 4
  · rw [if_pos h4, if_pos (by omega)]; congr 1; omega
  rw [if_neg h4]
  by_cases h3 : j = q * 6 + 3
  · rw [if_pos h3, if_pos (by omega)]; congr 1; omega
  rw [if_neg h3]
  by_cases h2 : j = q * 6 + 2
  · rw [if_pos h2, if_pos (by omega)]; congr 1; omega
  rw [if_neg h2]
  by_cases h1 : j = q * 6 + 1
  · rw [if_pos h1, if_pos (by omega)]; congr 1; omega
  rw [if_neg h1]
  by_cases h0 : j = q * 6
  · rw [if_pos h0, if_pos (by omega)]; congr 1; omega
  rw [if_neg h0, if_neg (by omega)]
theorem fet_end {base : Nat} {w w2 : World} {l l1 : Lay} {m : MS} (s2 : Stp base w w2 l l1 m) (I at' : Nat) (v : Int) (g : Nat → Int) (hI1 : l1.ip = some I) (ha : at' < 1024) (hmm : 0 ≤ v ∧ v < 4294967296)
    (hg : ∀ j, 0 ≤ g j ∧ g j < 4294967296) (hIb2 : w2.heap[I]? = some (.cells (cellsF 6144 (fun i => icell (g (i / 6)) (i % 6))) 117 (0, 0))) :
    Fet base w l m v (.returned (.pointer (some ⟨I, at' * 6, none⟩))) (set6 w2 I (at' * 6) (icell v)) := by
  have hc := set6_chg w2 I (at' * 6) (icell v)
  have hb0 := set6_block hIb2 (icell v) (q := at') (by omega)
  have hb : (set6 w2 I (at' * 6) (icell v)).heap[I]? = some (.cells (cellsF 6144 (fun i => icell (updF g at' v (i / 6)) (i % 6))) 117 (0, 0)) := by
    rw [hb0, cellsF_congr fun i _ => ?_]
    unfold updF
    by_cases h : i / 6 = at'
    · rw [if_pos h, if_pos h]
    · rw [if_neg h, if_neg h]
  have hr := s2.rep.insts I (updF g at' v) hI1 hc (fun j => by unfold updF; split; exact hmm; exact hg j) hb
  refine ⟨I, at' * 6, l1, rfl, ⟨_, _, hb, Or.inr rfl, fun k hk => ?_⟩, s2.trans ⟨hr, rfl, hc.mono (fun k e => Or.inr (Or.inr (Or.inr (Or.inl (by rw [e, hI1]))))), fun _ h => Or.inl h⟩⟩
  rw [cellsF_get (by omega), show (at' * 6 + k) / 6 = at' by omega, show (at' * 6 + k) % 6 = k by omega, updF_same]

set_option maxRecDepth 100000 in
set_option maxHeartbeats 4000000 in
theorem fetch_new {base : Nat} {w : World} {l : Lay} {m : MS} (h : MRep base w l m) (hE : Env w) (hb : 1 ≤ base) (P at' : Nat) (ha : at' < 1024) (hP : l.pg = some P) (hI : l.ip = none) :
    Calls Tryd.prog 64 #[.pointer (some ⟨l.M, 33, none⟩), .int .u32 at'] w (Fet base w l m (m.mem at')) := by
  have e1 : ((at' : Int) / 1024) = 0 := by omega
  have e2 : ((at' : Int) % 1024) = at' := by omega
  have c34 := h.c34
  have cG := cell_of_one h.dir
  rw [hP] at cG
  have cG' : w.cell? ⟨l.G, 0, none⟩ = some (.pointer (some ⟨P, 0, none⟩)) := cG
  have cP : w.cell? ⟨P, 1024, none⟩ = some (ptr l.ip) := cellF (h.pag P hP) 1024 (by decide)
  rw [hI] at cP
  have cP' : w.cell? ⟨P, 1024, none⟩ = some (.pointer none) := cP
  have fP := freeF (h.pag P hP) 1024
  have hPl := lt_of_block (h.pag P hP)
  have s := h.cache P hP
  have hP1 : ({ l with ip := some w.heap.size } : Lay).pg = some P := hP
  have hI1 : ({ l with ip := some w.heap.size } : Lay).ip = some w.heap.size := rfl
  have cA : (w.alloc (.cells Tryd.zeroCells117 117)).cell? ⟨P, 1024, none⟩ = some (.pointer none) := (World.cell?_alloc_lt _ _ _ hPl).trans cP'
  have fA : (w.alloc (.cells Tryd.zeroCells117 117)).frozen? ⟨P, 1024, none⟩ = false := (World.frozen?_of_block (a := ⟨P, 1024, none⟩) (Below.heap_alloc _ _ _ hPl)).trans fP
  have H := Lib.hid (And.intro s (And.intro hP1 (And.intro hI1 (And.intro h hE))))
  clear s hP1 hI1 cG cP h hE hP hI
  go_enter Tryd.func64, Tryd.ntmps64
  go_upto_if 24 with fail
  clear cP' fP
  go_upto_region 6 with fail
  rw [norm1 _ _ _ _ _ _ hPl]
  obtain ⟨s, hP1, hI1, h, hE⟩ := H.out
  obtain ⟨l1, hl1⟩ : ∃ l1, l1 = ({ l with ip := some w.heap.size } : Lay) := ⟨_, rfl⟩
  obtain ⟨wx, hwx⟩ : ∃ wx, wx = (w.alloc (.cells Tryd.zeroCells117 117)).setCell ⟨P, 1024, none⟩ (.pointer (some ⟨w.heap.size, 0, none⟩)) := ⟨_, rfl⟩
  obtain ⟨I, hIe⟩ : ∃ I, I = w.heap.size := ⟨_, rfl⟩
  rw [← hl1] at s hP1 hI1
  rw [← hwx] at s ⊢
  rw [← hIe] at hI1 ⊢
  clear hl1 hwx hIe cA fA hPl H c34 cG'
  have cP2 : wx.cell? ⟨P, 1024, none⟩ = some (.pointer (some ⟨I, 0, none⟩)) := by
    have := cellF (s.rep.pag P hP1) 1024 (by decide)
    rw [this]; unfold pcell; rw [if_neg (by decide), hI1]; rfl
  have cW : wx.cell? ⟨P, at', none⟩ = some (.int .u32 (m.mem at')) := cellV (s.rep.pag P hP1) at' (by omega) (by unfold pcell; rw [if_pos ha])
  obtain ⟨g, hg, hIb⟩ := s.rep.ins I hI1
  have ci : ∀ k, k < 6 → wx.cell? ⟨I, at' * 6 + k, none⟩ = some (icell (g at') k) := by
    intro k hk
    rw [cellF hIb (at' * 6 + k) (by omega)]
    rw [show (at' * 6 + k) / 6 = at' by omega, show (at' * 6 + k) % 6 = k by omega]
  have c0 : wx.cell? ⟨I, at' * 6, none⟩ = some (.int .u32 (g at')) := ci 0 (by decide)
  have HS := Lib.hid (And.intro s (And.intro hI1 (And.intro hg (And.intro hIb ci))))
  have hmm := s.rep.ok.mem at'
  by_cases hq : g at' = m.mem at'
  · have HQ := Lib.hid hq
    rw [hq] at c0
    clear s hI1 hP1 hg hIb ci hmm hq
    go_wp2_with fail
    go_ret
    obtain ⟨s, hI1, hg, hIb, ci⟩ := HS.out
    refine ⟨I, at' * 6, l1, rfl, ⟨_, _, hIb, Or.inr rfl, fun k hk => ?_⟩, s⟩
    have := ci k hk
    rw [cell_of_block hIb] at this
    rw [this, HQ.out]
  · have hne : (g at' == m.mem at') = false := beq_eq_false_iff_ne.2 hq
    have hwE : Env wx := hE.chg s.chg (fun k hk => Nat.le_trans hb (h.lb k hk))
    clear hq
    obtain ⟨v, hv⟩ : ∃ v, v = m.mem at' := ⟨_, rfl⟩
    have HV : Hid (v = m.mem at') := hv
    rw [← hv] at cW hmm hne ⊢
    clear s hI1 hP1 hg hIb ci hv hE h
    go_wp2_with fail
    refine (decoded_any v wx hwE hmm.1 hmm.2).mono ?_
    rintro e w2 ⟨rfl, hb2⟩
    obtain ⟨s, hI1, hg, hIb, ci⟩ := HS.out
    have hIb2 := (hb2.block I (lt_of_block hIb)).trans hIb
    have s2 : Stp base w w2 l l1 m := s.trans ⟨s.rep.below hb2, rfl, Chg.of_below hb2, fun _ h => Or.inl h⟩
    have d0 := cellF hIb2 (at' * 6) (by omega)
    have d1 := cellF hIb2 (at' * 6 + 1) (by omega)
    have d2 := cellF hIb2 (at' * 6 + 2) (by omega)
    have d3 := cellF hIb2 (at' * 6 + 3) (by omega)
    have d4 := cellF hIb2 (at' * 6 + 4) (by omega)
    have d5 := cellF hIb2 (at' * 6 + 5) (by omega)
    have f0 := freeF hIb2 (at' * 6)
    have f1 := freeF hIb2 (at' * 6 + 1)
    have f2 := freeF hIb2 (at' * 6 + 2)
    have f3 := freeF hIb2 (at' * 6 + 3)
    have f4 := freeF hIb2 (at' * 6 + 4)
    have f5 := freeF hIb2 (at' * 6 + 5)
    have HS2 := Lib.hid (And.intro s2 hIb2)
    clear s hI1 hg hIb ci s2 hIb2 hb2 cP2 cW c0
    obtain ⟨n1, n2, n3, n4, n5, hn⟩ := icell_kinds v
    have HN := Lib.hid hn
    rw [show ival v = .agg #[.int .u32 v, .int .u32 n1, .int .u8 n2, .int .u8 n3, .int .u8 n4, .int .u8 n5] by unfold ival; rw [hn.1, hn.2.1, hn.2.2.1, hn.2.2.2.1, hn.2.2.2.2]; rfl]
    clear hn
    go_wp2_with fail
    go_ret
    obtain ⟨s, hI1, hg, hIb, ci⟩ := HS.out
    obtain ⟨s2, hIb2⟩ := HS2.out
    have hf := fet_end s2 I at' v g hI1 ha hmm hg hIb2
    unfold set6 at hf
    rw [HN.out.1, HN.out.2.1, HN.out.2.2.1, HN.out.2.2.2.1, HN.out.2.2.2.2] at hf
    rw [← HV.out]
    exact hf

set_option maxRecDepth 100000 in
set_option maxHeartbeats 4000000 in
theorem fetch_old {base : Nat} {w : World} {l : Lay} {m : MS} (h : MRep base w l m) (hE : Env w) (hb : 1 ≤ base) (P I at' : Nat) (ha : at' < 1024) (hP : l.pg = some P) (hI : l.ip = some I) :
    Calls Tryd.prog 64 #[.pointer (some ⟨l.M, 33, none⟩), .int .u32 at'] w (Fet base w l m (m.mem at')) := by
  have e1 : ((at' : Int) / 1024) = 0 := by omega
  have e2 : ((at' : Int) % 1024) = at' := by omega
  have c34 := h.c34
  have cG := cell_of_one h.dir
  rw [hP] at cG
  have cG' : w.cell? ⟨l.G, 0, none⟩ = some (.pointer (some ⟨P, 0, none⟩)) := cG
  have cP : w.cell? ⟨P, 1024, none⟩ = some (ptr l.ip) := cellF (h.pag P hP) 1024 (by decide)
  rw [hI] at cP
  have cP' : w.cell? ⟨P, 1024, none⟩ = some (.pointer (some ⟨I, 0, none⟩)) := cP
  have s := Stp.refl h
  have H := Lib.hid (And.intro s (And.intro hP (And.intro hI (And.intro h hE))))
  clear s cG cP h hE hP hI
  go_enter Tryd.func64, Tryd.ntmps64
  go_upto_region 6 with fail
  obtain ⟨s, hP1, hI1, h, hE⟩ := H.out
  obtain ⟨l1, hl1⟩ : ∃ l1, l1 = l := ⟨_, rfl⟩
  obtain ⟨wx, hwx⟩ : ∃ wx, wx = w := ⟨_, rfl⟩
  have s : Stp base w wx l l1 m := by rw [hl1, hwx]; exact s
  rw [← hl1] at hP1 hI1
  rw [← hwx]
  clear hl1 hwx H c34 cG' cP'
  have cP2 : wx.cell? ⟨P, 1024, none⟩ = some (.pointer (some ⟨I, 0, none⟩)) := by
    have := cellF (s.rep.pag P hP1) 1024 (by decide)
    rw [this]; unfold pcell; rw [if_neg (by decide), hI1]; rfl
  have cW : wx.cell? ⟨P, at', none⟩ = some (.int .u32 (m.mem at')) := cellV (s.rep.pag P hP1) at' (by omega) (by unfold pcell; rw [if_pos ha])
  obtain ⟨g, hg, hIb⟩ := s.rep.ins I hI1
  have ci : ∀ k, k < 6 → wx.cell? ⟨I, at' * 6 + k, none⟩ = some (icell (g at') k) := by
    intro k hk
    rw [cellF hIb (at' * 6 + k) (by omega)]
    rw [show (at' * 6 + k) / 6 = at' by omega, show (at' * 6 + k) % 6 = k by omega]
  have c0 : wx.cell? ⟨I, at' * 6, none⟩ = some (.int .u32 (g at')) := ci 0 (by decide)
  have HS := Lib.hid (And.intro s (And.intro hI1 (And.intro hg (And.intro hIb ci))))
  have hmm := s.rep.ok.mem at'
  by_cases hq : g at' = m.mem at'
  · have HQ := Lib.hid hq
    rw [hq] at c0
    clear s hI1 hP1 hg hIb ci hmm hq
    go_wp2_with fail
    go_ret
    obtain ⟨s, hI1, hg, hIb, ci⟩ := HS.out
    refine ⟨I, at' * 6, l1, rfl, ⟨_, _, hIb, Or.inr rfl, fun k hk => ?_⟩, s⟩
    have := ci k hk
    rw [cell_of_block hIb] at this
    rw [this, HQ.out]
  · have hne : (g at' == m.mem at') = false := beq_eq_false_iff_ne.2 hq
    have hwE : Env wx := hE.chg s.chg (fun k hk => Nat.le_trans hb (h.lb k hk))
    clear hq
    obtain ⟨v, hv⟩ : ∃ v, v = m.mem at' := ⟨_, rfl⟩
    have HV : Hid (v = m.mem at') := hv
    rw [← hv] at cW hmm hne ⊢
    clear s hI1 hP1 hg hIb ci hv hE h
    go_wp2_with fail
    refine (decoded_any v wx hwE hmm.1 hmm.2).mono ?_
    rintro e w2 ⟨rfl, hb2⟩
    obtain ⟨s, hI1, hg, hIb, ci⟩ := HS.out
    have hIb2 := (hb2.block I (lt_of_block hIb)).trans hIb
    have s2 : Stp base w w2 l l1 m := s.trans ⟨s.rep.below hb2, rfl, Chg.of_below hb2, fun _ h => Or.inl h⟩
    have d0 := cellF hIb2 (at' * 6) (by omega)
    have d1 := cellF hIb2 (at' * 6 + 1) (by omega)
    have d2 := cellF hIb2 (at' * 6 + 2) (by omega)
    have d3 := cellF hIb2 (at' * 6 + 3) (by omega)
    have d4 := cellF hIb2 (at' * 6 + 4) (by omega)
    have d5 := cellF hIb2 (at' * 6 + 5) (by omega)
    have f0 := freeF hIb2 (at' * 6)
    have f1 := freeF hIb2 (at' * 6 + 1)
    have f2 := freeF hIb2 (at' * 6 + 2)
    have f3 := freeF hIb2 (at' * 6 + 3)
    have f4 := freeF hIb2 (at' * 6 + 4)
    have f5 := freeF hIb2 (at' * 6 + 5)
    have HS2 := Lib.hid (And.intro s2 hIb2)
    clear s hI1 hg hIb ci s2 hIb2 hb2 cP2 cW c0
    obtain ⟨n1, n2, n3, n4, n5, hn⟩ := icell_kinds v
    have HN := Lib.hid hn
    rw [show ival v = .agg #[.int .u32 v, .int .u32 n1, .int .u8 n2, .int .u8 n3, .int .u8 n4, .int .u8 n5] by unfold ival; rw [hn.1, hn.2.1, hn.2.2.1, hn.2.2.2.1, hn.2.2.2.2]; rfl]
    clear hn
    go_wp2_with fail
    go_ret
    obtain ⟨s, hI1, hg, hIb, ci⟩ := HS.out
    obtain ⟨s2, hIb2⟩ := HS2.out
    have hf := fet_end s2 I at' v g hI1 ha hmm hg hIb2
    unfold set6 at hf
    rw [HN.out.1, HN.out.2.1, HN.out.2.2.1, HN.out.2.2.2.1, HN.out.2.2.2.2] at hf
    rw [← HV.out]
    exact hf

theorem fetch_at {base : Nat} {w : World} {l : Lay} {m : MS} (h : MRep base w l m) (hE : Env w) (hb : 1 ≤ base) (at' : Nat) (ha : at' < m.size) :
    Calls Tryd.prog 64 #[.pointer (some ⟨l.M, 33, none⟩), .int .u32 at'] w (Fet base w l m (m.mem at')) := by
  have hs := h.ok.size
  cases hP : l.pg with
  | none => exact fetch_none h at' (by omega) hP
  | some P =>
    cases hI : l.ip with
    | none => exact fetch_new h hE hb P at' (by omega) hP hI
    | some I => exact fetch_old h hE hb P I at' (by omega) hP hI
end Go.Proofs.YtknnmacmohpanaaDoor
