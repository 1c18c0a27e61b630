/- Contracts: Copy. Conditions: the machine lies as told. -/
import Derived.Test.YtknnmacmohpanaaDoorMaO
import Derived.Test.YtknnmacmohpanaaDoorMaP
namespace Go.Proofs.YtknnmacmohpanaaDoor
open Go.RowKit

theorem i66 : (Tryd.prog.info? 66).map (·.size) = some 42 := by kernel_rfl
theorem setCells_own {b t : Nat} {fr : Nat × Nat} : ∀ (l : List Value) (o : Nat) (w : World) (A : Array Value), w.heap[b]? = some (.cells A t fr) → o + l.length ≤ A.size →
    Chg (fun k => k = b) w (w.setCells b o l) ∧ ∃ A' : Array Value, (w.setCells b o l).heap[b]? = some (.cells A' t fr) ∧ A'.size = A.size ∧ ∀ i, A'[i]? = if o ≤ i ∧ i < o + l.length then l[i - o]? else A[i]?
  | [], o, w, A, h, _ => ⟨Chg.refl _ _, A, h, rfl, fun i => by rw [if_neg (by simp only [List.length_nil]; omega)]⟩
  | v :: r, o, w, A, h, hl => by
    simp only [List.length_cons] at hl
    obtain ⟨hc, A', h1, h2, h3⟩ := setCells_own r (o + 1) (w.setCell ⟨b, o, none⟩ v) (A.setIfInBounds o v) (set_block h (by omega)) (by simp only [Array.size_setIfInBounds]; omega)
    refine ⟨((Chg.refl (fun k => k = b) w).setCell ⟨b, o, none⟩ v (Or.inl rfl)).trans hc (fun i e => Or.inl e), A', h1, by rw [h2, Array.size_setIfInBounds], fun i => ?_⟩
    rw [h3 i]
    simp only [List.length_cons]
    by_cases h4 : o + 1 ≤ i ∧ i < o + 1 + r.length
    · rw [if_pos h4, if_pos (by omega), show i - o = (i - (o + 1)) + 1 by omega, List.getElem?_cons_succ]
    · rw [if_neg h4, Array.getElem?_setIfInBounds]
      by_cases h5 : o = i
      · subst h5
        rw [if_pos rfl, if_pos (by omega), if_pos (by omega), Nat.sub_self]; rfl
      · rw [if_neg h5, if_neg (by omega)]
theorem setCells_whole {b t : Nat} {fr : Nat × Nat} {w : World} {A cs : Array Value} (h : w.heap[b]? = some (.cells A t fr)) (hs : cs.size = A.size) :
    Chg (fun k => k = b) w (w.setCells b 0 cs.toList) ∧ (w.setCells b 0 cs.toList).heap[b]? = some (.cells cs t fr) := by
  obtain ⟨hc, A', h1, h2, h3⟩ := setCells_own cs.toList 0 w A h (by rw [Array.length_toList]; omega)
  refine ⟨hc, h1.trans (congrArg (fun x => some (Obj.cells x t fr)) (Array.ext_getElem? fun i => ?_))⟩
  rw [h3 i]
  by_cases hi : i < cs.size
  · rw [if_pos (by rw [Array.length_toList]; omega), Nat.sub_zero, Array.getElem?_toList]
  · rw [if_neg (by rw [Array.length_toList]; omega), Array.getElem?_eq_none (by omega), Array.getElem?_eq_none (by omega)]
theorem there_new (w : World) (Z : Array Value) (t n : Nat) (h : n ≤ Z.size) : (w.alloc (.cells Z t)).there w.heap.size 0 n := by
  intro j hj
  have hb := heap_new w (.cells Z t)
  refine ⟨?_, freeF hb _⟩
  rw [cell_of_block hb, Nat.zero_add, Array.getElem?_eq_getElem (by omega)]
  rfl
theorem mem_cellsF {n : Nat} {f : Nat → Value} {v : Value} (h : v ∈ cellsF n f) : ∃ i, i < n ∧ v = f i := by
  obtain ⟨i, hi⟩ := Array.mem_iff_getElem?.1 h
  by_cases hn : i < n
  · rw [cellsF_get hn] at hi; exact ⟨i, hn, (Option.some.inj hi).symm⟩
  · rw [Array.getElem?_eq_none (by rw [cellsF_size]; omega)] at hi; cases hi
theorem one_mcell (l : Lay) (m : MS) (h1 : l.vi.oneCell' = true) (h2 : l.vo.oneCell' = true) : (cellsF 42 (mcell l m)).all (·.oneCell') = true := by
  refine Array.all_eq_true_iff_forall_mem.2 fun v hv => ?_
  obtain ⟨i, -, rfl⟩ := mem_cellsF hv
  unfold mcell
  (repeat' split) <;> first | rfl | assumption
theorem InRep.one {w : World} {v : Value} {l : List Int} (h : InRep w v l) : v.oneCell' = true := by
  rcases h with ⟨-, p, c, rfl⟩ | ⟨N, off, cap, cs, rfl, -⟩ <;> rfl
theorem own_one {w : World} {b n : Nat} {v : Value} {xs : List Value} (h : w.ownsRow b 5 1 v n xs) : v.oneCell' = true := by
  rcases h.2 with ⟨rfl, -⟩ | ⟨g, cap, cur, rfl, -⟩ <;> rfl
theorem InRep.read {w : World} {v : Value} {l : List Int} (h : InRep w v l) : (l = [] ∧ ∃ p c, v = .slice p 0 c) ∨ BRead w v l := by
  rcases h with h | ⟨N, off, cap, cs, rfl, hne, -, -, hN, hcs⟩
  · exact Or.inl h
  · refine Or.inr (Or.inr ⟨⟨N, off, none⟩, cap, rfl, fun j u hj => ?_⟩)
    unfold byL at hj
    rw [List.getElem?_map] at hj
    cases hl : l[j]? with
    | none => rw [hl] at hj; cases hj
    | some x =>
      rw [hl] at hj
      have hlt : j < l.length := (List.getElem?_eq_some_iff.1 hl).1
      have := hcs j hlt
      rw [show (⟨N, off, none⟩ : Addr).add j = ⟨N, off + j, none⟩ from Addr.add_mid N off j, cell_of_block hN, this]
      simp only [List.getD, hl, Option.getD_some]
      exact hj
theorem own_read {w : World} {b : Nat} {v : Value} {l : List Int} (h : w.ownsRow b 5 1 v l.length (byL l)) : BRead w v l := by
  have hc := fun g hg => h.cells (g := g) hg
  rcases h.2 with ⟨rfl, h0⟩ | ⟨g, cap, cur, rfl, -⟩
  · exact Or.inl ⟨List.eq_nil_of_length_eq_zero h0, rfl⟩
  · exact Or.inr ⟨⟨g, 0, none⟩, cap, rfl, fun j u hj => hc g rfl j u hj⟩
/-- Clone of an input that is left. -/
theorem clone_in (v : Value) (bs : List Int) (w : World) (hl : bs.length ≤ 1000000) (h : InRep w v bs) :
    Calls Tryd.prog 41 #[v] w fun e w' => ∃ v', e = .returned v' ∧ w'.ownsRow w.heap.size 5 1 v' bs.length (byL bs) ∧ Below w.heap.size w w' := by
  rcases h.read with ⟨rfl, p, c, rfl⟩ | h
  · cases p with
    | none =>
      have he := eqS none 0 c
      go_enter Tryd.func41, Tryd.ntmps41
      go_wp2
      go_ret
      exact ⟨_, rfl, World.ownsRow_nil _ _ _ _, Below.refl _ _⟩
    | some ad => exact clone_at _ [] w hl (Or.inr ⟨ad, c, rfl, fun j u hj => by cases hj⟩)
  · exact clone_at v bs w hl h

def wordsL (m : MS) : List Value := (List.range 1024).map fun i => .int .u32 (m.mem i)
theorem copied_at {base : Nat} {w : World} {l : Lay} {m : MS} (h : MRep base w l m) :
    Calls Tryd.prog 40 #[.pointer (some ⟨l.M, 33, none⟩)] w fun e w' => ∃ G pg, e = .returned (.agg #[.int .u32 m.size, .slice (some ⟨G, 0, none⟩) 1 1]) ∧ CMem w w' G pg (wordsL m) ∧ (pg = none → ∀ i, m.mem i = 0) := by
  have hd := cell_of_one h.dir
  have hl : (wordsL m).length = 1024 := by unfold wordsL; rw [List.length_map, List.length_range]
  cases hP : l.pg with
  | none =>
    rw [hP] at hd
    refine (copied_none l.M l.G m.size (wordsL m) w h.c33 h.c34 (lt_of_block h.mac) (lt_of_block h.dir) hd).mono fun e w' ⟨G, pg, he, hs, hc⟩ => ⟨G, pg, he, hc, fun _ => (h.nop hP).2⟩
  | some P =>
    rw [hP] at hd
    have hp := h.pag P hP
    refine (copied_some l.M l.G P m.size (wordsL m) w (by rw [hl]; kernel_rfl) hl h.c33 h.c34 (lt_of_block h.mac) (lt_of_block h.dir) hd (lt_of_block hp) (fun j v hj => ?_)).mono fun e w' ⟨G, pg, he, hs, hc⟩ => ⟨G, pg, he, hc, fun hn => by rw [hn] at hs; cases hs⟩
    have hj' : j < 1024 := by have := (List.getElem?_eq_some_iff.1 hj).1; omega
    rw [Nat.zero_add, cellF hp j (by omega)]
    unfold wordsL at hj
    rw [List.getElem?_map, List.getElem?_range hj'] at hj
    rw [← hj]
    unfold pcell
    rw [if_pos hj']
    rfl

theorem own_base {w : World} {b b' n : Nat} {v : Value} {xs : List Value} (h : w.ownsRow b 5 1 v n xs) (hb : b' ≤ b) : w.ownsRow b' 5 1 v n xs := by
  refine ⟨h.1, h.2.imp id ?_⟩
  rintro ⟨g, cap, cur, rfl, hbg, rest⟩
  exact ⟨g, cap, cur, rfl, Nat.le_trans hb hbg, rest⟩
theorem page_eq (l : Lay) (m : MS) (hl : l.ip = none) : pageOf (wordsL m) = cellsF 1025 (pcell l m) := by
  apply Array.ext_getElem?
  intro i
  unfold pageOf
  have e1 : (wordsL m ++ [Value.pointer none]).toArray[i]? = (wordsL m ++ [Value.pointer none])[i]? := by simp
  have hlen : (wordsL m).length = 1024 := by unfold wordsL; rw [List.length_map, List.length_range]
  rw [e1]
  by_cases hi : i < 1025
  · rw [cellsF_get hi]
    unfold pcell
    by_cases hj : i < 1024
    · rw [List.getElem?_append_left (by omega), if_pos hj]
      unfold wordsL
      rw [List.getElem?_map, List.getElem?_range hj]
      rfl
    · rw [List.getElem?_append_right (by omega), if_neg hj, hlen, show i - 1024 = 0 by omega, hl]
      rfl
  · rw [Array.getElem?_eq_none (by rw [cellsF_size]; omega), List.getElem?_eq_none (by simp [hlen]; omega)]
theorem copy_end {B C G X : Nat} {w9 : World} {l : Lay} {m : MS} {pg : Option Nat} {vi vo : Value} {Y : Nat} (ok : MOk m) (hC : C = B)
    (bC : w9.heap[C]? = some (.cells (cellsF 42 (updF (updF (updF (updF (mcell l m) 0 (.pointer (some ⟨C, 0, none⟩))) 33 (.int .u32 m.size)) 34 (.slice (some ⟨G, 0, none⟩) 1 1)) 40 vi)) 66 (0, 0)))
    (dir : w9.heap[G]? = some (.cells #[ptr pg] 105 (0, 0))) (pag : ∀ P, pg = some P → w9.heap[P]? = some (.cells (pageOf (wordsL m)) 109 (0, 0))) (hmz : pg = none → ∀ i, m.mem i = 0)
    (own1 : w9.ownsRow X 5 1 vi m.inp.length (byL m.inp)) (own2 : w9.ownsRow Y 5 1 vo m.out.length (byL m.out)) (hG : B ≤ G) (hP : ∀ P, pg = some P → B ≤ P) (hX : B ≤ X) (hXY : ∀ k, vi.ownBlock = some k → k < Y) (hY : B ≤ Y) :
    MRep B (w9.setCell ⟨C, 41, none⟩ vo) ⟨C, G, pg, none, vi, vo⟩ m := by
  have hc : Chg (fun k => k = C) w9 (w9.setCell ⟨C, 41, none⟩ vo) := (Chg.refl (fun k => k = C) w9).setCell ⟨C, 41, none⟩ vo (Or.inl rfl)
  have hI := InRep.of_own (by have := ok.ilen; omega) own1
  have hIo : ∀ k, inB vi = some k → vi.ownBlock = some k := by
    intro k hk
    unfold inB at hk
    split at hk
    · exact hk
    · cases hk
  refine ⟨ok, ?_, ?_, ?_, ?_, ?_, ?_, ?_, ?_, ?_⟩
  · refine set_blockF bC (by decide) fun j hj => ?_
    unfold updF mcell
    by_cases h41 : j = 41
    · subst h41; rfl
    rw [if_neg h41]
    by_cases h40 : j = 40
    · subst h40; rfl
    rw [if_neg h40]
    by_cases h34 : j = 34
    · subst h34; rfl
    rw [if_neg h34]
    by_cases h33 : j = 33
    · subst h33; rfl
    rw [if_neg h33]
    by_cases h0 : j = 0
    · subst h0; rfl
    rw [if_neg h0]
    (repeat' split) <;> first | rfl | omega
  · exact hc.same dir (fun e => ne_kind dir bC (by decide) e)
  · intro P hP'
    have := hc.same (pag P hP') (fun e => ne_kind (pag P hP') bC (by decide) e)
    rw [this, page_eq ⟨C, G, pg, none, vi, vo⟩ m rfl]
  · exact fun hn => ⟨rfl, hmz hn⟩
  · intro I hI'; cases hI'
  · refine hI.1.kept fun k hk => ?_
    obtain ⟨cs, hk'⟩ := hI.1.block hk
    exact hc.block k (lt_of_block hk') (fun e => ne_kind hk' bC (by decide) e)
  · refine own_base (own_kept own2 fun k hk => ?_) hY
    obtain ⟨cs, hk'⟩ := own_block own2 hk
    exact hc.block k (lt_of_block hk') (fun e => ne_kind hk' bC (by decide) e)
  · show inB vi = none ∨ inB vi ≠ vo.ownBlock
    cases hi : inB vi with
    | none => exact Or.inl rfl
    | some k =>
      right
      intro e
      have h1 := hXY k (hIo k hi)
      have h2 := (own2.lt k e.symm).1
      omega
  · intro k hk
    rcases hk with e | e | e | e | e | e
    · have e' : k = C := e; omega
    · have e' : k = G := e; omega
    · exact hP k e
    · cases e
    · have := (hI.2 k e).1; omega
    · have := (own2.lt k e).1; omega
set_option maxRecDepth 100000 in
set_option maxHeartbeats 4000000 in
theorem copy_at {base : Nat} {w : World} {l : Lay} {m : MS} (h : MRep base w l m) (ho : m.out.length ≤ 1000000) :
    Calls Tryd.prog 18 #[.pointer (some ⟨l.M, 0, none⟩)] w fun e w' => ∃ l', e = .returned (.pointer (some ⟨l'.M, 0, none⟩)) ∧ MRep w.heap.size w' l' m ∧ Below w.heap.size w w' := by
  have c0 := h.c0
  have hM := h.mac
  have hcs := cellsF_size 42 (mcell l m)
  have hone := one_mcell l m h.inp.one (own_one h.out)
  obtain ⟨cs, hcse⟩ : ∃ cs, cs = cellsF 42 (mcell l m) := ⟨_, rfl⟩
  have HCS := Lib.hid hcse
  rw [← hcse] at hM hcs hone
  have i66' : (Tryd.prog.info? 66).map (·.size) = some cs.size := by rw [hcs]; exact i66
  have HI := Lib.hid (And.intro i66' (And.intro hM (And.intro hcs hone)))
  have HH := Lib.hid (And.intro h ho)
  clear hcse hM hcs hone i66' h
  obtain ⟨M, hMe⟩ : ∃ M, M = l.M := ⟨_, rfl⟩
  have HM := Lib.hid hMe
  rw [← hMe] at c0 HI ⊢
  clear hMe
  go_enter Tryd.func18, Tryd.ntmps18
  go_upto_region 4 with (first
    | (go_at_call 35; refine (made_at _ _ c0).mono ?_; rintro e w' ⟨rfl, rfl⟩)
    | (refine wpList_load_row (o := ⟨some 9, _, _, _, _, _⟩) rfl 66 (.tmp 8) rfl M rfl 66 cs (0, 0) _ HI.out.2.1 Tryd.underlying66 rfl HI.out.1 ?_)
    | (refine wpList_store_mid (op := ⟨none, .store 66 (.tmp 3) (.tmp 9), _, _, _, _⟩) rfl 66 (.tmp 3) (.tmp 9) rfl w.heap.size 0 cs rfl rfl ?s1 HI.out.1 HI.out.2.2.2 ?_)
    | fail)
  case s1 => exact there_new _ _ _ _ (by rw [HI.out.2.2.1]; decide)
  obtain ⟨w3, hw3⟩ : ∃ w3, w3 = (w.alloc (.cells #[.pointer none, .int .u32 0, .int .u32 0, .int .u32 0, .int .u32 0, .int .u32 0, .int .u32 0, .int .u32 0, .int .u32 0, .int .u32 0, .int .u32 0, .int .u32 0, .int .u32 0, .int .u32 0, .int .u32 0, .int .u32 0, .int .u32 0, .int .u32 0, .int .u32 0, .int .u32 0, .int .u32 0, .int .u32 0, .int .u32 0, .int .u32 0, .int .u32 0, .int .u32 0, .int .u32 0, .int .u32 0, .int .u32 0, .int .u32 0, .int .u32 0, .int .u32 0, .int .u32 0, .int .u32 0, .slice none 0 0, .int .u32 0, .int .i64 0, .int .u32 0, .int .i64 0, .int .i64 0, .slice none 0 0, .slice none 0 0] 66)).setCells w.heap.size 0 cs.toList := ⟨_, rfl⟩
  have hs := setCells_whole (cs := cs) (heap_new w (.cells #[.pointer none, .int .u32 0, .int .u32 0, .int .u32 0, .int .u32 0, .int .u32 0, .int .u32 0, .int .u32 0, .int .u32 0, .int .u32 0, .int .u32 0, .int .u32 0, .int .u32 0, .int .u32 0, .int .u32 0, .int .u32 0, .int .u32 0, .int .u32 0, .int .u32 0, .int .u32 0, .int .u32 0, .int .u32 0, .int .u32 0, .int .u32 0, .int .u32 0, .int .u32 0, .int .u32 0, .int .u32 0, .int .u32 0, .int .u32 0, .int .u32 0, .int .u32 0, .int .u32 0, .int .u32 0, .slice none 0 0, .int .u32 0, .int .i64 0, .int .u32 0, .int .i64 0, .int .i64 0, .slice none 0 0, .slice none 0 0] 66)) (by rw [HI.out.2.2.1]; rfl)
  rw [← hw3] at hs
  have hb3 : Below w.heap.size w w3 := ((Below.refl w.heap.size w).alloc (Nat.le_refl _) _).trans (hs.1.below (by simp) (fun i e => by omega))
  rw [← hw3]
  clear hw3 c0
  obtain ⟨C, hC⟩ : ∃ C, C = w.heap.size := ⟨_, rfl⟩
  have HC := Lib.hid hC
  rw [← hC] at hs ⊢
  have hout := HH.out.1.out
  obtain ⟨h, ho⟩ := HH.out
  have rep3 : MRep base w3 l m := h.below hb3
  have bC3 := hs.2
  rw [HCS.out] at bC3
  have y0 := cellF bC3 0 (by decide)
  have f0 := freeF bC3 0
  have hcC : Chg (fun k => k = C) w3 (w3.setCell ⟨C, 0, none⟩ (.pointer (some ⟨C, 0, none⟩))) := (Chg.refl (fun k => k = C) w3).setCell ⟨C, 0, none⟩ _ (Or.inl rfl)
  have bC4 : (w3.setCell ⟨C, 0, none⟩ (.pointer (some ⟨C, 0, none⟩))).heap[C]? = some (.cells (cellsF 42 (updF (mcell l m) 0 (.pointer (some ⟨C, 0, none⟩)))) 66 (0, 0)) := set_blockF bC3 (by decide) (fun _ _ => rfl)
  have hnC : ∀ k, l.fp k → ¬ k = C := fun k hk e => by have := h.lt hk; omega
  have rep4 : MRep base (w3.setCell ⟨C, 0, none⟩ (.pointer (some ⟨C, 0, none⟩))) l m := rep3.chg hcC hnC
  have hb4 : Below w.heap.size w (w3.setCell ⟨C, 0, none⟩ (.pointer (some ⟨C, 0, none⟩))) := hb3.setCell (by show _ ≤ C; omega) _
  obtain ⟨w4, hw4⟩ : ∃ w4, w4 = w3.setCell ⟨C, 0, none⟩ (.pointer (some ⟨C, 0, none⟩)) := ⟨_, rfl⟩
  have HF := Lib.hid (And.intro h (And.intro ho hnC))
  rw [← hw4] at bC4 rep4 hb4
  have hcop := copied_at rep4
  rw [← HM.out] at hcop
  have H4 := Lib.hid (And.intro rep4 (And.intro bC4 (And.intro hb4 hcop)))
  clear rep4 bC4 hb4 hcop hnC rep3 bC3 hs hb3 h ho hout hcC hC
  go_upto_region 5 with fail
  rw [← hw4]
  clear hw4 y0 f0
  go_wp2_with fail
  refine H4.out.2.2.2.mono ?_
  rintro e w5 ⟨G, pg, rfl, hN, hmz⟩
  have bC5 := (hN.below.block C (lt_of_block H4.out.2.1)).trans H4.out.2.1
  have rep5 := H4.out.1.below hN.below
  have hb5 := H4.out.2.2.1.trans (hN.below.mono H4.out.2.2.1.size)
  have y33 := cellF bC5 33 (by decide)
  have y34 := cellF bC5 34 (by decide)
  have f33 := freeF bC5 33
  have f34 := freeF bC5 34
  have hcD : Chg (fun k => k = C) w5 ((w5.setCell ⟨C, 33, none⟩ (.int .u32 m.size)).setCell ⟨C, 34, none⟩ (.slice (some ⟨G, 0, none⟩) 1 1)) := ((Chg.refl (fun k => k = C) w5).setCell ⟨C, 33, none⟩ (.int .u32 m.size) (Or.inl rfl)).setCell ⟨C, 34, none⟩ (.slice (some ⟨G, 0, none⟩) 1 1) (Or.inl rfl)
  have bC6 := set_blockF (set_blockF bC5 (i := 33) (x := .int .u32 m.size) (by decide) (fun _ _ => rfl)) (i := 34) (x := .slice (some ⟨G, 0, none⟩) 1 1) (by decide) (fun _ _ => rfl)
  have rep6 := rep5.chg hcD HF.out.2.2
  have hb6 : Below w.heap.size w ((w5.setCell ⟨C, 33, none⟩ (.int .u32 m.size)).setCell ⟨C, 34, none⟩ (.slice (some ⟨G, 0, none⟩) 1 1)) := (hb5.setCell (p := ⟨C, 33, none⟩) (by show _ ≤ C; have := HC.out; omega) _).setCell (p := ⟨C, 34, none⟩) (by show _ ≤ C; have := HC.out; omega) _
  obtain ⟨w6, hw6⟩ : ∃ w6, w6 = (w5.setCell ⟨C, 33, none⟩ (.int .u32 m.size)).setCell ⟨C, 34, none⟩ (.slice (some ⟨G, 0, none⟩) 1 1) := ⟨_, rfl⟩
  rw [← hw6] at hcD bC6 rep6 hb6
  have dir6 := hcD.same hN.dir (fun e => ne_kind hN.dir bC5 (by decide) e)
  have pag6 := fun P hP => hcD.same (hN.pag P hP) (fun e => ne_kind (hN.pag P hP) bC5 (by decide) e)
  have H6 := Lib.hid (And.intro rep6 (And.intro bC6 (And.intro hb6 (And.intro dir6 (And.intro pag6 (And.intro hmz (And.intro hN.leG hN.leP)))))))
  clear hN bC5 rep5 hb5 hcD bC6 rep6 hb6 dir6 pag6 hmz
  go_upto_region 6 with fail
  rw [← hw6]
  clear hw6 y33 y34 f33 f34
  have c40 := H6.out.1.c40
  rw [← HM.out] at c40
  have f40 := freeF H6.out.2.1 40
  have y40 := cellF H6.out.2.1 40 (by decide)
  go_wp2_with fail
  refine (clone_in _ _ w6 (by have := H6.out.1.ok.ilen; omega) H6.out.1.inp).mono ?_
  rintro e w7 ⟨vi, rfl, hOi, hb67⟩
  obtain ⟨ai, ki, ci, rfl⟩ : ∃ a k c, vi = .slice a k c := by rcases hOi.2 with ⟨h, -⟩ | ⟨g, cap, cur, h, -⟩ <;> exact ⟨_, _, _, h⟩
  have bC7 := (hb67.block C (lt_of_block H6.out.2.1)).trans H6.out.2.1
  have rep7 := H6.out.1.below hb67
  have hb7 := H6.out.2.2.1.trans (hb67.mono H6.out.2.2.1.size)
  have g40 := cellF bC7 40 (by decide)
  have k40 := freeF bC7 40
  have hcE : Chg (fun k => k = C) w7 (w7.setCell ⟨C, 40, none⟩ (.slice ai ki ci)) := (Chg.refl (fun k => k = C) w7).setCell ⟨C, 40, none⟩ _ (Or.inl rfl)
  have bC8 := set_blockF bC7 (i := 40) (x := .slice ai ki ci) (by decide) (fun _ _ => rfl)
  have rep8 := rep7.chg hcE HF.out.2.2
  have hb8 : Below w.heap.size w (w7.setCell ⟨C, 40, none⟩ (.slice ai ki ci)) := hb7.setCell (p := ⟨C, 40, none⟩) (by show _ ≤ C; have := HC.out; omega) _
  obtain ⟨w8, hw8⟩ : ∃ w8, w8 = w7.setCell ⟨C, 40, none⟩ (.slice ai ki ci) := ⟨_, rfl⟩
  rw [← hw8] at hcE bC8 rep8 hb8
  have dir8 := hcE.same ((hb67.block _ (lt_of_block H6.out.2.2.2.1)).trans H6.out.2.2.2.1) (fun e => ne_kind H6.out.2.2.2.1 H6.out.2.1 (by decide) e)
  have pag8 := fun P hP => hcE.same ((hb67.block _ (lt_of_block (H6.out.2.2.2.2.1 P hP))).trans (H6.out.2.2.2.2.1 P hP)) (fun e => ne_kind (H6.out.2.2.2.2.1 P hP) H6.out.2.1 (by decide) e)
  have own8 : w8.ownsRow w6.heap.size 5 1 (.slice ai ki ci) m.inp.length (byL m.inp) := own_kept hOi fun k hk => hcE.block k (hOi.lt k hk).2 (fun e => by have := (hOi.lt k hk).1; have := lt_of_block H6.out.2.1; omega)
  have H8 := Lib.hid (And.intro rep8 (And.intro bC8 (And.intro hb8 (And.intro dir8 (And.intro pag8 (And.intro own8 (And.intro hb67.size hcE.size)))))))
  clear hOi hb67 bC7 rep7 hb7 hcE bC8 rep8 hb8 dir8 pag8 own8 c40 f40 y40
  go_upto_region 7 with fail
  rw [← hw8]
  clear hw8 g40 k40
  have c41 := H8.out.1.c41
  rw [← HM.out] at c41
  go_wp2_with fail
  refine (clone_at _ _ w8 HF.out.2.1 (own_read H8.out.1.out)).mono ?_
  rintro e w9 ⟨vo, rfl, hOo, hb89⟩
  obtain ⟨ao, ko, co, rfl⟩ : ∃ a k c, vo = .slice a k c := by rcases hOo.2 with ⟨h, -⟩ | ⟨g, cap, cur, h, -⟩ <;> exact ⟨_, _, _, h⟩
  have bC9 := (hb89.block C (lt_of_block H8.out.2.1)).trans H8.out.2.1
  have hb9 := H8.out.2.2.1.trans (hb89.mono H8.out.2.2.1.size)
  have g41 := cellF bC9 41 (by decide)
  have k41 := freeF bC9 41
  have H9 := Lib.hid (And.intro bC9 (And.intro hb9 (And.intro hOo hb89)))
  clear bC9 hb9 hOo hb89 c41
  go_wp2_with fail
  go_ret
  refine ⟨⟨C, G, pg, none, .slice ai ki ci, .slice ao ko co⟩, rfl, ?_, H9.out.2.1.setCell (p := ⟨C, 41, none⟩) (by show _ ≤ C; have := HC.out; omega) _⟩
  obtain ⟨bC9, hb9, hOo, hb89⟩ := H9.out
  obtain ⟨rep8, bC8, hb8, dir8, pag8, own8, z67, z78⟩ := H8.out
  have hw6 := H6.out.2.2.1.size
  exact copy_end H6.out.1.ok HC.out bC9 ((hb89.block _ (lt_of_block dir8)).trans dir8) (fun P hP => (hb89.block _ (lt_of_block (pag8 P hP))).trans (pag8 P hP)) H6.out.2.2.2.2.2.1
    (own_kept own8 fun k hk => hb89.block k (own8.lt k hk).2) hOo (by have := H6.out.2.2.2.2.2.2.1; have := H4.out.2.2.1.size; omega) (fun P hP => by have := H6.out.2.2.2.2.2.2.2 P hP; have := H4.out.2.2.1.size; omega) (by omega) (fun k hk => (own8.lt k hk).2) (by omega)
end Go.Proofs.YtknnmacmohpanaaDoor
