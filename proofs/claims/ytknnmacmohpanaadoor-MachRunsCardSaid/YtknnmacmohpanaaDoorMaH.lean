/- Contracts: a word is stored; input is read. Conditions: the machine lies as told. -/
import Derived.Test.YtknnmacmohpanaaDoorMaG
import Derived.Test.YtknnmacmohpanaaDoorMaZ
namespace Go.Proofs.YtknnmacmohpanaaDoor
open Go.RowKit

theorem pcell_upd (l : Lay) (m : MS) (i : Nat) (x : Int) (hi : i < 1024) : ∀ j, j < 1025 → updF (pcell l m) i (.int .u32 x) j = pcell l { m with mem := updF m.mem i x } j := by
  intro j _
  by_cases hj : j = i
  · subst hj; rw [updF_same]; unfold pcell; rw [if_pos hi]; show _ = Value.int .u32 (updF m.mem j x j); rw [updF_same]
  · rw [updF_other _ _ hj]; unfold pcell
    split
    · show _ = Value.int .u32 (updF m.mem i x j); rw [updF_other _ _ hj]
    · rfl
theorem MRep.store_some {base : Nat} {w : World} {l : Lay} {m : MS} (h : MRep base w l m) (P i : Nat) (x : Int) (hP : l.pg = some P) (hi : i < 1024) (hx : 0 ≤ x ∧ x < 4294967296) :
    MRep base (w.setCell ⟨P, i, none⟩ (.int .u32 x)) l { m with mem := updF m.mem i x } ∧ Chg (fun k => k = P) w (w.setCell ⟨P, i, none⟩ (.int .u32 x)) := by
  have hp := h.pag P hP
  have hc : Chg (fun k => k = P) w (w.setCell ⟨P, i, none⟩ (.int .u32 x)) := (Chg.refl _ _).setCell _ _ (Or.inl rfl)
  refine ⟨⟨h.ok.setM i x hx, ?_, ?_, ?_, ?_, ?_, ?_, ?_, h.ne, h.lb⟩, hc⟩
  · exact hc.same h.mac (fun e => ne_kind h.mac hp (by decide) e)
  · exact hc.same h.dir (fun e => ne_kind h.dir hp (by decide) e)
  · intro Q hQ
    rw [hP] at hQ
    obtain rfl := Option.some.inj hQ
    exact set_blockF hp (by omega) (pcell_upd l m i x hi)
  · intro hn; rw [hP] at hn; cases hn
  · intro I hI
    obtain ⟨g, hg, hb⟩ := h.ins I hI
    exact ⟨g, hg, hc.same hb (fun e => ne_kind hb hp (by decide) e)⟩
  · refine h.inp.kept fun k hk => ?_
    obtain ⟨cs, hk'⟩ := h.inp.block hk
    exact hc.block k (lt_of_block hk') (fun e => ne_kind hk' hp (by decide) e)
  · refine own_kept h.out fun k hk => ?_
    obtain ⟨cs, hk'⟩ := own_block h.out hk
    exact hc.block k (lt_of_block hk') (fun e => ne_kind hk' hp (by decide) e)

/-- A page is made, and laid into the directory. -/
theorem MRep.page {base : Nat} {w : World} {l : Lay} {m : MS} (h : MRep base w l m) (hP : l.pg = none) (hbs : base ≤ w.heap.size) :
    Stp base w ((w.alloc (.cells Tryd.zeroCells109 109)).setCell ⟨l.G, 0, none⟩ (.pointer (some ⟨w.heap.size, 0, none⟩))) l { l with pg := some w.heap.size } m
    ∧ Chg (fun k => k = l.G) w ((w.alloc (.cells Tryd.zeroCells109 109)).setCell ⟨l.G, 0, none⟩ (.pointer (some ⟨w.heap.size, 0, none⟩))) := by
  have hc : Chg (fun k => k = l.G) w ((w.alloc (.cells Tryd.zeroCells109 109)).setCell ⟨l.G, 0, none⟩ (.pointer (some ⟨w.heap.size, 0, none⟩))) := ((Chg.refl _ _).alloc _).setCell _ _ (Or.inl rfl)
  have hG := lt_of_block h.dir
  have hnop := h.nop hP
  refine ⟨⟨⟨h.ok, ?_, ?_, ?_, ?_, ?_, ?_, ?_, h.ne, ?_⟩, rfl, hc.mono (fun _ e => Or.inr (Or.inl e)), ?_⟩, hc⟩
  · exact hc.same h.mac (fun e => ne_kind h.mac h.dir (by decide) e)
  · exact one_setCell ((Below.heap_alloc _ _ _ hG).trans h.dir)
  · intro Q hQ
    obtain rfl := Option.some.inj hQ
    rw [Below.heap_setCell _ _ _ _ (by show _ ≠ l.G; omega), heap_new, zero109 { l with pg := some w.heap.size } m hnop.2 hnop.1]
  · intro hn; cases hn
  · intro I hI
    rw [show ({ l with pg := some w.heap.size } : Lay).ip = l.ip from rfl, hnop.1] at hI
    cases hI
  · refine h.inp.kept fun k hk => ?_
    obtain ⟨cs, hk'⟩ := h.inp.block hk
    exact hc.block k (lt_of_block hk') (fun e => ne_kind hk' h.dir (by decide) e)
  · refine own_kept h.out fun k hk => ?_
    obtain ⟨cs, hk'⟩ := own_block h.out hk
    exact hc.block k (lt_of_block hk') (fun e => ne_kind hk' h.dir (by decide) e)
  · intro k hk
    rcases hk with e | e | e | e | e | e
    · exact h.lb k (Or.inl e)
    · exact h.lb k (Or.inr (Or.inl e))
    · obtain rfl := Option.some.inj e; exact hbs
    · exact h.lb k (Or.inr (Or.inr (Or.inr (Or.inl e))))
    · exact h.lb k (Or.inr (Or.inr (Or.inr (Or.inr (Or.inl e)))))
    · exact h.lb k (Or.inr (Or.inr (Or.inr (Or.inr (Or.inr e)))))
  · intro k hk
    rcases hk with e | e | e | e | e | e
    · exact Or.inl (Or.inl e)
    · exact Or.inl (Or.inr (Or.inl e))
    · obtain rfl := Option.some.inj e; exact Or.inr (Nat.le_refl _)
    · exact Or.inl (Or.inr (Or.inr (Or.inr (Or.inl e))))
    · exact Or.inl (Or.inr (Or.inr (Or.inr (Or.inr (Or.inl e)))))
    · exact Or.inl (Or.inr (Or.inr (Or.inr (Or.inr (Or.inr e)))))
theorem norm2 (w : World) (G i t : Nat) (C : Array Value) (v x : Value) (hG : G < w.heap.size) :
    ((w.alloc (.cells C t)).setCell ⟨G, 0, none⟩ v).setCell ⟨w.heap.size, i, none⟩ x = (w.setCell ⟨G, 0, none⟩ v).alloc (.cells (C.setIfInBounds i x) t) := by
  rw [World.setCell_alloc_past _ _ _ _ hG, World.setCell_alloc_at _ _ _ _ _ (by show _ = (w.heap.modify _ _).size; simp)]
theorem MRep.bs {base : Nat} {w : World} {l : Lay} {m : MS} (h : MRep base w l m) : base ≤ w.heap.size := Nat.le_of_lt (Nat.lt_of_le_of_lt (h.lb _ (Or.inl rfl)) (h.lt (Or.inl rfl)))

set_option maxRecDepth 100000 in
set_option maxHeartbeats 1000000 in
theorem store_none {base : Nat} {w : World} {l : Lay} {m : MS} (h : MRep base w l m) (at' : Nat) (x : Int) (ha : at' < 1024) (hx : 0 ≤ x ∧ x < 4294967296) (hP : l.pg = none) :
    Calls Tryd.prog 38 #[.pointer (some ⟨l.M, 33, none⟩), .int .u32 at', .int .u32 x] w fun e w' => e = .returned (.tuple #[]) ∧ Chg (fun k => k = l.G ∨ l.pg = some k) w w' ∧ ∃ l', Stp base w w' l l' { m with mem := updF m.mem at' x } := by
  obtain ⟨s, hc⟩ := h.page hP h.bs
  have t := s.rep.store_some w.heap.size at' x rfl ha hx
  have H := Lib.hid (And.intro s (And.intro hc t))
  have e1 : ((at' : Int) / 1024) = 0 := by omega
  have e2 : ((at' : Int) % 1024) = at' := by omega
  have c34 := h.c34
  have cG := cell_of_one h.dir
  rw [hP] at cG
  have cG' : w.cell? ⟨l.G, 0, none⟩ = some (.pointer none) := cG
  have fG := free_of_one h.dir
  have hG := lt_of_block h.dir
  have hM := lt_of_block h.mac
  have hM1 := s.rep.c34
  have hp1 : (((w.alloc (.cells Tryd.zeroCells109 109)).setCell ⟨l.G, 0, none⟩ (.pointer (some ⟨w.heap.size, 0, none⟩)))).cell? ⟨w.heap.size, at', none⟩ = some (.int .u32 (m.mem at')) := cellV (s.rep.pag _ rfl) at' (by omega) (by unfold pcell; rw [if_pos ha])
  have hf1 := freeF (s.rep.pag _ rfl) at'
  have cA : (w.alloc (.cells Tryd.zeroCells109 109)).cell? ⟨l.M, 34, none⟩ = some (.slice (some ⟨l.G, 0, none⟩) 1 1) := (World.cell?_alloc_lt _ _ _ hM).trans c34
  have cB : (w.alloc (.cells Tryd.zeroCells109 109)).cell? ⟨l.G, 0, none⟩ = some (.pointer none) := (World.cell?_alloc_lt _ _ _ hG).trans cG'
  have fB : (w.alloc (.cells Tryd.zeroCells109 109)).frozen? ⟨l.G, 0, none⟩ = false := (World.frozen?_of_block (a := ⟨l.G, 0, none⟩) (Below.heap_alloc _ _ _ hG)).trans fG
  clear hx h s hc t cG hP
  go_enter Tryd.func38, Tryd.ntmps38
  go_wp2
  go_returns
  obtain ⟨s, hc, t, hc2⟩ := H.out
  rw [norm2 _ _ _ _ _ _ _ hG] at t hc2
  exact ⟨rfl, (hc.trans hc2 (fun k e => Or.inr (by omega))).mono (fun k e => Or.inl e), _, s.trans ⟨t, rfl, hc2.mono (fun k e => Or.inr (Or.inr (Or.inl (by rw [e])))), fun _ h => Or.inl h⟩⟩

set_option maxRecDepth 100000 in
set_option maxHeartbeats 1000000 in
theorem store_some {base : Nat} {w : World} {l : Lay} {m : MS} (h : MRep base w l m) (P at' : Nat) (x : Int) (ha : at' < 1024) (hx : 0 ≤ x ∧ x < 4294967296) (hP : l.pg = some P) :
    Calls Tryd.prog 38 #[.pointer (some ⟨l.M, 33, none⟩), .int .u32 at', .int .u32 x] w fun e w' => e = .returned (.tuple #[]) ∧ Chg (fun k => k = l.G ∨ l.pg = some k) w w' ∧ ∃ l', Stp base w w' l l' { m with mem := updF m.mem at' x } := by
  have t := h.store_some P at' x hP ha hx
  have H := Lib.hid (And.intro hP t)
  have e1 : ((at' : Int) / 1024) = 0 := by omega
  have e2 : ((at' : Int) % 1024) = at' := by omega
  have c34 := h.c34
  have cG := cell_of_one h.dir
  rw [hP] at cG
  have cG' : w.cell? ⟨l.G, 0, none⟩ = some (.pointer (some ⟨P, 0, none⟩)) := cG
  have hp1 : w.cell? ⟨P, at', none⟩ = some (.int .u32 (m.mem at')) := cellV (h.pag _ hP) at' (by omega) (by unfold pcell; rw [if_pos ha])
  have hf1 := freeF (h.pag _ hP) at'
  clear hx h t cG hP
  go_enter Tryd.func38, Tryd.ntmps38
  go_wp2
  go_returns
  obtain ⟨hP, t, hc⟩ := H.out
  exact ⟨rfl, hc.mono (fun k e => Or.inr (by rw [e, hP])), l, ⟨t, rfl, hc.mono (fun k e => Or.inr (Or.inr (Or.inl (by rw [e, hP])))), fun _ h => Or.inl h⟩⟩
theorem store_at {base : Nat} {w : World} {l : Lay} {m : MS} (h : MRep base w l m) (at' : Nat) (x : Int) (ha : at' < m.size) (hx : 0 ≤ x ∧ x < 4294967296) :
    Calls Tryd.prog 38 #[.pointer (some ⟨l.M, 33, none⟩), .int .u32 at', .int .u32 x] w fun e w' => e = .returned (.tuple #[]) ∧ Chg (fun k => k = l.G ∨ l.pg = some k) w w' ∧ ∃ l', Stp base w w' l l' { m with mem := updF m.mem at' x } := by
  have hs := h.ok.size
  cases hP : l.pg with
  | none => have := store_none h at' x (by omega) hx hP; rw [hP] at this; exact this
  | some P => have := store_some h P at' x (by omega) hx hP; rw [hP] at this; exact this

set_option maxRecDepth 100000 in
set_option maxHeartbeats 1000000 in
theorem put_in {base : Nat} {w : World} {l : Lay} {m : MS} (h : MRep base w l m) (at' : Nat) (x : Int) (ha : at' < m.size) (hx : 0 ≤ x ∧ x < 4294967296) :
    Calls Tryd.prog 15 #[.pointer (some ⟨l.M, 0, none⟩), .int .i64 at', .int .u32 x] w fun e w' => e = .returned (.int .i64 0) ∧ ∃ l', Stp base w w' l l' { m with mem := updF m.mem at' x } := by
  have c0 := h.c0
  have c33 := h.c33
  have hs := h.ok.size.2
  have hb : decide (0 ≤ (at' : Int) ∧ (at' : Int) < m.size) = true := by simp; omega
  have HB := Lib.hid hb
  have H := Lib.hid (store_at h at' x ha hx)
  clear hb h hx
  go_enter Tryd.func15, Tryd.ntmps15
  go_wp2_with (first
    | (go_at_call 35; refine (made_at _ _ c0).mono ?_; rintro e w' ⟨rfl, rfl⟩)
    | (go_at_call 37; refine (isAddr_val _ _ _ _ _ hs c33 HB.out).mono ?_; rintro e w' ⟨rfl, rfl⟩)
    | (go_at_call 38; refine (H.out).mono ?_; rintro e w1 ⟨rfl, h2, l', h1⟩))
  go_ret
  exact ⟨rfl, l', h1⟩
set_option maxRecDepth 100000 in
set_option maxHeartbeats 1000000 in
theorem put_out {base : Nat} {w : World} {l : Lay} {m : MS} (h : MRep base w l m) (at' x : Int) (ha : ¬ (0 ≤ at' ∧ at' < m.size)) :
    Calls Tryd.prog 15 #[.pointer (some ⟨l.M, 0, none⟩), .int .i64 at', .int .u32 x] w fun e w' => e = .returned (.int .i64 2) ∧ w = w' := by
  have c0 := h.c0
  have c33 := h.c33
  have hs := h.ok.size.2
  have hb : decide (0 ≤ at' ∧ at' < m.size) = false := by simpa using ha
  have HB := Lib.hid hb
  clear hb h ha
  go_enter Tryd.func15, Tryd.ntmps15
  go_wp2_with (first
    | (go_at_call 35; refine (made_at _ _ c0).mono ?_; rintro e w' ⟨rfl, rfl⟩)
    | (go_at_call 37; refine (isAddr_val _ _ _ _ _ hs c33 HB.out).mono ?_; rintro e w' ⟨rfl, rfl⟩))
  go_ret
  exact ⟨rfl, rfl⟩
end Go.Proofs.YtknnmacmohpanaaDoor
