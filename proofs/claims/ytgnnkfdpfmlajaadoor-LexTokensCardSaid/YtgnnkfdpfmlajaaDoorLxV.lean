/- Contracts: a token is put. Conditions: none. -/
import Derived.Test.YtgnnkfdpfmlajaaDoorLxU
namespace Go.Proofs.YtgnnkfdpfmlajaaDoor
open Go.RowKit Bg Lx
set_option linter.unusedVariables false
set_option linter.unusedSimpArgs false

theorem step_run24 {ops : Array Oper} {o : Oper} {a : Act} {w w' : World} {K : Act → World → Prop} {Q : Exit → Act → World → Prop} {E : Prop} (hgd : o.guard = none) (s x : Operand)
    (ho : o.op = .call { callee := .builtin .append, args := #[s, x], argTypes := #[24, 24] }) {v u v' : Value} (hs : a.eval s = v) (hx : a.eval x = u)
    (hr : (Builtin.append_ #[24, 24] o.type #[v, u]).run Tryd.prog w = .ok v' w') (h : K (a.put o.dst v') w') :
    if Region.wanted o (yielded ops a.tmps) = true then Oper.wp Tryd.prog o a w K Q else E := by
  have hw : Region.wanted o (yielded ops a.tmps) = true := by simp [Region.wanted, hgd]
  rw [if_pos hw]
  unfold Oper.wp execOp
  simp only [ho, resolve, invoke, builtin, Sem.run_bind, Sem.run_pure, Result.andThen_ok, List.map_toArray, List.map_cons, List.map_nil, hs, hx, hr]
  exact h
theorem put_cells {s : Sit} {k : Nat} {ts : List Tk} {w : World} (h : St s k ts w) : ∃ q, w.cell? ⟨s.b, 3, none⟩ = some (.slice q (ts.take s.C).length s.C) ∧ w.heap[s.b]? = some (.cells (s.cells k ts.length (.slice q (ts.take s.C).length s.C)) 45) ∧ TR s.w0.heap.size w (.slice q (ts.take s.C).length s.C) (ts.take s.C) := by
  obtain ⟨q, h1, h2⟩ := h.lex
  exact ⟨q, blk_cell h1 3, h1, h2⟩
theorem put_facts {s : Sit} {k n : Nat} {tv : Value} {t : Tk} {w : World} {N : Nat} (hb : w.heap[s.b]? = some (.cells (s.cells k n tv) 45)) (hx : w.heap[N]? = some (.cells (tkC t).toArray 37)) :
    w.cell? ⟨s.b, 3, none⟩ = some tv ∧ w.frozen? ⟨s.b, 1, none⟩ = false ∧ w.frozen? ⟨s.b, 3, none⟩ = false ∧ w.cell? ⟨N, 0, none⟩ = some (.int .i64 t.kind) ∧ w.cell? ⟨N, 1, none⟩ = some (.int .i64 t.pos) ∧ w.cell? ⟨N, 2, none⟩ = some (.int .i64 t.dk) ∧ w.cell? ⟨N, 3, none⟩ = some (.int .i64 t.n) ∧ w.cell? ⟨N, 4, none⟩ = some (.string (strOfNums t.text)) ∧ w.cell? ⟨N, 5, none⟩ = some (.slice none 0 0) ∧ w.cell? ⟨N, 6, none⟩ = some (.int .i64 (dpos t)) ∧ w.cell? ⟨s.b, 1, none⟩ = some (.int .i64 (k : Int)) :=
  ⟨blk_cell hb 3, blk_free hb 1, blk_free hb 3, blk_cell hx 0, blk_cell hx 1, blk_cell hx 2, blk_cell hx 3, blk_cell hx 4, blk_cell hx 5, blk_cell hx 6, blk_cell hb 1⟩
/-- What is known behind the count. -/
structure Pt (s : Sit) (k : Nat) (ts : List Tk) (t : Tk) (w : World) (N : Nat) (q : Option Addr) (W : World) : Prop where
  kp : Kp w W
  fr : Below s.w0.heap.size s.w0 W
  lex : W.heap[s.b]? = some (.cells (s.cells k (ts.length + 1) (.slice q (ts.take s.C).length s.C)) 45)
  tok : W.heap[N]? = some (.cells (tkC t).toArray 37)
  row : TR s.w0.heap.size W (.slice q (ts.take s.C).length s.C) (ts.take s.C)
theorem Pt.below {s : Sit} {k : Nat} {ts : List Tk} {t : Tk} {w : World} {N : Nat} {q : Option Addr} {W W' : World} (h : Pt s k ts t w N q W) (hb : Below W.heap.size W W') : Pt s k ts t w N q W' :=
  ⟨h.kp.trans (Kp.of_below hb), h.fr.trans (hb.mono h.fr.size), (hb.block _ (lt_block h.lex)).trans h.lex, (hb.block _ (lt_block h.tok)).trans h.tok, h.row.below hb⟩
/-- A token is put into a row with room. -/
theorem room_put {s : Sit} {k : Nat} {ts : List Tk} {t : Tk} {w : World} {N : Nat} {q : Option Addr} {W : World} (h : Pt s k ts t w N q W) (hC : ts.length < s.C) : ∃ g, q = some ⟨g, 0, none⟩ ∧ ∃ W', (Builtin.append_ #[24, 24] 24 #[.slice q ts.length s.C, .slice (some ⟨W.heap.size, 0, none⟩) 1 1]).run Tryd.prog (W.alloc (.cells #[.int .i64 t.kind, .int .i64 t.pos, .int .i64 t.dk, .int .i64 t.n, .string (strOfNums t.text), .slice none 0 0, .int .i64 (dpos t)] 37)).drew = .ok (.slice q (ts.length + 1) s.C) W' ∧ TR s.w0.heap.size W' (.slice q (ts.length + 1) s.C) (ts ++ [t]) ∧ Kp w W' ∧ Below s.w0.heap.size s.w0 W' ∧ W'.heap[s.b]? = some (.cells (s.cells k (ts.length + 1) (.slice q ts.length s.C)) 45) := by
  obtain ⟨i, hi, -, hz, -⟩ := z37
  have ht : ts.take s.C = ts := List.take_of_length_le (by omega)
  have hrow := h.row
  have hlex := h.lex
  rw [ht] at hrow hlex
  have hq : ∃ g, q = some ⟨g, 0, none⟩ := by
    rcases hrow.2 with ⟨h0, -⟩ | ⟨g, cap, cur, hv, -⟩
    · have := (Value.slice.inj h0).2.2; omega
    · exact ⟨g, (Value.slice.inj hv).1⟩
  obtain ⟨g, rfl⟩ := hq
  refine ⟨g, rfl, ?_⟩
  obtain ⟨W4, hW4⟩ : ∃ W4, W4 = (W.alloc (.cells #[.int .i64 t.kind, .int .i64 t.pos, .int .i64 t.dk, .int .i64 t.n, .string (strOfNums t.text), .slice none 0 0, .int .i64 (dpos t)] 37)).drew := ⟨_, rfl⟩
  have hb : Below W.heap.size W W4 := by rw [hW4]; exact ((Below.refl _ _).alloc (Nat.le_refl _) _).drew
  have hn : W4.heap[W.heap.size]? = some (.cells (tkC t).toArray 37) := by rw [hW4]; exact heap_new W _
  rw [← hW4]
  have hrow4 := hrow.below hb
  have hlex4 := (hb.block _ (lt_block hlex)).trans hlex
  obtain ⟨W5, e1, e2, e3⟩ := run_append_own_spare (P := Tryd.prog) W4 s.w0.heap.size 24 24 37 i 7 Tryd.underlying24 hi hz g ts.length s.C (tkCs ts) hrow4 ⟨W.heap.size, 0, none⟩ 1 1 (tkC t) rfl (World.news_of_block hn) (tkC_one t) (by omega)
  have hg := hrow4.block (g := g) rfl
  obtain ⟨hgl, cs, fr, hgk⟩ := hg
  refine ⟨W5, e1, ?_, ?_, ?_, ?_⟩
  · unfold TR
    rw [tkCs_snoc, List.length_append]
    exact e2
  · exact ((h.kp.trans (Kp.of_below hb))).grown e3 hgk
  · exact (h.fr.trans (hb.mono h.fr.size)).grown e3 (by have := h.fr.size; have := hb.size; omega) (fun q hq => by cases hq; exact hgl)
  · rw [e3.block _ (lt_block hlex4) (fun e => ne_type hgk hlex4 (by decide) (Option.some.inj e).symm)]
    exact hlex4
/-- The end of a put. -/
theorem put_end {s : Sit} {k n : Nat} {ts : List Tk} {t : Tk} {w W : World} {q : Option Addr} (h : St s k ts w) (hk : k < n) (hn : n ≤ s.l.length) (kp : Kp w W) (fr : Below s.w0.heap.size s.w0 W) (hl : W.heap[s.b]? = some (.cells (s.cells k (ts.length + 1) (.slice q ((ts ++ [t]).take s.C).length s.C)) 45)) (hr : TR s.w0.heap.size W (.slice q ((ts ++ [t]).take s.C).length s.C) ((ts ++ [t]).take s.C)) :
    St s n (ts ++ [t]) (W.setCell ⟨s.b, 1, none⟩ (.int .i64 (n : Int))) ∧ Kp w (W.setCell ⟨s.b, 1, none⟩ (.int .i64 (n : Int))) := by
  refine ⟨⟨fr.setCell h.lo _, h.lo, h.arg, h.byts, h.len, h.tab, hn, by have := h.tle; simp; omega, q, ?_, ?_⟩, kp.set hl (Or.inl rfl) _ _⟩
  · rw [blk_set hl (by show 1 < 4; decide)]
    simp [Sit.cells]
  · refine hr.kept fun g hg => ?_
    obtain ⟨-, cs', fr', hk'⟩ := hr.block hg
    exact blk_other (ne_type hk' hl (by decide))
set_option maxRecDepth 100000 in
set_option maxHeartbeats 4000000 in
theorem put_at {s : Sit} {k : Nat} {ts : List Tk} {w : World} (h : St s k ts w) (t : Tk) (n : Nat) (hk : k < n) (hn : n ≤ s.l.length) :
    Calls Tryd.prog 46 #[.pointer (some ⟨s.b, 0, none⟩), tkV t, .int .i64 (n : Int)] w fun e w' => e = .returned (.tuple #[]) ∧ St s n (ts ++ [t]) w' ∧ Kp w w' := by
  obtain ⟨q, c3, hb, hrow⟩ := put_cells h
  have hc := h.cell
  have c2 := hc.2.2.1
  have f2 := hc.2.2.2 2
  have hlt := h.blt
  have hlen : ts.length ≤ 100000 := by have := h.tle; have := h.kle; have := h.len; omega
  obtain ⟨W1, hW1⟩ : ∃ W, W = w.setCell ⟨s.b, 2, none⟩ (.int .i64 ((ts.length : Int) + 1)) := ⟨_, rfl⟩
  obtain ⟨W2, hW2⟩ : ∃ W, W = W1.alloc (.cells #[.int .i64 t.kind, .int .i64 t.pos, .int .i64 t.dk, .int .i64 t.n, .string (strOfNums t.text), .slice none 0 0, .int .i64 (dpos t)] 37) := ⟨_, rfl⟩
  have hs1 : W1.heap.size = w.heap.size := by rw [hW1]; exact set_size _ _ _
  have hb1 : W1.heap[s.b]? = some (.cells (s.cells k (ts.length + 1) (.slice q (ts.take s.C).length s.C)) 45) := by
    rw [hW1, blk_set hb (by show 2 < 4; decide)]; rfl
  have b12 : Below W1.heap.size W1 W2 := by rw [hW2]; exact (Below.refl _ _).alloc (Nat.le_refl _) _
  have hr1 : TR s.w0.heap.size W1 (.slice q (ts.take s.C).length s.C) (ts.take s.C) := by
    rw [hW1]
    exact hrow.kept fun g hg => by
      obtain ⟨-, cs', fr', hk'⟩ := hrow.block hg
      exact blk_other (ne_type hk' hb (by decide))
  have P2 : Pt s k ts t w w.heap.size q W2 := ⟨((Kp.refl w).set hb (Or.inl rfl) 2 (.int .i64 ((ts.length : Int) + 1))).trans (by rw [← hW1]; exact Kp.of_below b12), by rw [hW2, hW1]; exact ((h.fr.setCell h.lo _)).alloc (by rw [set_size]; exact h.fr.size) _, (b12.block _ (lt_block hb1)).trans hb1, by rw [hW2, ← hs1]; exact heap_new _ _, hr1.below b12⟩
  obtain ⟨N, hN⟩ : ∃ N, N = w.heap.size := ⟨_, rfl⟩
  rw [← hN] at P2
  obtain ⟨d3, e1, e3, x0, x1, x2, x3, x4, x5, x6, -⟩ := put_facts P2.lex P2.tok
  have hBN : s.b < N := by omega
  rw [hW1] at hW2
  have HH := Lib.hid (And.intro h (And.intro P2 (And.intro hN hk)))
  have hmC : (ts.take s.C).length = ts.length ∧ ts.length < s.C ∨ (ts.take s.C).length = s.C ∧ s.C ≤ ts.length := by rw [List.length_take]; omega
  obtain ⟨m, hm⟩ : ∃ m, m = (ts.take s.C).length := ⟨_, rfl⟩
  have HM := Lib.hid hm
  rw [← hm] at c3 d3 hmC
  clear hc hb hrow h hW1 hb1 hr1 P2 b12 hs1 hm hk
  unfold tkV
  rcases hmC with ⟨rfl, hlC⟩ | ⟨hmt, hlC⟩
  · have g1 : (ts.length : Int) < (s.C : Int) := by omega
    have g2 : decide ((ts.length : Int) < (s.C : Int)) = true := by rw [decide_eq_true_eq]; exact g1
    obtain ⟨g, rfl, -⟩ := room_put HH.out.2.1 hlC
    go_enter Tryd.func46, Tryd.ntmps46
    go_upto_region 2 with fail
    rw [← hW2, ← hN]
    clear hW2 c2 c3 f2 hlt hN
    go_quiet (fail)
    obtain ⟨W3, hW3⟩ : ∃ W, W = W2.drewN nq := ⟨_, rfl⟩
    have P3 : Pt s k ts t w N (some ⟨g, 0, none⟩) W3 := HH.out.2.1.below (by rw [hW3]; exact below_drewN (Below.refl _ _) nq)
    rw [← hW3]
    clear hW3 d3 e1 e3 x0 x1 x2 x3 x4 x5 x6
    obtain ⟨d3, e1, e3, x0, x1, x2, x3, x4, x5, x6, x7⟩ := put_facts P3.lex P3.tok
    rw [← HM.out] at d3
    have hB3 : s.b < W3.heap.size := lt_block P3.lex
    have hN3 : N < W3.heap.size := lt_block P3.tok
    obtain ⟨g', hg', W5, hrun, r5, k5, b5, l5⟩ := room_put P3 hlC
    cases hg'
    have y3 := blk_cell l5 3
    have y1 := blk_cell l5 1
    have z3 := blk_free l5 3
    have z1 := blk_free l5 1
    simp only [Sit.cells, List.getElem?_toArray, List.getElem?_cons_succ, List.getElem?_cons_zero] at y3 y1
    have HP := Lib.hid (And.intro P3 (And.intro hrun (And.intro r5 (And.intro k5 (And.intro b5 l5)))))
    clear P3 hrun r5 k5 b5 l5
    go_upto_region 3 with fail
    go_region_law (refine step_run24 rfl _ _ rfl rfl rfl HP.out.2.1 ?_)
    all_goals go_wp2_with fail
    all_goals refine bodyPost_end (v := .tuple #[]) (by simp [results, Tryd.results46, go_sem]) rfl ?_
    all_goals
      obtain ⟨-, -, r5, k5, b5, l5⟩ := HP.out
      have e1 : (ts ++ [t]).take s.C = ts ++ [t] := List.take_of_length_le (by simp; omega)
      have e2 : (ts ++ [t]).length = ts.length + 1 := by simp
      have l6 := blk_set (x := .slice (some ⟨g, 0, none⟩) (ts.length + 1) s.C) l5 (i := 3) (by show 3 < 4; decide)
      have fin := put_end (t := t) (W := W5.setCell ⟨s.b, 3, none⟩ (.slice (some ⟨g, 0, none⟩) (ts.length + 1) s.C)) (q := some ⟨g, 0, none⟩) HH.out.1 HH.out.2.2.2 hn (k5.set l5 (Or.inl rfl) 3 _) (b5.setCell HH.out.1.lo _) (by rw [e1, e2]; exact l6) (by
        rw [e1, e2]
        exact r5.kept fun g' hg => by
          obtain ⟨-, cs', fr', hk'⟩ := r5.block hg
          exact blk_other (ne_type hk' l5 (by decide)))
      exact ⟨rfl, fin.1, fin.2⟩
  · have g1 : ¬ (m : Int) < (s.C : Int) := by omega
    have g2 : decide ((m : Int) < (s.C : Int)) = false := by rw [decide_eq_false_iff_not]; exact g1
    go_enter Tryd.func46, Tryd.ntmps46
    go_upto_region 2 with fail
    rw [← hW2, ← hN]
    have HW := Lib.hid (And.intro hmt hlC)
    clear hW2 c2 c3 f2 hlt hN hmt hlC
    go_quiet (fail)
    obtain ⟨W3, hW3⟩ : ∃ W, W = W2.drewN nq := ⟨_, rfl⟩
    have P3 : Pt s k ts t w N q W3 := HH.out.2.1.below (by rw [hW3]; exact below_drewN (Below.refl _ _) nq)
    rw [← hW3]
    clear hW3 d3 e1 e3 x0 x1 x2 x3 x4 x5 x6
    obtain ⟨d3, e1, e3, x0, x1, x2, x3, x4, x5, x6, x7⟩ := put_facts P3.lex P3.tok
    have HP := Lib.hid P3
    clear P3
    go_wp2_with fail
    refine bodyPost_end (v := .tuple #[]) (by simp [results, Tryd.results46, go_sem]) rfl ?_
    have e1 : (ts ++ [t]).take s.C = ts.take s.C := List.take_append_of_le_length HW.out.2
    have fin := put_end (t := t) (W := W3) (q := q) HH.out.1 HH.out.2.2.2 hn HP.out.kp HP.out.fr (by rw [e1]; exact HP.out.lex) (by rw [e1]; exact HP.out.row)
    exact ⟨rfl, fin.1, fin.2⟩
end Go.Proofs.YtgnnkfdpfmlajaaDoor
