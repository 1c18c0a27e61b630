/- Contracts: the program's Lex. Conditions: none. -/
import Derived.Test.YtgnnkfdpfmlajaaDoorLxBm
import Derived.OwnWalk
namespace Go.Proofs.YtgnnkfdpfmlajaaDoor
open Go.RowKit Bg Lx
set_option linter.unusedVariables false
set_option linter.unusedSimpArgs false

/-- A lexer that has read nothing. -/
theorem st_new {w W : World} {p : Option Addr} {c : Nat} {l : List Int} {b C : Nat} {q : Option Addr} (a : Arg .u8 w p c l) (hb : Byts l) (hl : l.length ≤ 100000) (ht : Tab w) (hB : Below w.heap.size w W) (hlo : w.heap.size ≤ b)
    (hx : W.heap[b]? = some (.cells #[.slice p l.length c, .int .i64 0, .int .i64 0, .slice q 0 C] 45)) (hr : TR w.heap.size W (.slice q 0 C) []) : St ⟨w, p, c, l, b, C⟩ 0 [] W := by
  refine ⟨hB, hlo, a, hb, hl, ht, Nat.zero_le _, Nat.zero_le _, q, ?_, ?_⟩
  · rw [List.take_nil]; exact hx
  · rw [List.take_nil]; exact hr
theorem allR_0 (s : Sit) : allR s 0 [] = if (lex 0 s.l).2.1 = 0 then .go s.l.length (lex 0 s.l).1 else .no (lex 0 s.l).2.1 (lex 0 s.l).2.2 := by
  unfold allR
  rw [List.drop_zero, List.nil_append]
  rfl
/-- What Lex gives. -/
def LexIs (w : World) (l : List Int) (e : Ending) (w' : World) : Prop := ∃ v, e = .returned (.tuple #[v, .agg #[.int .i64 (lex 0 l).2.1, .int .i64 (lex 0 l).2.2]]) ∧ TR w.heap.size w' v (lex 0 l).1
set_option maxRecDepth 100000 in
set_option maxHeartbeats 8000000 in
theorem plex_at {w : World} {p : Option Addr} {c : Nat} {l : List Int} (a : Arg .u8 w p c l) (hb : Byts l) (hl : l.length ≤ 100000) (ht : Tab w) :
    Calls Tryd.prog 9 #[.slice p l.length c] w fun e w' => LexIs w l e w' ∧ Below w.heap.size w w' := by
  obtain ⟨W0, hW0⟩ : ∃ W, W = w.alloc (.cells #[.int .i64 0, .int .i64 0] 27) := ⟨_, rfl⟩
  have r0 := rt_new w
  have b0 : Below w.heap.size w W0 := by rw [hW0]; exact (Below.refl _ _).alloc (Nat.le_refl _) _
  rw [← hW0] at r0
  have hs0 : W0.heap.size = w.heap.size + 1 := by rw [hW0]; simp
  obtain ⟨W1, hW1⟩ : ∃ W, W = W0.alloc (.cells #[.slice p l.length c, .int .i64 0, .int .i64 0, .slice none 0 0] 45) := ⟨_, rfl⟩
  have b1 : Below W0.heap.size W0 W1 := by rw [hW1]; exact (Below.refl _ _).alloc (Nat.le_refl _) _
  have x1 : W1.heap[W0.heap.size]? = some (.cells #[.slice p l.length c, .int .i64 0, .int .i64 0, .slice none 0 0] 45) := by rw [hW1]; exact heap_new _ _
  rw [hs0] at x1
  have bw1 := b0.trans (b1.mono b0.size)
  have S1 := st_new (b := w.heap.size + 1) (C := 0) (q := none) a hb hl ht bw1 (by omega) x1 (TR.nil _ _)
  obtain ⟨s1, hs1⟩ : ∃ s, s = (⟨w, p, c, l, w.heap.size + 1, 0⟩ : Sit) := ⟨_, rfl⟩
  have q1 : s1.b = w.heap.size + 1 ∧ s1.w0 = w ∧ s1.l = l := by rw [hs1]; exact ⟨rfl, rfl, rfl⟩
  rw [← hs1] at S1
  have T := pall_at S1
  rw [allR_0, q1.1, q1.2.2] at T
  have r1 := r0.below b1
  have f1 : ¬ (16777216 : Int) < (l.length : Int) := by omega
  have f2 : decide ((16777216 : Int) < (l.length : Int)) = false := by rw [decide_eq_false_iff_not]; exact f1
  have HA := Lib.hid (And.intro a (And.intro hb (And.intro hl (And.intro ht (And.intro r1 (And.intro q1 bw1))))))
  unfold LexIs
  obtain ⟨ts, hts⟩ : ∃ ts, ts = (lex 0 l).1 := ⟨_, rfl⟩
  obtain ⟨x, hx⟩ : ∃ x, x = (lex 0 l).2.1 := ⟨_, rfl⟩
  obtain ⟨y, hy⟩ : ∃ y, y = (lex 0 l).2.2 := ⟨_, rfl⟩
  have hnorm := lex_norm 0 l
  rw [← hts, ← hx, ← hy] at T hnorm ⊢
  have hplc := (lex_places 0 l hb).1
  have hLX := Lib.hid (And.intro hts (And.intro hx hy))
  obtain ⟨R, hR⟩ : ∃ R, R = w.heap.size := ⟨_, rfl⟩
  rw [← hR] at r1
  clear a hb ht b0 b1 x1 S1 hs1 q1 r0 hs0 hts hy bw1
  by_cases h0 : x = 0
  · subst h0
    have hy0 := hnorm.1 rfl
    subst hy0
    rw [if_pos rfl] at T
    replace T := Lib.hid T
    clear hnorm hplc hx
    go_enter Tryd.func9, Tryd.ntmps9
    go_upto_region 4 with fail
    rw [← hW0, ← hW1]
    clear hW0 hW1
    go_wp2_with fail
    refine T.out.mono ?_
    rintro e w2 ⟨hk2, hf2, rfl, hs2⟩
    have r2 := r1.kp hk2
    obtain ⟨w3, hw3⟩ : ∃ w3, w3 = w2.alloc (.cells #[.int .i64 0, .int .i64 0] 27) := ⟨_, rfl⟩
    have b3 : Below w2.heap.size w2 w3 := by rw [hw3]; exact (Below.refl _ _).alloc (Nat.le_refl _) _
    have hn3 : w3.heap[w2.heap.size]? = some (.cells #[.int .i64 0, .int .i64 0] 27) := by rw [hw3]; exact heap_new _ _
    have n0 := blk_cell hn3 0
    simp only [List.getElem?_toArray, List.getElem?_cons_succ, List.getElem?_cons_zero] at n0
    obtain ⟨N, hN⟩ : ∃ N, N = w2.heap.size := ⟨_, rfl⟩
    rw [← hN] at n0
    have r3 := r2.below b3
    have s3 := hs2.below b3
    have c3 := s3.cell.2.2.1
    have hcnt : ts.length ≤ 100000 := by have := hs2.tle; omega
    rw [HA.out.2.2.2.2.2.1.1, ← hR] at c3
    have fw3 : Below w.heap.size w w3 := by
      have h := hf2
      rw [HA.out.2.2.2.2.2.1.2.1] at h
      exact h.trans (b3.mono h.size)
    obtain ⟨i, hi, hz, hsz, hby⟩ := z37
    obtain ⟨w4, hmk, hown, hgr⟩ := run_make_own (P := Tryd.prog) w3 w.heap.size 24 37 i tk0 7 Tryd.underlying24 hi hz hsz .i64 .i64 ts.length (by rw [hby]; omega) (by unfold maxLen; omega) fw3.size
    have b4 : Below w3.heap.size w3 w4 := (Below.refl _ _).grown hgr (Nat.le_refl _) (fun q hq => by cases hq)
    obtain ⟨g, hg⟩ : ∃ g, g = w3.heap.size := ⟨_, rfl⟩
    rw [← hg] at hmk hown
    obtain ⟨w5, hw5⟩ : ∃ W, W = w4.alloc (.cells #[.slice p l.length c, .int .i64 0, .int .i64 0, .slice (some ⟨g, 0, none⟩) 0 ts.length] 45) := ⟨_, rfl⟩
    have b5 : Below w4.heap.size w4 w5 := by rw [hw5]; exact (Below.refl _ _).alloc (Nat.le_refl _) _
    have x5 : w5.heap[w4.heap.size]? = some (.cells #[.slice p l.length c, .int .i64 0, .int .i64 0, .slice (some ⟨g, 0, none⟩) 0 ts.length] 45) := by rw [hw5]; exact heap_new _ _
    have fw5 : Below w.heap.size w w5 := (fw3.trans (b4.mono fw3.size)).trans (b5.mono (fw3.trans (b4.mono fw3.size)).size)
    have S5 := st_new (b := w4.heap.size) (C := ts.length) (q := some ⟨g, 0, none⟩) HA.out.1 HA.out.2.1 HA.out.2.2.1 HA.out.2.2.2.1 fw5 (by have := fw3.size; have := b4.size; omega) x5 (TR.below (show TR w.heap.size w4 (.slice (some ⟨g, 0, none⟩) 0 ts.length) [] from hown) b5)
    obtain ⟨M, hM⟩ : ∃ M, M = w4.heap.size := ⟨_, rfl⟩
    rw [← hM] at S5
    obtain ⟨s5, hs5⟩ : ∃ s, s = (⟨w, p, c, l, M, ts.length⟩ : Sit) := ⟨_, rfl⟩
    have q5 : s5.b = M ∧ s5.w0 = w ∧ s5.l = l ∧ s5.C = ts.length := by rw [hs5]; exact ⟨rfl, rfl, rfl, rfl⟩
    rw [← hs5] at S5
    have T5 := pall_at S5
    rw [allR_0, q5.1, q5.2.2.1, ← hLX.out.1, ← hLX.out.2.1, if_pos rfl] at T5
    replace T5 := Lib.hid T5
    have r5 := Lib.hid ((r3.below b4).below b5)
    have HQ := Lib.hid (And.intro q5 hR)
    clear hk2 hf2 r2 r3 hn3 b3 r1 hs2 s3 hcnt fw3 hi hz hsz hby hown hgr b4 b5 x5 fw5 S5 hs5 q5
    go_upto_region 5 with fail
    rw [← hw3, ← hN, ← hR]
    clear hw3 hN hR hg
    go_upto_region 8 with fail
    rw [← hw5, ← hM]
    clear hw5 hM hmk n0 c3
    go_wp2_with fail
    refine T5.out.mono ?_
    rintro e w6 ⟨hk6, hf6, rfl, hs6⟩
    obtain ⟨q, h1, h2⟩ := hs6.lex
    rw [HQ.out.1.2.2.2, List.take_length, HQ.out.1.2.1] at h2
    rw [HQ.out.1.2.2.2, List.take_length, HQ.out.1.1] at h1
    have d3 := blk_cell h1 3
    simp only [Sit.cells, List.getElem?_toArray, List.getElem?_cons_succ, List.getElem?_cons_zero] at d3
    have r6 := r5.out.kp hk6
    obtain ⟨c0, c1, q0, q1, -⟩ := r6.facts
    have rt := Lib.hid r6
    have hf7 : Below w.heap.size w w6 := by rw [HQ.out.1.2.1] at hf6; exact hf6
    have HE := Lib.hid (And.intro hf7 h2)
    clear hk6 hf6 hs6 h1 h2 r6 hf7
    go_wp2_with fail
    obtain ⟨wz, hwz⟩ : ∃ wz, wz = (w6.setCell ⟨R, 0, none⟩ (.int .i64 0)).setCell ⟨R, 1, none⟩ (.int .i64 0) := ⟨_, rfl⟩
    have z := ret_two rt.out 0 0
    rw [← hwz] at z
    rw [← hwz]
    refine bodyPost_ret (v := .tuple #[.slice q ts.length ts.length, .agg #[.int .i64 0, .int .i64 0]]) (by simp [results, Tryd.results9, go_sem, z.1, z.2]) rfl ?_
    refine ⟨⟨_, rfl, ?_⟩, ?_⟩
    · rw [hwz]
      refine TR.kept HE.out.2 fun g hg => ?_
      obtain ⟨-, cs', fr', hk'⟩ := HE.out.2.block hg
      have hne : g ≠ R := ne_type hk' rt.out (by decide)
      rw [blk_other hne, blk_other hne]
    · rw [hwz]
      exact ret_below HE.out.1 (by rw [HQ.out.2]; exact Nat.le_refl _) _ _
  · rw [if_neg h0] at T
    replace T := Lib.hid T
    have hts0 := hnorm.2 h0
    have g1 : (x == 0) = false := by rw [beq_eq_false_iff_ne]; exact h0
    have g2 : (x != 0) = true := by rw [bne, g1]; rfl
    have HN := Lib.hid hts0
    clear hnorm hplc hx hts0
    go_enter Tryd.func9, Tryd.ntmps9
    go_upto_region 4 with fail
    rw [← hW0, ← hW1]
    clear hW0 hW1
    go_wp2_with fail
    refine T.out.mono ?_
    rintro e w2 ⟨hk2, hf2, rfl, -⟩
    have r2 := r1.kp hk2
    obtain ⟨w3, hw3⟩ : ∃ w3, w3 = w2.alloc (.cells #[.int .i64 x, .int .i64 y] 27) := ⟨_, rfl⟩
    have b3 : Below w2.heap.size w2 w3 := by rw [hw3]; exact (Below.refl _ _).alloc (Nat.le_refl _) _
    have hn3 : w3.heap[w2.heap.size]? = some (.cells #[.int .i64 x, .int .i64 y] 27) := by rw [hw3]; exact heap_new _ _
    have n0 := blk_cell hn3 0
    have n1 := blk_cell hn3 1
    simp only [List.getElem?_toArray, List.getElem?_cons_succ, List.getElem?_cons_zero] at n0 n1
    obtain ⟨N, hN⟩ : ∃ N, N = w2.heap.size := ⟨_, rfl⟩
    rw [← hN] at n0 n1
    have r3 := r2.below b3
    obtain ⟨c0, c1, q0, q1, -⟩ := r3.facts
    have rt := Lib.hid r3
    have HE := Lib.hid (show Below w.heap.size w w3 by
      have h := hf2
      rw [HA.out.2.2.2.2.2.1.2.1] at h
      exact h.trans (b3.mono h.size))
    clear hk2 hf2 r2 r3 hn3 b3 r1
    go_upto_region 5 with fail
    rw [← hw3, ← hN, ← hR]
    have HR := Lib.hid hR
    clear hw3 hN hR
    go_upto_region 6 with fail
    go_region
    all_goals
      go_wp2_with fail
      obtain ⟨wz, hwz⟩ : ∃ wz, wz = (w3.setCell ⟨R, 0, none⟩ (.int .i64 x)).setCell ⟨R, 1, none⟩ (.int .i64 y) := ⟨_, rfl⟩
      have z := ret_two rt.out x y
      rw [← hwz] at z
      have z0 : wz.drew.cell? ⟨R, 0, none⟩ = some (.int .i64 x) := z.1
      have z1 : wz.drew.cell? ⟨R, 1, none⟩ = some (.int .i64 y) := z.2
      rw [← hwz]
      refine bodyPost_ret (v := .tuple #[.slice none 0 0, .agg #[.int .i64 x, .int .i64 y]]) (by simp [results, Tryd.results9, go_sem, z0, z1]) rfl ?_
      refine ⟨⟨_, rfl, ?_⟩, ?_⟩
      · rw [HN.out]; exact TR.nil _ _
      · rw [hwz]
        exact (ret_below HE.out (by rw [HR.out]; exact Nat.le_refl _) _ _).drew
end Go.Proofs.YtgnnkfdpfmlajaaDoor
