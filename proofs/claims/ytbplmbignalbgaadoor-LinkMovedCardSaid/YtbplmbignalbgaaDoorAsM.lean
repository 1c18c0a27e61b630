/- Contracts: addresses are worked out from the forms. Conditions: the layout lies as told. -/
import Derived.Test.YtbplmbignalbgaaDoorAsL
import Derived.Laws.MakeOwn
import Derived.Deep.DeepAppendRoom
namespace Go.Proofs.YtbplmbignalbgaaDoor
open Go.RowKit Asm
set_option linter.unusedVariables false
set_option linter.unusedSimpArgs false

/-- A layout's own cells. -/
def sev (v0 v1 v2 v3 v4 v5 v6 : Value) (i : Nat) : Value := if i = 0 then v0 else if i = 1 then v1 else if i = 2 then v2 else if i = 3 then v3 else if i = 4 then v4 else if i = 5 then v5 else v6
theorem lcell_sev (l : LL) (s : LS) : lcell l s = sev (.slice l.p l.n l.c) (.map (some l.B)) (arr l.F l.n) (arr l.A (l.n + 1)) (arr l.T (l.n + 1)) (.int .i64 s.tot) (arr l.U l.n) := rfl
theorem sev_3 (v0 v1 v2 v3 v4 v5 v6 x : Value) (j : Nat) (_ : j < 7) : updF (sev v0 v1 v2 v3 v4 v5 v6) 3 x j = sev v0 v1 v2 x v4 v5 v6 j := by
  unfold updF sev
  (repeat' split) <;> first | rfl | omega
theorem sev_4 (v0 v1 v2 v3 v4 v5 v6 x : Value) (j : Nat) (_ : j < 7) : updF (sev v0 v1 v2 v3 v4 v5 v6) 4 x j = sev v0 v1 v2 v3 x v5 v6 j := by
  unfold updF sev
  (repeat' split) <;> first | rfl | omega
theorem made_zero (n : Nat) : madeCells #[Value.int .i64 0] n = cellsF n (ints fun _ => 0) := by
  apply Array.toList_inj.1
  rw [toList_madeCells_one]
  unfold cellsF ints
  rw [Array.toList_ofFn]
  apply List.ext_getElem?
  intro j
  by_cases hj : j < n
  · simp [hj]
  · simp [hj]
theorem mk_zero (t : Nat) (ht : Tryd.prog.underlying t = some (.slice 3)) (w : World) (n : Nat) (hn : n ≤ 1000) : (Instr.makeSlice t (.int .i64 n) (.int .i64 n)).run Tryd.prog w = .ok (.slice (some ⟨w.heap.size, 0, none⟩) n n) (w.alloc (.cells (cellsF n (ints fun _ => 0)) 3)) := by
  obtain ⟨i, hi, hz0, hz1, hz2⟩ := infoI_of
  have h := run_make (P := Tryd.prog) w t 3 i (.int .i64 0) ht hi hz0 .i64 .i64 n n (by omega) (Int.le_refl _) (by rw [hz2]; omega) (by omega)
  rw [hz1, Nat.mul_one, Int.toNat_natCast, show (Value.int .i64 0).cells = #[Value.int .i64 0] from rfl, made_zero] at h
  exact h
theorem mk_room (w : World) (n : Nat) (hn : n ≤ 1000) : (Instr.makeSlice 71 (.int .i64 0) (.int .i64 n)).run Tryd.prog w = .ok (.slice (some ⟨w.heap.size, 0, none⟩) 0 n) (w.alloc (.cells (cellsF n (ints fun _ => 0)) 3)) := by
  obtain ⟨i, hi, hz0, hz1, hz2⟩ := infoI_of
  have h := run_make (P := Tryd.prog) w 71 3 i (.int .i64 0) Tryd.underlying71 hi hz0 .i64 .i64 0 n (by omega) (by omega) (by rw [hz2]; omega) (by omega)
  rw [hz1, Nat.mul_one, Int.toNat_natCast, show (Value.int .i64 0).cells = #[Value.int .i64 0] from rfl, made_zero] at h
  exact h
def rowZ (f : Nat → Int) (k : Nat) : List Value := (List.range k).map fun i => .int .i64 (f i)
theorem rowZ_len (f : Nat → Int) (k : Nat) : (rowZ f k).length = k := by unfold rowZ; simp
theorem rowZ_succ (f : Nat → Int) (k : Nat) : rowZ f (k + 1) = rowZ f k ++ [.int .i64 (f k)] := by unfold rowZ; rw [List.range_succ, List.map_append]; rfl
theorem own_full {w : World} {base g m : Nat} {f : Nat → Int} (h : w.ownsRow base 3 1 (.slice (some ⟨g, 0, none⟩) m m) m (rowZ f m)) : w.heap[g]? = some (.cells (cellsF m (ints f)) 3 (0, 0)) := by
  rcases h.2 with ⟨h0, -⟩ | ⟨g', cap, cur, hv, -, hg, -, -, hcs, htake⟩
  · cases h0
  · simp only [Value.slice.injEq, Option.some.injEq, Addr.mk.injEq, and_true, true_and] at hv
    obtain ⟨rfl, rfl⟩ := hv
    rw [hg]
    congr 2
    apply Array.toList_inj.1
    rw [Nat.mul_one] at hcs htake
    rw [List.take_of_length_le (by rw [Array.length_toList]; omega)] at htake
    rw [htake]
    unfold cellsF rowZ ints
    rw [Array.toList_ofFn]
    apply List.ext_getElem?
    intro j
    by_cases hj : j < m
    · simp [hj]
    · simp [hj]
theorem sz_zero (n : Nat) : ∀ j, j < n → ints (fun _ => (0 : Int)) j = ints (fw fun _ => 0) j := by
  intro j _
  unfold ints
  rw [fw_zero]

theorem Items.lt {w : World} {p : Option Addr} {n c : Nat} {X : Nat → It} (h : Items w p n c X) (hn : 0 < n) {a : Addr} (ha : p = some a) : a.block < w.heap.size := by
  obtain ⟨b, off, hp, hc⟩ := h.cell hn
  rw [hp] at ha
  cases ha
  have := hc 0 hn 0 (by decide)
  exact World.block_lt_of_cell? w _ this
theorem cells8 {w : World} {b t : Nat} {v0 v1 v2 v3 v4 v5 v6 v7 : Value} {fr : Nat × Nat} (h : w.heap[b]? = some (.cells #[v0, v1, v2, v3, v4, v5, v6, v7] t fr)) :
    w.cell? ⟨b, 0, none⟩ = some v0 ∧ w.cell? ⟨b, 1, none⟩ = some v1 ∧ w.cell? ⟨b, 2, none⟩ = some v2 ∧ w.cell? ⟨b, 3, none⟩ = some v3 ∧ w.cell? ⟨b, 4, none⟩ = some v4 ∧ w.cell? ⟨b, 5, none⟩ = some v5 ∧ w.cell? ⟨b, 6, none⟩ = some v6 ∧ w.cell? ⟨b, 7, none⟩ = some v7 := by
  simp [World.cell?, h]
/-- What addresses are worked out from. -/
structure Pre (w : World) (l : LL) (X : Nat → It) (f : Nat → Nat) (v3 v4 : Value) (tot : Int) : Prop where
  n60 : l.n ≤ 480
  items : Items w l.p l.n l.c X
  lay : w.heap[l.L]? = some (.cells (cellsF 7 (sev (.slice l.p l.n l.c) (.map (some l.B)) (arr l.F l.n) v3 v4 (.int .i64 tot) (arr l.U l.n))) 84 (0, 0))
  frm : w.heap[l.F]? = some (.cells (cellsF l.n (forms f)) 3 (0, 0))
  pL : 0 < l.n → ∀ a, l.p = some a → a.block ≠ l.L
  ok : ∀ i, i < l.n → f i < 100

set_option maxRecDepth 100000 in
set_option maxHeartbeats 2000000 in
theorem settle_at {w : World} {l : LL} {X : Nat → It} {f : Nat → Nat} {v3 v4 : Value} {tot : Int} (h : Pre w l X f v3 v4 tot) (b0 : Int) (hb0 : 0 ≤ b0 ∧ b0 ≤ 67108864) :
    Calls Tryd.prog 35 #[.pointer (some ⟨l.L, 0, none⟩), .int .i64 b0] w fun e w' => e = .returned (.tuple #[]) ∧ ∃ A T, w'.heap[l.L]? = some (.cells (cellsF 7 (sev (.slice l.p l.n l.c) (.map (some l.B)) (arr l.F l.n) (arr A (l.n + 1)) (arr T (l.n + 1)) (.int .i64 tot) (arr l.U l.n))) 84 (0, 0)) ∧
      w'.heap[A]? = some (.cells (cellsF (l.n + 1) (ints (ad X b0 f))) 3 (0, 0)) ∧ w'.heap[T]? = some (.cells (cellsF (l.n + 1) (ints (fw fun _ => 0))) 3 (0, 0)) ∧ A ≠ T ∧ w.heap.size ≤ A ∧ w.heap.size ≤ T ∧ Chg (fun k => k = l.L) w w' := by
  have c0 := cellF h.lay 0 (by decide)
  rw [show sev (.slice l.p l.n l.c) (.map (some l.B)) (arr l.F l.n) v3 v4 (.int .i64 tot) (arr l.U l.n) 0 = .slice l.p l.n l.c from rfl] at c0
  have n60 := h.n60
  obtain ⟨i0, hi, hz0, hz1, hz2⟩ := infoI_of
  have hmk := mk_room w (l.n + 1) (by omega)
  rw [show ((l.n + 1 : Nat) : Int) = (l.n : Int) + 1 by omega] at hmk
  have hB1 : Below w.heap.size w (w.alloc (.cells (cellsF (l.n + 1) (ints fun _ => 0)) 3)) := (Below.refl _ _).alloc (Nat.le_refl _) _
  have hown0 := World.ownsRow_made (w := w) (base := w.heap.size) (e := 3) (size := 1) (cellsF (l.n + 1) (ints fun _ => 0)) (l.n + 1) (Nat.le_refl _) (by unfold maxLen; omega) (by rw [cellsF_size]; omega)
  obtain ⟨w1, hw1⟩ : ∃ w1, w1 = w.alloc (.cells (cellsF (l.n + 1) (ints fun _ => 0)) 3) := ⟨_, rfl⟩
  rw [← hw1] at hmk hB1 hown0
  obtain ⟨A, hA⟩ : ∃ A, A = w.heap.size := ⟨_, rfl⟩
  rw [← hA] at hmk hown0
  have hLA : l.L < A := by rw [hA]; exact lt_of_block h.lay
  have hlay1 := (hB1.block _ (lt_of_block h.lay)).trans h.lay
  have c3 : w1.cell? ⟨l.L, 3, none⟩ = some v3 := cellF hlay1 3 (by decide)
  have f3 := freeF hlay1 3
  have c0' : w1.cell? ⟨l.L, 0, none⟩ = some (.slice l.p l.n l.c) := cellF hlay1 0 (by decide)
  have hlay2 : (w1.setCell ⟨l.L, 3, none⟩ (.slice (some ⟨A, 0, none⟩) 0 (l.n + 1))).heap[l.L]? = some (.cells (cellsF 7 (sev (.slice l.p l.n l.c) (.map (some l.B)) (arr l.F l.n) (.slice (some ⟨A, 0, none⟩) 0 (l.n + 1)) v4 (.int .i64 tot) (arr l.U l.n))) 84 (0, 0)) := set_blockF hlay1 (by decide) (sev_3 _ _ _ _ _ _ _ _)
  have hC2 : Chg (fun k => k = l.L) w (w1.setCell ⟨l.L, 3, none⟩ (.slice (some ⟨A, 0, none⟩) 0 (l.n + 1))) := (Chg.of_below hB1).setCell _ _ (Or.inl rfl)
  have hown2 : (w1.setCell ⟨l.L, 3, none⟩ (.slice (some ⟨A, 0, none⟩) 0 (l.n + 1))).ownsRow A 3 1 (.slice (some ⟨A, 0, none⟩) 0 (l.n + 1)) 0 (rowZ (ad X b0 f) 0) := own_keptI hown0 fun k hk _ => Below.heap_setCell _ _ _ _ (by show k ≠ l.L; omega)
  have hAs : A < (w1.setCell ⟨l.L, 3, none⟩ (.slice (some ⟨A, 0, none⟩) 0 (l.n + 1))).heap.size := by have := (hown2.lt A rfl).2; exact this
  have cL0 : (w1.setCell ⟨l.L, 3, none⟩ (.slice (some ⟨A, 0, none⟩) 0 (l.n + 1))).cell? ⟨l.L, 0, none⟩ = some (.slice l.p l.n l.c) := cellF hlay2 0 (by decide)
  have H2 := Lib.hid (And.intro hlay2 (And.intro hC2 hown2))
  have H := Lib.hid (And.intro h (And.intro hLA hA))
  have HB := Lib.hid hb0
  clear h hb0 hB1 hown0 hlay1 hlay2 hC2 hown2 hw1 hA hLA c0'
  go_enter Tryd.func35, Tryd.ntmps35
  go_wp2_with fail
  clear hmk c3 f3
  obtain ⟨w2, hw2⟩ : ∃ w2, w2 = w1.setCell ⟨l.L, 3, none⟩ (.slice (some ⟨A, 0, none⟩) 0 (l.n + 1)) := ⟨_, rfl⟩
  rw [← hw2] at H2 ⊢
  clear hw2 cL0 hAs
  go_loopw [1, 21] (fun s1 s21 wr => ∃ k : Nat, s21 = .int .i64 k ∧ k ≤ l.n ∧ s1 = .int .i64 (ad X b0 f k) ∧ wr.heap[l.L]? = some (.cells (cellsF 7 (sev (.slice l.p l.n l.c) (.map (some l.B)) (arr l.F l.n) (.slice (some ⟨A, 0, none⟩) k (l.n + 1)) v4 (.int .i64 tot) (arr l.U l.n))) 84 (0, 0)) ∧
    wr.ownsRow A 3 1 (.slice (some ⟨A, 0, none⟩) k (l.n + 1)) k (rowZ (ad X b0 f) k) ∧ Chg (fun k => k = l.L) w wr) (fun _ s21 _ => l.n - (intOf s21).toNat)
  case atStart => exact ⟨0, rfl, Nat.zero_le _, rfl, H2.out.1, H2.out.2.2, H2.out.2.1⟩
  case round =>
    obtain ⟨k, rfl, hk, rfl, hL, hown, hC⟩ := hrel
    by_cases hlt : k < l.n
    · have d1 : decide ((k : Int) < (l.n : Int)) = true := by simp; omega
      have ek : (k : Int) < (l.n : Int) := by omega
      have hIt : Items wr l.p l.n l.c X := H.out.1.items.same fun hn a ha => by
        have hne := H.out.1.pL hn a ha
        exact hC.block _ (H.out.1.items.lt (by omega) ha) hne
      obtain ⟨b, off, hp, k0, k1, k2, k3, k4, k5, k6, k7⟩ := hIt.at hlt
      rw [hp]
      have hfk := H.out.1.ok k hlt
      have HX := Lib.hid (And.intro hL (And.intro hown (And.intro hC (And.intro hIt hp))))
      clear hL hown hC hIt hp
      go_upto_region 4 with fail
      have hal := (Below.refl wr.heap.size wr).alloc (Nat.le_refl _) (.cells #[.int .i64 (X k).kind, .int .i64 (X k).op, .int .i64 (X k).d, .int .i64 (X k).a, .int .i64 (X k).b, .int .i64 (X k).imm, .string (X k).lab, .int .u32 (X k).word] 40)
      have hN := heap_new wr (.cells #[.int .i64 (X k).kind, .int .i64 (X k).op, .int .i64 (X k).d, .int .i64 (X k).a, .int .i64 (X k).b, .int .i64 (X k).imm, .string (X k).lab, .int .u32 (X k).word] 40)
      obtain ⟨w3, hw3⟩ : ∃ w3, w3 = wr.alloc (.cells #[.int .i64 (X k).kind, .int .i64 (X k).op, .int .i64 (X k).d, .int .i64 (X k).a, .int .i64 (X k).b, .int .i64 (X k).imm, .string (X k).lab, .int .u32 (X k).word] 40) := ⟨_, rfl⟩
      obtain ⟨N, hN0⟩ : ∃ N, N = wr.heap.size := ⟨_, rfl⟩
      rw [← hw3] at hal hN ⊢
      rw [← hN0] at hN ⊢
      have hL3 := (hal.block _ (lt_of_block HX.out.1)).trans HX.out.1
      have hown3 := own_keptI HX.out.2.1 (w' := w3) (fun q _ hq => hal.block q hq)
      have hC3 := HX.out.2.2.1.trans (Chg.of_below hal : Chg (fun k => k = l.L) wr w3) (fun _ h => Or.inl h)
      have cL3 : w3.cell? ⟨l.L, 3, none⟩ = some (.slice (some ⟨A, 0, none⟩) k (l.n + 1)) := cellF hL3 3 (by decide)
      have hLN : l.L ≠ N := by rw [hN0]; have := lt_of_block HX.out.1; omega
      have hAN : A < N := by rw [hN0]; exact (HX.out.2.1.lt A rfl).2
      have HY := Lib.hid (And.intro hL3 (And.intro hC3 (And.intro hN (And.intro hLN hAN))))
      clear hal hL3 hC3 hN hLN hAN hw3 hN0 k0 k1 k2 k3 k4 k5 k6 k7
      go_wp2_with (first
        | (at_builtin; refine wpList_append_own_spare _ rfl _ _ 71 rfl A 3 i0 1 Tryd.underlying71 hi hz1 A k (l.n + 1) (rowZ (ad X b0 f) k) rfl (hown3.alloc _) ⟨w3.heap.size, 0, none⟩ 1 1 [.int .i64 (ad X b0 f k)] rfl rfl (cell_one_new _ _ _) (one_int _) ?c3 ?_)
        | fail)
      case c3 => omega
      intro w4 hown4 hg4
      obtain ⟨hL3, hC3, hN, hLN, hAN⟩ := HY.out
      have hg4' : Chg (fun q => q = A) w3 w4 := Chg.trans (F := fun q => q = A) (F' := fun q => q = A) (Chg.of_below ((Below.refl w3.heap.size w3).alloc (Nat.le_refl _) _)) (Chg.grown1 hg4) (fun _ h => Or.inl h)
      have hLA : l.L ≠ A := by have := H.out.2.1; omega
      have hL4 := hg4'.same hL3 hLA
      have hN4 := hg4'.same hN (by omega)
      have cL4 : w4.cell? ⟨l.L, 3, none⟩ = some (.slice (some ⟨A, 0, none⟩) k (l.n + 1)) := cellF hL4 3 (by decide)
      have fL4 := freeF hL4 3
      have hL5 : (w4.setCell ⟨l.L, 3, none⟩ (.slice (some ⟨A, 0, none⟩) (k + 1) (l.n + 1))).heap[l.L]? = some (.cells (cellsF 7 (sev (.slice l.p l.n l.c) (.map (some l.B)) (arr l.F l.n) (.slice (some ⟨A, 0, none⟩) (k + 1) (l.n + 1)) v4 (.int .i64 tot) (arr l.U l.n))) 84 (0, 0)) := set_blockF hL4 (by decide) (sev_3 _ _ _ _ _ _ _ _)
      have hC5 : Chg (fun q => q = l.L) w4 (w4.setCell ⟨l.L, 3, none⟩ (.slice (some ⟨A, 0, none⟩) (k + 1) (l.n + 1))) := (Chg.refl _ _).setCell _ _ (Or.inl rfl)
      obtain ⟨w5, hw5⟩ : ∃ w5, w5 = w4.setCell ⟨l.L, 3, none⟩ (.slice (some ⟨A, 0, none⟩) (k + 1) (l.n + 1)) := ⟨_, rfl⟩
      rw [← hw5] at hL5 hC5
      have HW := Lib.hid (And.intro hL5 (And.intro hC5 (And.intro hN4 (And.intro hg4' hown4))))
      have HW5 := Lib.hid hw5
      clear hL5 hC5 hN4 hg4' hown4 hg4 hL4 hL3 hC3 hN hown3 cL3 hw5 hLN hAN hLA
      go_upto_region 5 with fail
      rw [← HW5.out]
      clear cL4 fL4
      have hCw : Chg (fun q => q = l.L) w w5 := by
        have h1 : Chg (fun q => q = l.L) w w4 := HY.out.2.1.trans HW.out.2.2.2.1 (fun q hq => Or.inr (by subst hq; have := H.out.2.2; omega))
        exact h1.trans HW.out.2.1 (fun _ h => Or.inl h)
      have hF5 := hCw.same H.out.1.frm (ne_kind H.out.1.frm H.out.1.lay (by decide))
      have hN5 := HW.out.2.1.same HW.out.2.2.1 HY.out.2.2.2.1.symm
      have hld : ∀ w', Below w5.heap.size w5 w' → w'.cell? ⟨l.L, 2, none⟩ = some (.slice (some ⟨l.F, 0, none⟩) l.n l.n) ∧ w'.cell? ⟨l.F, k, none⟩ = some (.int .i64 (f k)) ∧ w'.cell? ⟨N, 0, none⟩ = some (.int .i64 (X k).kind) ∧ w'.cell? ⟨N, 1, none⟩ = some (.int .i64 (X k).op) ∧ w'.cell? ⟨N, 2, none⟩ = some (.int .i64 (X k).d) ∧ w'.cell? ⟨N, 3, none⟩ = some (.int .i64 (X k).a) ∧ w'.cell? ⟨N, 4, none⟩ = some (.int .i64 (X k).b) ∧ w'.cell? ⟨N, 5, none⟩ = some (.int .i64 (X k).imm) ∧ w'.cell? ⟨N, 6, none⟩ = some (.string (X k).lab) ∧ w'.cell? ⟨N, 7, none⟩ = some (.int .u32 (X k).word) := by
        intro w' hb
        have g1 := (hb.block _ (lt_of_block HW.out.1)).trans HW.out.1
        have g2 := (hb.block _ (lt_of_block hF5)).trans hF5
        have g3 := (hb.block _ (lt_of_block hN5)).trans hN5
        exact ⟨cellF g1 2 (by decide), cellF g2 k hlt, cells8 g3⟩
      have hs := hld w5.drew (Below.refl _ _).drew
      obtain ⟨s2, sf, q0, q1, q2, q3, q4, q5, q6, q7⟩ := hs
      have HLD := Lib.hid hld
      have HCW := Lib.hid hCw
      clear hld hCw hF5 hN5
      go_region_held (fun w' => w'.cell? ⟨l.L, 2, none⟩ = some (.slice (some ⟨l.F, 0, none⟩) l.n l.n) ∧ w'.cell? ⟨l.F, k, none⟩ = some (.int .i64 (f k)) ∧ w'.cell? ⟨N, 0, none⟩ = some (.int .i64 (X k).kind) ∧ w'.cell? ⟨N, 1, none⟩ = some (.int .i64 (X k).op) ∧ w'.cell? ⟨N, 2, none⟩ = some (.int .i64 (X k).d) ∧ w'.cell? ⟨N, 3, none⟩ = some (.int .i64 (X k).a) ∧ w'.cell? ⟨N, 4, none⟩ = some (.int .i64 (X k).b) ∧ w'.cell? ⟨N, 5, none⟩ = some (.int .i64 (X k).imm) ∧ w'.cell? ⟨N, 6, none⟩ = some (.string (X k).lab) ∧ w'.cell? ⟨N, 7, none⟩ = some (.int .u32 (X k).word)) (go_keep)
        (first | (go_at_call 48; refine (size_any (X k) (f k) _ hfk (H.out.1.items.word k hlt)).mono ?_; rintro e w9 ⟨rfl, hb9⟩; have hs9 := HLD.out w9 (Below.trans (Below.refl _ _).drew hb9); obtain ⟨zs2, zsf, zq0, zq1, zq2, zq3, zq4, zq5, zq6, zq7⟩ := hs9))
      all_goals
        clear s2 sf q0 q1 q2 q3 q4 q5 q6 q7 zs2 zsf zq0 zq1 zq2 zq3 zq4 zq5 zq6 zq7
      go_wp2_with fail
      go_roundw
      case rel =>
        have hb5 : Below w5.heap.size w5 w9 := (Below.refl _ _).drew.trans hb9
        have hL9 := (hb5.block _ (lt_of_block HW.out.1)).trans HW.out.1
        rw [HX.out.2.2.2.2] at hL9
        have hown5 := own_keptI HW.out.2.2.2.2 (w' := w5) (fun q hq hqs => HW.out.2.1.block q hqs (by have := H.out.2.1; omega))
        have hown9 := own_keptI hown5 (w' := w9) (fun q _ hqs => hb5.block q hqs)
        have had := ad_bounds (X := X) (b0 := b0) (f := f) H.out.1.items.word (show k + 1 ≤ l.n by omega)
        have hbb := HB.out
        have e : ad X b0 f (k + 1) = ad X b0 f k + isz (X k) (f k) := rfl
        refine ⟨k + 1, by go_num, hlt, ?_, hL9, ?_, HCW.out.trans (Chg.of_below hb5 : Chg (fun q => q = l.L) w5 w9) (fun _ h => Or.inl h)⟩
        · rw [e] at had ⊢
          rw [IntKind.wrap_i64]
          congr 1
          omega
        · rw [rowZ_succ]
          exact hown9
      case measure => simp [intOf]; omega
    · have hz : k = l.n := by omega
      subst hz
      have d1 : decide ((l.n : Int) < (l.n : Int)) = false := by simp
      have cL3 : wr.cell? ⟨l.L, 3, none⟩ = some (.slice (some ⟨A, 0, none⟩) l.n (l.n + 1)) := cellF hL 3 (by decide)
      have HX := Lib.hid (And.intro hL hC)
      clear hL hC
      go_wp2_with (first
        | (at_builtin; refine wpList_append_own_spare _ rfl _ _ 71 rfl A 3 i0 1 Tryd.underlying71 hi hz1 A l.n (l.n + 1) (rowZ (ad X b0 f) l.n) rfl (hown.alloc _) ⟨wr.heap.size, 0, none⟩ 1 1 [.int .i64 (ad X b0 f l.n)] rfl rfl (cell_one_new _ _ _) (one_int _) ?c3 ?_)
        | fail)
      case c3 => omega
      intro w4 hown4 hg4
      have hg4' : Chg (fun q => q = A) wr w4 := Chg.trans (F := fun q => q = A) (F' := fun q => q = A) (Chg.of_below ((Below.refl wr.heap.size wr).alloc (Nat.le_refl _) _)) (Chg.grown1 hg4) (fun _ h => Or.inl h)
      have hLA : l.L ≠ A := by have := H.out.2.1; omega
      have hL4 := hg4'.same HX.out.1 hLA
      have cL4 : w4.cell? ⟨l.L, 3, none⟩ = some (.slice (some ⟨A, 0, none⟩) l.n (l.n + 1)) := cellF hL4 3 (by decide)
      have fL4 := freeF hL4 3
      have hL5 : (w4.setCell ⟨l.L, 3, none⟩ (.slice (some ⟨A, 0, none⟩) (l.n + 1) (l.n + 1))).heap[l.L]? = some (.cells (cellsF 7 (sev (.slice l.p l.n l.c) (.map (some l.B)) (arr l.F l.n) (.slice (some ⟨A, 0, none⟩) (l.n + 1) (l.n + 1)) v4 (.int .i64 tot) (arr l.U l.n))) 84 (0, 0)) := set_blockF hL4 (by decide) (sev_3 _ _ _ _ _ _ _ _)
      have hC5 : Chg (fun q => q = l.L) w4 (w4.setCell ⟨l.L, 3, none⟩ (.slice (some ⟨A, 0, none⟩) (l.n + 1) (l.n + 1))) := (Chg.refl _ _).setCell _ _ (Or.inl rfl)
      obtain ⟨w5, hw5⟩ : ∃ w5, w5 = w4.setCell ⟨l.L, 3, none⟩ (.slice (some ⟨A, 0, none⟩) (l.n + 1) (l.n + 1)) := ⟨_, rfl⟩
      rw [← hw5] at hL5 hC5
      have hown5 := own_keptI hown4 (w' := w5) (fun q hq hqs => hC5.block q hqs (by have := H.out.2.1; omega))
      rw [← rowZ_succ] at hown5
      have hA5 := own_full hown5
      have hmk := mk_zero 82 Tryd.underlying82 w5 (l.n + 1) (by omega)
      rw [show ((l.n + 1 : Nat) : Int) = (l.n : Int) + 1 by omega] at hmk
      have hb6 := (Below.refl w5.heap.size w5).alloc (Nat.le_refl _) (.cells (cellsF (l.n + 1) (ints fun _ => 0)) 3)
      have hT6 := heap_new w5 (.cells (cellsF (l.n + 1) (ints fun _ => 0)) 3)
      have cL5 : w5.cell? ⟨l.L, 0, none⟩ = some (.slice l.p l.n l.c) := cellF hL5 0 (by decide)
      have hw5' := Lib.hid hw5
      obtain ⟨w6, hw6⟩ : ∃ w6, w6 = w5.alloc (.cells (cellsF (l.n + 1) (ints fun _ => 0)) 3) := ⟨_, rfl⟩
      obtain ⟨T, hT⟩ : ∃ T, T = w5.heap.size := ⟨_, rfl⟩
      rw [← hw6, ← hT] at hmk hT6
      rw [← hw6] at hb6
      have hL6 := (hb6.block _ (lt_of_block hL5)).trans hL5
      have c64 : w6.cell? ⟨l.L, 4, none⟩ = some v4 := cellF hL6 4 (by decide)
      have f64 := freeF hL6 4
      have hA6 := (hb6.block _ (lt_of_block hA5)).trans hA5
      have hAT : A ≠ T := by rw [hT]; have := lt_of_block hA5; omega
      have hLT : l.L ≠ T := by rw [hT]; have := lt_of_block hL5; omega
      have hCw : Chg (fun q => q = l.L) w w6 := by
        have h1 : Chg (fun q => q = l.L) w w4 := HX.out.2.trans hg4' (fun q hq => Or.inr (by subst hq; have := H.out.2.2; omega))
        exact (h1.trans hC5 (fun _ h => Or.inl h)).trans (Chg.of_below hb6 : Chg (fun q => q = l.L) w5 w6) (fun _ h => Or.inl h)
      have hws : w.heap.size ≤ T := by rw [hT]; have h1 := HX.out.2.size; have h2 := hg4'.size; have h3 := hC5.size; omega
      have HW := Lib.hid (And.intro hL6 (And.intro hA6 (And.intro hT6 (And.intro hCw (And.intro hAT (And.intro hLT hws))))))
      clear hL6 hA6 hT6 hCw hAT hLT hws hown hown4 hown5 hA5 hb6 hg4 hg4' hL4 hLA hC5 hL5 hT hw6 hw5
      go_upto_region 8 with fail
      rw [← hw5'.out]
      clear cL4 fL4 cL3
      go_wp2_with fail
      go_returns
      obtain ⟨hL6, hA6, hT6, hCw, hAT, hLT, hws⟩ := HW.out
      have hC7 : Chg (fun q => q = l.L) w6 (w6.setCell ⟨l.L, 4, none⟩ (.slice (some ⟨T, 0, none⟩) (l.n + 1) (l.n + 1))) := (Chg.refl _ _).setCell _ _ (Or.inl rfl)
      refine ⟨rfl, A, T, set_blockF hL6 (by decide) (sev_4 _ _ _ _ _ _ _ _), hC7.same hA6 (by have := H.out.2.1; omega), ?_, hAT, Nat.le_of_eq H.out.2.2.symm, hws, hCw.trans hC7 (fun _ h => Or.inl h)⟩
      have hT7 := hC7.same hT6 hLT.symm
      rw [hT7, cellsF_congr (sz_zero (l.n + 1))]
end Go.Proofs.YtbplmbignalbgaaDoor
