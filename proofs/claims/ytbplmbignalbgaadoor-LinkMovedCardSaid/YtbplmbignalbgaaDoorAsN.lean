/- Contracts: a new layout. Conditions: the items and the labels lie as told. -/
import Derived.Test.YtbplmbignalbgaaDoorAsM
namespace Go.Proofs.YtbplmbignalbgaaDoor
open Go.RowKit Asm
set_option linter.unusedVariables false
set_option linter.unusedSimpArgs false

theorem MapAt.below {w w' : World} {B : Nat} {X : Nat → It} {k : Nat} (h : MapAt w B X k) (hb : Below w.heap.size w w') : MapAt w' B X k := h.kept (hb.block _ h.lt)

theorem sev_arr (v0 v1 v2 v3 v4 v5 v6 : Value) : #[v0, v1, v2, v3, v4, v5, v6] = cellsF 7 (sev v0 v1 v2 v3 v4 v5 v6) := by
  unfold cellsF
  rfl
def g0 (X : Nat → It) (k i : Nat) : Nat := if i < k then first (X i) else 0
theorem g0_zero (X : Nat → It) (n : Nat) : cellsF n (ints fun _ => 0) = cellsF n (forms (g0 X 0)) := by
  apply cellsF_congr
  intro i _
  unfold ints forms g0
  rw [if_neg (Nat.not_lt_zero _)]
  rfl
theorem g0_step {X : Nat → It} {k : Nat} (h : turns (X k) = true) (j : Nat) : updF (forms (g0 X k)) k (.int .i64 1) j = forms (g0 X (k + 1)) j := by
  unfold updF forms g0
  by_cases hj : j = k
  · subst hj
    rw [if_pos rfl, if_pos (by omega)]
    unfold first
    rw [if_pos h]
    rfl
  · rw [if_neg hj]
    by_cases hl : j < k
    · rw [if_pos hl, if_pos (by omega)]
    · rw [if_neg hl, if_neg (by omega)]
theorem g0_other {X : Nat → It} {k : Nat} (h : turns (X k) = false) (n : Nat) : cellsF n (forms (g0 X k)) = cellsF n (forms (g0 X (k + 1))) := by
  apply cellsF_congr
  intro j _
  unfold forms g0
  by_cases hj : j = k
  · subst hj
    rw [if_neg (by omega), if_pos (by omega)]
    unfold first
    rw [h]
    rfl
  · by_cases hl : j < k
    · rw [if_pos hl, if_pos (by omega)]
    · rw [if_neg hl, if_neg (by omega)]
theorem g0_end (X : Nat → It) (n : Nat) : cellsF n (forms (g0 X n)) = cellsF n (forms fun i => first (X i)) := by
  apply cellsF_congr
  intro j hj
  unfold forms g0
  rw [if_pos hj]
theorem first_le (x : It) : first x < 100 := by unfold first; split <;> decide
/-- A layout as it is made: no addresses yet. -/
structure Raw (w w1 : World) (p : Option Addr) (n c B F U L : Nat) : Prop where
  below : Below w.heap.size w w1
  lay : w1.heap[L]? = some (.cells (cellsF 7 (sev (.slice p n c) (.map (some B)) (arr F n) (.slice none 0 0) (.slice none 0 0) (.int .i64 0) (arr U n))) 84 (0, 0))
  frm : w1.heap[F]? = some (.cells (cellsF n (ints fun _ => 0)) 3 (0, 0))
  dus : w1.heap[U]? = some (.cells (cellsF n (ints fun _ => 0)) 3 (0, 0))
  ne : F ≠ U
  le : w.heap.size ≤ F ∧ w.heap.size ≤ U ∧ w.heap.size ≤ L
theorem raw_of (w : World) (p : Option Addr) (n c B F U : Nat) (h : (F = w.heap.size ∧ U = w.heap.size + 1) ∨ (U = w.heap.size ∧ F = w.heap.size + 1)) :
    Raw w (((w.alloc (.cells (cellsF n (ints fun _ => 0)) 3)).alloc (.cells (cellsF n (ints fun _ => 0)) 3)).alloc (.cells #[.slice p n c, .map (some B), .slice (some ⟨F, 0, none⟩) n n, .slice none 0 0, .slice none 0 0, .int .i64 0, .slice (some ⟨U, 0, none⟩) n n] 84)).drew p n c B F U (w.heap.size + 1 + 1) := by
  obtain ⟨O, hO⟩ : ∃ O, O = Obj.cells (cellsF n (ints fun _ => 0)) 3 := ⟨_, rfl⟩
  rw [← hO]
  have b1 := (Below.refl w.heap.size w).alloc (Nat.le_refl _) O
  have n1 := heap_new w O
  obtain ⟨w1, hw1⟩ : ∃ w1, w1 = w.alloc O := ⟨_, rfl⟩
  have s1 : w1.heap.size = w.heap.size + 1 := by rw [hw1]; simp
  rw [← hw1] at b1 n1 ⊢
  have b2 := (Below.refl w1.heap.size w1).alloc (Nat.le_refl _) O
  have n2 := heap_new w1 O
  obtain ⟨w2, hw2⟩ : ∃ w2, w2 = w1.alloc O := ⟨_, rfl⟩
  have s2 : w2.heap.size = w.heap.size + 1 + 1 := by rw [hw2]; simp [s1]
  rw [← hw2] at b2 n2 ⊢
  rw [s1] at b2 n2
  obtain ⟨Q, hQ⟩ : ∃ Q, Q = Obj.cells #[.slice p n c, .map (some B), .slice (some ⟨F, 0, none⟩) n n, .slice none 0 0, .slice none 0 0, .int .i64 0, .slice (some ⟨U, 0, none⟩) n n] 84 := ⟨_, rfl⟩
  rw [← hQ]
  have b3 := (Below.refl w2.heap.size w2).alloc (Nat.le_refl _) Q
  have n3 := heap_new w2 Q
  rw [s2] at b3 n3
  have m1 := (b2.block w.heap.size (by omega)).trans n1
  have m1' := (b3.block w.heap.size (by omega)).trans m1
  have m2' := (b3.block (w.heap.size + 1) (by omega)).trans n2
  have n3 := n3.trans (congrArg some (show Q = Obj.cells (cellsF 7 (sev (.slice p n c) (.map (some B)) (arr F n) (.slice none 0 0) (.slice none 0 0) (.int .i64 0) (arr U n))) 84 by rw [hQ, sev_arr]; rfl))
  have m1' := m1'.trans (congrArg some hO)
  have m2' := m2'.trans (congrArg some hO)
  refine ⟨((b1.trans (b2.mono (by omega))).trans (b3.mono (by omega))).drew, n3, ?_, ?_, ?_, ?_⟩
  · rcases h with ⟨rfl, rfl⟩ | ⟨rfl, rfl⟩
    · exact m1'
    · exact m2'
  · rcases h with ⟨rfl, rfl⟩ | ⟨rfl, rfl⟩
    · exact m2'
    · exact m1'
  · omega
  · omega

set_option maxRecDepth 100000 in
set_option maxHeartbeats 2000000 in
theorem newLayout_at {w : World} {p : Option Addr} {n c B : Nat} {X : Nat → It} (h : Items w p n c X) (hm : MapAt w B X n) (hn : n ≤ 480) (b0 : Int) (hb0 : 0 ≤ b0 ∧ b0 ≤ 67108864) (bs : Nat) (hbs : bs ≤ B) (hpb : 0 < n → ∀ a, p = some a → a.block < bs) :
    Calls Tryd.prog 33 #[.slice p n c, .map (some B), .int .i64 b0] w fun e w' => ∃ l s, e = .returned (.pointer (some ⟨l.L, 0, none⟩)) ∧ LRep bs w' l X b0 s ∧ l.p = p ∧ l.n = n ∧ l.c = c ∧ Under X n b0 s.f ∧ Below w.heap.size w w' := by
  have hmk := fun (w : World) => mk_zero 71 Tryd.underlying71 w n (by omega)
  have H := Lib.hid (And.intro h (And.intro hm (And.intro hb0 (And.intro hbs hpb))))
  clear h hm hb0 hbs hpb
  go_enter Tryd.func33, Tryd.ntmps33
  go_wp2_with fail
  go_region
  all_goals
    clear hmk
  · have hraw := raw_of w p n c B w.heap.size (w.heap.size + 1) (Or.inl ⟨rfl, rfl⟩)
    obtain ⟨F, hF⟩ : ∃ F, F = w.heap.size := ⟨_, rfl⟩
    obtain ⟨U, hU⟩ : ∃ U, U = (w.heap.size + 1) := ⟨_, rfl⟩
    obtain ⟨L, hL⟩ : ∃ L, L = w.heap.size + 1 + 1 := ⟨_, rfl⟩
    rw [← hL, ← hU, ← hF] at hraw ⊢
    obtain ⟨w1, hw1⟩ : ∃ w1, w1 = (((w.alloc (.cells (cellsF n (ints fun _ => 0)) 3)).alloc (.cells (cellsF n (ints fun _ => 0)) 3)).alloc (.cells #[.slice p n c, .map (some B), .slice (some ⟨F, 0, none⟩) n n, .slice none 0 0, .slice none 0 0, .int .i64 0, .slice (some ⟨U, 0, none⟩) n n] 84)).drew := ⟨_, rfl⟩
    rw [← hw1] at hraw ⊢
    clear hw1 hF hU hL
    have HR := Lib.hid hraw
    clear hraw
    go_wp2_with fail
    go_loopw [22] (fun s22 wr => ∃ k : Nat, s22 = .int .i64 k ∧ k ≤ n ∧ wr.heap[F]? = some (.cells (cellsF n (forms (g0 X k))) 3 (0, 0)) ∧ Chg (fun q => q = F) w1 wr) (fun s22 _ => n - (intOf s22).toNat)
    case atStart => exact ⟨0, rfl, Nat.zero_le _, by rw [← g0_zero]; exact HR.out.frm, Chg.refl _ _⟩
    case round =>
      obtain ⟨k, rfl, hk, hF, hC⟩ := hrel
      have hLF : L ≠ F := ne_kind HR.out.lay HR.out.frm (by decide)
      have hLr := hC.same HR.out.lay hLF
      by_cases hlt : k < n
      · have d1 : decide ((k : Int) < (n : Int)) = true := by simp; omega
        have ek : (k : Int) < (n : Int) := by omega
        have hIt : Items wr p n c X := (H.out.1.below HR.out.below).same fun hn0 a ha => by
          have h1 := H.out.1.lt hn0 ha
          have h2 := HR.out.below.size
          have h3 := HR.out.le.1
          exact hC.block _ (by omega) (by omega)
        obtain ⟨b, off, hp, k0, k1, k2, k3, k4, k5, k6, k7⟩ := hIt.at hlt
        rw [hp]
        have HX := Lib.hid (And.intro hF (And.intro hC (And.intro hLr hp)))
        clear hF hC hLr hIt hp
        go_wp2_with fail
        refine (isTurn_any _ _).mono ?_
        rintro e w2 ⟨rfl, hw2⟩
        rw [← hw2]
        have hal := (Below.refl wr.heap.size wr).alloc (Nat.le_refl _) (.cells #[.int .i64 (X k).kind, .int .i64 (X k).op, .int .i64 (X k).d, .int .i64 (X k).a, .int .i64 (X k).b, .int .i64 (X k).imm, .string (X k).lab, .int .u32 (X k).word] 40)
        rw [hw2] at hal
        rw [hw2]
        have hF2 := (hal.block _ (lt_of_block HX.out.1)).trans HX.out.1
        have hL2 := (hal.block _ (lt_of_block HX.out.2.2.1)).trans HX.out.2.2.1
        have hC2 := HX.out.2.1.trans (Chg.of_below hal : Chg (fun q => q = F) wr w2) (fun _ h => Or.inl h)
        have cL := cellF hL2 2 (by decide)
        rw [show sev (.slice p n c) (.map (some B)) (arr F n) (.slice none 0 0) (.slice none 0 0) (.int .i64 0) (arr U n) 2 = .slice (some ⟨F, 0, none⟩) n n from rfl] at cL
        have cF := cellF hF2 k hlt
        have fF := freeF hF2 k
        rw [show forms (g0 X k) k = .int .i64 (g0 X k k) from rfl] at cF
        have H2 := Lib.hid (And.intro hF2 hC2)
        clear hal hF2 hL2 hC2 hw2 k0 k1 k2 k3 k4 k5 k6 k7
        by_cases ht : (X k).kind = 3 ∨ (X k).kind = 4
        · have d2 : decide ((X k).kind = 3 ∨ (X k).kind = 4) = true := by simp [ht]
          have HT := Lib.hid (show turns (X k) = true by unfold turns; exact d2)
          clear ht
          go_wp2_with fail
          go_roundw
          case rel => exact ⟨k + 1, by go_num, hlt, set_blockF H2.out.1 hlt fun j _ => g0_step HT.out j, H2.out.2.setCell _ _ (Or.inl rfl)⟩
          case measure => simp [intOf]; omega
        · have d2 : decide ((X k).kind = 3 ∨ (X k).kind = 4) = false := by simpa using ht
          have HT := Lib.hid (show turns (X k) = false by unfold turns; exact d2)
          clear ht
          go_wp2_with fail
          go_roundw
          case rel => exact ⟨k + 1, by go_num, hlt, by rw [← g0_other HT.out]; exact H2.out.1, H2.out.2⟩
          case measure => simp [intOf]; omega
      · have hz : k = n := by omega
        subst hz
        have d1 : decide ((k : Int) < (k : Int)) = false := by simp
        rw [g0_end] at hF
        have hIt : Items wr p k c X := (H.out.1.below HR.out.below).same fun hn0 a ha => by
          have h1 := H.out.1.lt hn0 ha
          have h2 := HR.out.below.size
          have h3 := HR.out.le.1
          exact hC.block _ (by omega) (by omega)
        have hM : MapAt wr B X k := H.out.2.1.kept (by
          have h1 := H.out.2.1.lt
          have h2 := HR.out.below.size
          have h3 := HR.out.le.1
          exact (hC.block _ (by omega) (by omega)).trans (HR.out.below.block _ h1))
        have hpre : Pre wr ⟨L, F, 0, 0, U, B, p, k, c⟩ X (fun i => first (X i)) (.slice none 0 0) (.slice none 0 0) 0 := ⟨hn, hIt, hLr, hF, fun hn0 a ha => by
          have h1 := H.out.1.lt hn0 ha
          have h3 := HR.out.le.2.2
          show a.block ≠ L
          omega, fun i _ => first_le _⟩
        have hst := settle_at hpre b0 H.out.2.2.1
        have hU := hC.same HR.out.dus HR.out.ne.symm
        have HX := Lib.hid (And.intro hF (And.intro hC (And.intro hIt (And.intro hM hU))))
        clear hF hC hLr hIt hM hpre hU
        go_wp2_with fail
        refine hst.mono ?_
        rintro e w2 ⟨rfl, A, T, hL2, hA2, hT2, hAT, hwA, hwT, hC2⟩
        have H2 := Lib.hid (And.intro hL2 (And.intro hA2 (And.intro hT2 (And.intro hAT (And.intro hwA (And.intro hwT hC2))))))
        clear hL2 hA2 hT2 hAT hwA hwT hC2 hst
        go_wp2_with fail
        go_ret
        obtain ⟨hF, hC, hIt, hM, hU⟩ := HX.out
        obtain ⟨hL2, hA2, hT2, hAT, hwA, hwT, hC2⟩ := H2.out
        have hF2 := hC2.same hF hLF.symm
        have hU2 := hC2.same hU (ne_kind HR.out.dus HR.out.lay (by decide))
        have hsz := hC.size
        have hsz2 := HR.out.below.size
        have hle := HR.out.le
        have hB := H.out.2.1.lt
        have hbs := H.out.2.2.2.1
        have lF := lt_of_block hF
        have lU := lt_of_block hU
        have hM2 : MapAt w2 B X k := hM.kept (hC2.block _ hM.lt (by show B ≠ L; omega))
        have hI2 : Items w2 p k c X := hIt.same fun hn0 a ha => hC2.block _ (hIt.lt hn0 ha) (by
          have h1 := H.out.1.lt hn0 ha
          show a.block ≠ L
          omega)
        refine ⟨⟨L, F, A, T, U, B, p, k, c⟩, ⟨fun i => first (X i), ad X b0 fun i => first (X i), fun _ => 0, 0, fun _ => 0⟩, rfl, ?_, rfl, rfl, rfl, Under.start, ?_⟩
        · refine ⟨hn, H.out.2.2.1, hI2, hL2, hM2, hF2, hA2, hT2, hU2, ⟨?_, ?_, HR.out.ne, hAT, ?_, ?_⟩, ⟨?_, ?_, ?_, ?_, ?_, hbs⟩, H.out.2.2.2.2, (Under.start (base := b0)).1, fun _ => ⟨Int.le_refl _, show (0 : Int) ≤ 3 by decide⟩, fun i _ => Or.inl rfl, ?_, fun i _ => ?_, fun i _ => ⟨Int.le_refl _, show (0 : Int) ≤ 2000000 by decide⟩, fun i _ h0 => absurd h0 (show ¬ ((0 : Int) < 0) by decide)⟩
          · show F ≠ A; omega
          · show F ≠ T; omega
          · show A ≠ U; omega
          · show T ≠ U; omega
          · show bs ≤ L; omega
          · show bs ≤ F; omega
          · show bs ≤ A; omega
          · show bs ≤ T; omega
          · show bs ≤ U; omega
          · show (0 : Int) = psum (fun _ => 0) k
            rw [psum_zero]
          · show ad X b0 (fun i => first (X i)) i + psum (fun _ => 0) i = ad X b0 (fun i => first (X i)) i
            rw [psum_zero]
            omega
        · have t1 : Below w.heap.size w wr := (Chg.trans (F := fun q => q = F) (F' := fun q => q = F) (Chg.of_below HR.out.below) hC (fun _ h => Or.inl h)).below (Nat.le_refl _) (fun i e => by omega)
          exact t1.trans (hC2.below (by omega) (fun i e => by omega))
  · have hraw := raw_of w p n c B (w.heap.size + 1) w.heap.size (Or.inr ⟨rfl, rfl⟩)
    obtain ⟨F, hF⟩ : ∃ F, F = (w.heap.size + 1) := ⟨_, rfl⟩
    obtain ⟨U, hU⟩ : ∃ U, U = w.heap.size := ⟨_, rfl⟩
    obtain ⟨L, hL⟩ : ∃ L, L = w.heap.size + 1 + 1 := ⟨_, rfl⟩
    rw [← hL, ← hF, ← hU] at hraw ⊢
    obtain ⟨w1, hw1⟩ : ∃ w1, w1 = (((w.alloc (.cells (cellsF n (ints fun _ => 0)) 3)).alloc (.cells (cellsF n (ints fun _ => 0)) 3)).alloc (.cells #[.slice p n c, .map (some B), .slice (some ⟨F, 0, none⟩) n n, .slice none 0 0, .slice none 0 0, .int .i64 0, .slice (some ⟨U, 0, none⟩) n n] 84)).drew := ⟨_, rfl⟩
    rw [← hw1] at hraw ⊢
    clear hw1 hF hU hL
    have HR := Lib.hid hraw
    clear hraw
    go_wp2_with fail
    go_loopw [22] (fun s22 wr => ∃ k : Nat, s22 = .int .i64 k ∧ k ≤ n ∧ wr.heap[F]? = some (.cells (cellsF n (forms (g0 X k))) 3 (0, 0)) ∧ Chg (fun q => q = F) w1 wr) (fun s22 _ => n - (intOf s22).toNat)
    case atStart => exact ⟨0, rfl, Nat.zero_le _, by rw [← g0_zero]; exact HR.out.frm, Chg.refl _ _⟩
    case round =>
      obtain ⟨k, rfl, hk, hF, hC⟩ := hrel
      have hLF : L ≠ F := ne_kind HR.out.lay HR.out.frm (by decide)
      have hLr := hC.same HR.out.lay hLF
      by_cases hlt : k < n
      · have d1 : decide ((k : Int) < (n : Int)) = true := by simp; omega
        have ek : (k : Int) < (n : Int) := by omega
        have hIt : Items wr p n c X := (H.out.1.below HR.out.below).same fun hn0 a ha => by
          have h1 := H.out.1.lt hn0 ha
          have h2 := HR.out.below.size
          have h3 := HR.out.le.1
          exact hC.block _ (by omega) (by omega)
        obtain ⟨b, off, hp, k0, k1, k2, k3, k4, k5, k6, k7⟩ := hIt.at hlt
        rw [hp]
        have HX := Lib.hid (And.intro hF (And.intro hC (And.intro hLr hp)))
        clear hF hC hLr hIt hp
        go_wp2_with fail
        refine (isTurn_any _ _).mono ?_
        rintro e w2 ⟨rfl, hw2⟩
        rw [← hw2]
        have hal := (Below.refl wr.heap.size wr).alloc (Nat.le_refl _) (.cells #[.int .i64 (X k).kind, .int .i64 (X k).op, .int .i64 (X k).d, .int .i64 (X k).a, .int .i64 (X k).b, .int .i64 (X k).imm, .string (X k).lab, .int .u32 (X k).word] 40)
        rw [hw2] at hal
        rw [hw2]
        have hF2 := (hal.block _ (lt_of_block HX.out.1)).trans HX.out.1
        have hL2 := (hal.block _ (lt_of_block HX.out.2.2.1)).trans HX.out.2.2.1
        have hC2 := HX.out.2.1.trans (Chg.of_below hal : Chg (fun q => q = F) wr w2) (fun _ h => Or.inl h)
        have cL := cellF hL2 2 (by decide)
        rw [show sev (.slice p n c) (.map (some B)) (arr F n) (.slice none 0 0) (.slice none 0 0) (.int .i64 0) (arr U n) 2 = .slice (some ⟨F, 0, none⟩) n n from rfl] at cL
        have cF := cellF hF2 k hlt
        have fF := freeF hF2 k
        rw [show forms (g0 X k) k = .int .i64 (g0 X k k) from rfl] at cF
        have H2 := Lib.hid (And.intro hF2 hC2)
        clear hal hF2 hL2 hC2 hw2 k0 k1 k2 k3 k4 k5 k6 k7
        by_cases ht : (X k).kind = 3 ∨ (X k).kind = 4
        · have d2 : decide ((X k).kind = 3 ∨ (X k).kind = 4) = true := by simp [ht]
          have HT := Lib.hid (show turns (X k) = true by unfold turns; exact d2)
          clear ht
          go_wp2_with fail
          go_roundw
          case rel => exact ⟨k + 1, by go_num, hlt, set_blockF H2.out.1 hlt fun j _ => g0_step HT.out j, H2.out.2.setCell _ _ (Or.inl rfl)⟩
          case measure => simp [intOf]; omega
        · have d2 : decide ((X k).kind = 3 ∨ (X k).kind = 4) = false := by simpa using ht
          have HT := Lib.hid (show turns (X k) = false by unfold turns; exact d2)
          clear ht
          go_wp2_with fail
          go_roundw
          case rel => exact ⟨k + 1, by go_num, hlt, by rw [← g0_other HT.out]; exact H2.out.1, H2.out.2⟩
          case measure => simp [intOf]; omega
      · have hz : k = n := by omega
        subst hz
        have d1 : decide ((k : Int) < (k : Int)) = false := by simp
        rw [g0_end] at hF
        have hIt : Items wr p k c X := (H.out.1.below HR.out.below).same fun hn0 a ha => by
          have h1 := H.out.1.lt hn0 ha
          have h2 := HR.out.below.size
          have h3 := HR.out.le.1
          exact hC.block _ (by omega) (by omega)
        have hM : MapAt wr B X k := H.out.2.1.kept (by
          have h1 := H.out.2.1.lt
          have h2 := HR.out.below.size
          have h3 := HR.out.le.1
          exact (hC.block _ (by omega) (by omega)).trans (HR.out.below.block _ h1))
        have hpre : Pre wr ⟨L, F, 0, 0, U, B, p, k, c⟩ X (fun i => first (X i)) (.slice none 0 0) (.slice none 0 0) 0 := ⟨hn, hIt, hLr, hF, fun hn0 a ha => by
          have h1 := H.out.1.lt hn0 ha
          have h3 := HR.out.le.2.2
          show a.block ≠ L
          omega, fun i _ => first_le _⟩
        have hst := settle_at hpre b0 H.out.2.2.1
        have hU := hC.same HR.out.dus HR.out.ne.symm
        have HX := Lib.hid (And.intro hF (And.intro hC (And.intro hIt (And.intro hM hU))))
        clear hF hC hLr hIt hM hpre hU
        go_wp2_with fail
        refine hst.mono ?_
        rintro e w2 ⟨rfl, A, T, hL2, hA2, hT2, hAT, hwA, hwT, hC2⟩
        have H2 := Lib.hid (And.intro hL2 (And.intro hA2 (And.intro hT2 (And.intro hAT (And.intro hwA (And.intro hwT hC2))))))
        clear hL2 hA2 hT2 hAT hwA hwT hC2 hst
        go_wp2_with fail
        go_ret
        obtain ⟨hF, hC, hIt, hM, hU⟩ := HX.out
        obtain ⟨hL2, hA2, hT2, hAT, hwA, hwT, hC2⟩ := H2.out
        have hF2 := hC2.same hF hLF.symm
        have hU2 := hC2.same hU (ne_kind HR.out.dus HR.out.lay (by decide))
        have hsz := hC.size
        have hsz2 := HR.out.below.size
        have hle := HR.out.le
        have hB := H.out.2.1.lt
        have hbs := H.out.2.2.2.1
        have lF := lt_of_block hF
        have lU := lt_of_block hU
        have hM2 : MapAt w2 B X k := hM.kept (hC2.block _ hM.lt (by show B ≠ L; omega))
        have hI2 : Items w2 p k c X := hIt.same fun hn0 a ha => hC2.block _ (hIt.lt hn0 ha) (by
          have h1 := H.out.1.lt hn0 ha
          show a.block ≠ L
          omega)
        refine ⟨⟨L, F, A, T, U, B, p, k, c⟩, ⟨fun i => first (X i), ad X b0 fun i => first (X i), fun _ => 0, 0, fun _ => 0⟩, rfl, ?_, rfl, rfl, rfl, Under.start, ?_⟩
        · refine ⟨hn, H.out.2.2.1, hI2, hL2, hM2, hF2, hA2, hT2, hU2, ⟨?_, ?_, HR.out.ne, hAT, ?_, ?_⟩, ⟨?_, ?_, ?_, ?_, ?_, hbs⟩, H.out.2.2.2.2, (Under.start (base := b0)).1, fun _ => ⟨Int.le_refl _, show (0 : Int) ≤ 3 by decide⟩, fun i _ => Or.inl rfl, ?_, fun i _ => ?_, fun i _ => ⟨Int.le_refl _, show (0 : Int) ≤ 2000000 by decide⟩, fun i _ h0 => absurd h0 (show ¬ ((0 : Int) < 0) by decide)⟩
          · show F ≠ A; omega
          · show F ≠ T; omega
          · show A ≠ U; omega
          · show T ≠ U; omega
          · show bs ≤ L; omega
          · show bs ≤ F; omega
          · show bs ≤ A; omega
          · show bs ≤ T; omega
          · show bs ≤ U; omega
          · show (0 : Int) = psum (fun _ => 0) k
            rw [psum_zero]
          · show ad X b0 (fun i => first (X i)) i + psum (fun _ => 0) i = ad X b0 (fun i => first (X i)) i
            rw [psum_zero]
            omega
        · have t1 : Below w.heap.size w wr := (Chg.trans (F := fun q => q = F) (F' := fun q => q = F) (Chg.of_below HR.out.below) hC (fun _ h => Or.inl h)).below (Nat.le_refl _) (fun i e => by omega)
          exact t1.trans (hC2.below (by omega) (fun i e => by omega))
end Go.Proofs.YtbplmbignalbgaaDoor
