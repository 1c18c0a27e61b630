/- Contracts: all items get the least forms that fit. Conditions: the layout lies as told. -/
import Derived.Test.YtbplmbignalbgaaDoorAsK
import Derived.Deep.LoopGhost
namespace Go.Proofs.YtbplmbignalbgaaDoor
open Go.RowKit Asm
set_option linter.unusedVariables false
set_option linter.unusedSimpArgs false

def turnsL (X : Nat → It) : Nat → List Nat
  | 0 => []
  | k + 1 => if turns (X k) then turnsL X k ++ [k] else turnsL X k
theorem turnsL_len (X : Nat → It) : ∀ k, (turnsL X k).length ≤ k
  | 0 => Nat.le_refl _
  | k + 1 => by
    have := turnsL_len X k
    unfold turnsL
    split
    · rw [List.length_append]; show _ + 1 ≤ _; omega
    · omega
theorem turnsL_mem (X : Nat → It) (j : Nat) : ∀ k, j ∈ turnsL X k ↔ j < k ∧ turns (X j) = true
  | 0 => by simp [turnsL]
  | k + 1 => by
    have ih := turnsL_mem X j k
    unfold turnsL
    split
    · rename_i h
      rw [List.mem_append, ih, List.mem_singleton]
      constructor
      · rintro (⟨h1, h2⟩ | rfl)
        · exact ⟨by omega, h2⟩
        · exact ⟨by omega, h⟩
      · rintro ⟨h1, h2⟩
        by_cases he : j = k
        · exact Or.inr he
        · exact Or.inl ⟨by omega, h2⟩
    · rename_i h
      rw [ih]
      constructor
      · rintro ⟨h1, h2⟩; exact ⟨by omega, h2⟩
      · rintro ⟨h1, h2⟩
        by_cases he : j = k
        · subst he; exact absurd h2 h
        · exact ⟨by omega, h2⟩
theorem infoI : (Tryd.prog.info? 3).map (fun i => (i.zero, i.size, i.bytes)) = some (some (.int .i64 0), 1, 8) := by kernel_rfl
theorem infoI_of : ∃ i, Tryd.prog.info? 3 = some i ∧ i.zero = some (.int .i64 0) ∧ i.size = 1 ∧ i.bytes = 8 := by
  obtain ⟨i, hi, hx⟩ := Option.map_eq_some_iff.1 infoI
  simp only [Prod.mk.injEq] at hx
  exact ⟨i, hi, hx⟩
theorem one_int (x : Int) : ∀ u ∈ [Value.int .i64 x], u.oneCell' = true := by
  intro u hu
  obtain rfl := List.mem_singleton.1 hu
  rfl

def LL.all (l : LL) (k : Nat) : Prop := k = l.L ∨ k = l.F ∨ k = l.A ∨ k = l.T ∨ k = l.U ∨ k = l.B
theorem LRep.all_lt {base : Nat} {w : World} {l : LL} {X : Nat → It} {b0 : Int} {s : LS} (h : LRep base w l X b0 s) {k : Nat} (hk : l.all k) : k < w.heap.size := by
  rcases hk with rfl | rfl | rfl | rfl | rfl | rfl
  · exact lt_of_block h.lay
  · exact lt_of_block h.frm
  · exact lt_of_block h.ats
  · exact lt_of_block h.tal
  · exact lt_of_block h.dus
  · exact h.map.lt
theorem LL.fp_all {l : LL} {k : Nat} (h : l.fp k) : l.all k := by
  rcases h with rfl | rfl | rfl | rfl
  · exact Or.inl rfl
  · exact Or.inr (Or.inl rfl)
  · exact Or.inr (Or.inr (Or.inr (Or.inl rfl)))
  · exact Or.inr (Or.inr (Or.inr (Or.inr (Or.inl rfl))))
theorem LRep.chg {base B : Nat} {w w' : World} {l : LL} {X : Nat → It} {b0 : Int} {s : LS} (h : LRep base w l X b0 s) {F : Nat → Prop} (hc : Chg F w w') (hB : ∀ k, l.all k → k < B) (hF : ∀ k, F k → B ≤ k) : LRep base w' l X b0 s := by
  have hk : ∀ k, l.all k → w'.heap[k]? = w.heap[k]? := fun k hk => hc.block k (h.all_lt hk) (fun hf => by have := hB k hk; have := hF k hf; omega)
  refine h.frame (fun hn a ha => ?_) (hk _ (Or.inl rfl)) (hk _ (Or.inr (Or.inr (Or.inr (Or.inr (Or.inr rfl)))))) (hk _ (Or.inr (Or.inl rfl))) (hk _ (Or.inr (Or.inr (Or.inl rfl)))) (hk _ (Or.inr (Or.inr (Or.inr (Or.inl rfl))))) (hk _ (Or.inr (Or.inr (Or.inr (Or.inr (Or.inl rfl))))))
  have h1 := h.pb hn a ha
  have h2 := h.lb.1
  have h3 := hB _ (Or.inl rfl)
  exact hc.block _ (by have := h.base_le; omega) (fun hf => by have := hF _ hf; omega)
theorem own_keptI {w w' : World} {base n : Nat} {v : Value} {xs : List Value} (h : w.ownsRow base 3 1 v n xs) (hb : ∀ k, base ≤ k → k < w.heap.size → w'.heap[k]? = w.heap[k]?) : w'.ownsRow base 3 1 v n xs := by
  refine ⟨h.1, h.2.imp id ?_⟩
  rintro ⟨g, cap, cur, rfl, hb', hg, rest⟩
  exact ⟨g, cap, cur, rfl, hb', (hb g hb' (lt_of_block hg)).trans hg, rest⟩
def fsum (f : Nat → Nat) : Nat → Nat
  | 0 => 0
  | k + 1 => fsum f k + f k
theorem fsum_congr {f g : Nat → Nat} : ∀ {n : Nat}, (∀ i, i < n → f i = g i) → fsum f n = fsum g n
  | 0, _ => rfl
  | n + 1, h => by unfold fsum; rw [fsum_congr (fun i hi => h i (by omega)), h n (by omega)]
theorem fsum_raise {f g : Nat → Nat} {i : Nat} (ho : ∀ j, j ≠ i → g j = f j) : ∀ {n : Nat}, fsum g n + (if i < n then f i else 0) = fsum f n + (if i < n then g i else 0)
  | 0 => by simp [fsum]
  | n + 1 => by
    have ih := fsum_raise ho (n := n)
    unfold fsum
    by_cases he : i = n
    · subst he
      rw [if_neg (by omega), if_neg (by omega)] at ih
      rw [if_pos (by omega), if_pos (by omega)]
      omega
    · rw [ho n (fun e => he e.symm)]
      by_cases hlt : i < n
      · rw [if_pos hlt, if_pos hlt] at ih
        rw [if_pos (by omega), if_pos (by omega)]
        omega
      · rw [if_neg hlt, if_neg hlt] at ih
        rw [if_neg (by omega), if_neg (by omega)]
        omega
theorem fsum_le {f : Nat → Nat} : ∀ {n : Nat}, (∀ i, i < n → f i ≤ 3) → fsum f n ≤ 3 * n
  | 0, _ => Nat.le_refl _
  | n + 1, h => by
    have := fsum_le (fun i hi => h i (by omega) : ∀ i, i < n → f i ≤ 3)
    have := h n (by omega)
    unfold fsum
    omega
/-- Between two items of a round. -/
structure Inner (X : Nat → It) (n : Nat) (b0 : Int) (T : List Nat) (f g : Nat → Nat) (j : Nat) (b : Bool) : Prop where
  under : Under X n b0 g
  le : fsum f n ≤ fsum g n
  yes : b = true → fsum f n < fsum g n
  no : b = false → g = f ∧ ∀ q, q < j → fits X n b0 g (T.getD q 0)
theorem Inner.step {X : Nat → It} {n : Nat} {b0 : Int} {T : List Nat} {f g g' : Nat → Nat} {j : Nat} {b : Bool} (h : Inner X n b0 T f g j b) (hi : T.getD j 0 < n) (r : Raised X n b0 (T.getD j 0) g g') (hf : fits X n b0 g' (T.getD j 0)) :
    Inner X n b0 T f g' (j + 1) (if g' (T.getD j 0) ≠ g (T.getD j 0) then true else b) := by
  have hs := fsum_raise r.other (n := n)
  rw [if_pos hi, if_pos hi] at hs
  have hle := r.le
  have hl := h.le
  by_cases he : g' (T.getD j 0) = g (T.getD j 0)
  · have hg : g' = g := by
      funext k
      by_cases hk : k = T.getD j 0
      · rw [hk]; exact he
      · exact r.other k hk
    rw [if_neg (by simpa using he)]
    refine ⟨r.under, by omega, fun hb => by have := h.yes hb; omega, fun hb => ?_⟩
    obtain ⟨h1, h2⟩ := h.no hb
    subst hg
    refine ⟨h1, fun q hq => ?_⟩
    by_cases hqj : q = j
    · rw [hqj]; exact hf
    · exact h2 q (by omega)
  · rw [if_pos he]
    exact ⟨r.under, by omega, fun _ => by omega, fun hb => by cases hb⟩
theorem fits_other {X : Nat → It} {n : Nat} {b0 : Int} {f : Nat → Nat} {i : Nat} (h : turns (X i) = false) : fits X n b0 f i := by
  left
  unfold turns at h
  rw [decide_eq_false_iff_not] at h
  unfold reach
  rw [if_neg (by omega), if_neg (by omega)]
theorem Inner.done {X : Nat → It} {n : Nat} {b0 : Int} {T : List Nat} {f g : Nat → Nat} (h : Inner X n b0 T f g T.length false) (hp : T.Perm (turnsL X n)) : Least X n b0 g := by
  refine ⟨h.under, fun i hi => ?_⟩
  by_cases ht : turns (X i) = true
  · have hm : i ∈ T := hp.mem_iff.2 ((turnsL_mem X i n).2 ⟨hi, ht⟩)
    obtain ⟨q, hq, he⟩ := List.getElem_of_mem hm
    have := (h.no rfl).2 q hq
    have e : T.getD q 0 = i := by simp [List.getD, List.getElem?_eq_getElem hq, he]
    rw [e] at this
    exact this
  · exact fits_other (by simpa using ht)

set_option maxRecDepth 100000 in
set_option maxHeartbeats 2000000 in
theorem grow_at {base : Nat} {w : World} {l : LL} {X : Nat → It} {b0 : Int} {s : LS} (h : LRep base w l X b0 s) (hu : Under X l.n b0 s.f) :
    Calls Tryd.prog 34 #[.pointer (some ⟨l.L, 0, none⟩)] w fun e w' => e = .returned (.tuple #[]) ∧ ∃ s', LRep base w' l X b0 s' ∧ Least X l.n b0 s'.f ∧ Chg l.fp w w' := by
  have c0 := h.c0
  have H := Lib.hid (And.intro h hu)
  have n60 := h.n60
  clear h hu
  obtain ⟨i0, hi, hz0, hz1, hz2⟩ := infoI_of
  go_enter Tryd.func34, Tryd.ntmps34
  go_wp2_with fail
  go_step3
  go_wp2_with fail
  go_loopw [2, 13] (fun v s13 wr => ∃ k : Nat, s13 = .int .i64 k ∧ k ≤ l.n ∧ wr.ownsRow w.heap.size 3 1 v (turnsL X k).length (rowI (turnsL X k)) ∧ Below w.heap.size w wr) (fun _ s13 _ => l.n - (intOf s13).toNat)
  case atStart => exact ⟨0, rfl, Nat.zero_le _, World.ownsRow_nil _ _ _ _, Below.refl _ _⟩
  case round =>
    obtain ⟨k, rfl, hk, hown, hb⟩ := hrel
    by_cases hlt : k < l.n
    · have d1 : decide ((k : Int) < (l.n : Int)) = true := by simp; omega
      have ek : (k : Int) < (l.n : Int) := by omega
      obtain ⟨b, off, hp, k0, k1, k2, k3, k4, k5, k6, k7⟩ := (H.out.1.below hb).items.at hlt
      rw [hp]
      have HB := Lib.hid (And.intro hb hp)
      have hl := turnsL_len X k
      clear hb hp
      go_wp2_with fail
      refine (isTurn_any _ _).mono ?_
      rintro e w2 ⟨rfl, hw2⟩
      rw [← hw2]
      have hal := (Below.refl wr.heap.size wr).alloc (Nat.le_refl _) (.cells #[.int .i64 (X k).kind, .int .i64 (X k).op, .int .i64 (X k).d, .int .i64 (X k).a, .int .i64 (X k).b, .int .i64 (X k).imm, .string (X k).lab, .int .u32 (X k).word] 40)
      have hown2 := hown.alloc (.cells #[.int .i64 (X k).kind, .int .i64 (X k).op, .int .i64 (X k).d, .int .i64 (X k).a, .int .i64 (X k).b, .int .i64 (X k).imm, .string (X k).lab, .int .u32 (X k).word] 40)
      rw [hw2] at hal hown2
      rw [hw2]
      have hb2 : Below w.heap.size w w2 := HB.out.1.trans (hal.mono HB.out.1.size)
      have HA := Lib.hid hb2
      clear hal hown hw2 hb2 k0 k1 k2 k3 k4 k5 k6 k7
      by_cases ht : (X k).kind = 3 ∨ (X k).kind = 4
      · have d2 : decide ((X k).kind = 3 ∨ (X k).kind = 4) = true := by simp [ht]
        have HT := Lib.hid (show turns (X k) = true by unfold turns; exact d2)
        clear ht
        go_wp2_with (first
          | (at_builtin; refine wpList_append_own _ rfl _ _ 71 rfl w.heap.size 3 i0 (.int .i64 0) 1 8 Tryd.underlying71 hi hz0 hz1 hz2 rfl (by decide) _ _ _ rfl (hown2.alloc _) ⟨w2.heap.size, 0, none⟩ 1 1 [.int .i64 k] rfl rfl (cell_one_new _ _ _) (one_int k) ?c3 ?c4 ?c5 ?_)
          | fail)
        case c3 => unfold maxLen; omega
        case c4 => omega
        case c5 => have := HA.out.size; simp; omega
        · intro v' w3 hown3 hgrow _
          have hb3 : Below w.heap.size w w3 := (HA.out.alloc (HA.out.size) _).grown hgrow (by have := HA.out.size; simp; omega) (fun q hq => (hown2.lt q hq).1)
          have H3 := Lib.hid (And.intro hown3 hb3)
          clear hown3 hgrow hb3 hown2
          go_wp2_with fail
          go_roundw
          case rel =>
            have e : turnsL X (k + 1) = turnsL X k ++ [k] := by
              show (if turns (X k) then _ else _) = _
              rw [if_pos HT.out]
            refine ⟨k + 1, by go_num, hlt, ?_, H3.out.2⟩
            rw [e, List.length_append]
            have : rowI (turnsL X k ++ [k]) = rowI (turnsL X k) ++ [.int .i64 k] := by unfold rowI; rw [List.map_append]; rfl
            rw [this]
            exact H3.out.1
          case measure => simp [intOf]; omega
      · have d2 : decide ((X k).kind = 3 ∨ (X k).kind = 4) = false := by simpa using ht
        have HT := Lib.hid (show turns (X k) = false by unfold turns; exact d2)
        clear ht
        have H3 := Lib.hid hown2
        clear hown2
        go_wp2_with fail
        go_roundw
        case rel =>
          have e : turnsL X (k + 1) = turnsL X k := by
            show (if turns (X k) then _ else _) = _
            rw [HT.out]
            rfl
          refine ⟨k + 1, by go_num, hlt, ?_, HA.out⟩
          rw [e]
          exact H3.out
        case measure => simp [intOf]; omega
    · have hz : k = l.n := by omega
      subst hz
      have d1 : decide ((l.n : Int) < (l.n : Int)) = false := by simp
      have HB := Lib.hid (And.intro hown hb)
      clear hown hb
      have hm : (turnsL X l.n).length ≤ 480 := by have := turnsL_len X l.n; omega
      obtain ⟨m, hmm⟩ : ∃ m, m = (turnsL X l.n).length := ⟨_, rfl⟩
      rw [← hmm] at HB hm
      have HM := Lib.hid hmm
      clear hmm
      obtain ⟨p2, c2, rfl, hshape⟩ : ∃ p2 c2, u2 = .slice p2 m c2 ∧ (0 < m → ∃ g, p2 = some ⟨g, 0, none⟩) := by
        rcases HB.out.1.2 with ⟨rfl, h0⟩ | ⟨g, cap, cur, rfl, -⟩
        · exact ⟨none, 0, by rw [h0], fun h => by omega⟩
        · exact ⟨some ⟨g, 0, none⟩, cap, rfl, fun _ => ⟨g, rfl⟩⟩
      have HSH := Lib.hid hshape
      clear hshape
      go_wp2_with fail
      go_step3
      go_wp2_with fail
      have HALL := Lib.hid (fun k (hk : l.all k) => H.out.1.all_lt hk)
      go_loopg [5, 30] (3 * l.n) (fun gh _ _ wx => ∃ (T : List Nat) (s1 : LS), T.Perm (turnsL X l.n) ∧ wx.ownsRow w.heap.size 3 1 (.slice p2 m c2) m (rowI T) ∧ LRep base wx l X b0 s1 ∧ Under X l.n b0 s1.f ∧ Chg (fun k => l.fp k ∨ w.heap.size ≤ k) w wx ∧ 3 * l.n ≤ fsum s1.f l.n + gh)
      case atStart => exact ⟨turnsL X l.n, s, List.Perm.refl _, HB.out.1, H.out.1.below HB.out.2, H.out.2, Chg.of_below HB.out.2, by omega⟩
      case round =>
        obtain ⟨T, s1, hp, ho, h1, hu1, hC, hg⟩ := hrel
        have hlen : T.length = m := by rw [HM.out]; exact hp.length_eq
        have hrev := reverse_at (v := .slice p2 m c2) (T := T) (by rw [hlen]; exact ho) (by omega)
        have hlt2 := ho.lt
        have HR := Lib.hid (And.intro hp (And.intro h1 (And.intro hu1 (And.intro hC (And.intro hg hlen)))))
        have HLT := Lib.hid hlt2
        clear hp ho h1 hu1 hC hg hlt2 hlen
        go_wp2_with fail
        refine hrev.mono ?_
        rintro e w2 ⟨rfl, T2, hp2, ho2, hC2⟩
        obtain ⟨hp, h1, hu1, hC, hg, hlen⟩ := HR.out
        have h2 := h1.chg hC2 HALL.out (fun k hk => (HLT.out k hk).1)
        have hC3 : Chg (fun k => l.fp k ∨ w.heap.size ≤ k) w w2 := hC.trans hC2 (fun k hk => Or.inl (Or.inr (HLT.out k hk).1))
        rw [hlen] at ho2
        have hlen2 : T2.length = m := hp2.length_eq.trans hlen
        have H2 := Lib.hid (And.intro (hp2.trans hp) (And.intro ho2 (And.intro h2 (And.intro hC3 (And.intro hu1 (And.intro hg hlen2))))))
        clear hp h1 hu1 hC hg hlen hp2 ho2 hC2 h2 hC3 hrev hlen2 HR HLT
        go_wp2_with fail
        go_loopw [5, 30] (fun s5 s30 wx => ∃ (j : Nat) (b : Bool) (s2 : LS), s5 = .bool b ∧ s30 = .int .i64 j ∧ j ≤ m ∧ wx.ownsRow w.heap.size 3 1 (.slice p2 m c2) m (rowI T2) ∧ LRep base wx l X b0 s2 ∧ Inner X l.n b0 T2 s1.f s2.f j b ∧ Chg (fun k => l.fp k ∨ w.heap.size ≤ k) w wx) (fun _ s30 _ => m - (intOf s30).toNat)
        case atStart => exact ⟨0, false, s1, rfl, rfl, Nat.zero_le _, H2.out.2.1, H2.out.2.2.1, ⟨H2.out.2.2.2.2.1, Nat.le_refl _, fun h => (by cases h), fun _ => ⟨rfl, fun q hq => (by omega)⟩⟩, H2.out.2.2.2.1⟩
        case round =>
          obtain ⟨j, b, s2, rfl, rfl, hj, ho, h2, hin, hC⟩ := hrel
          by_cases hjm : j < m
          · obtain ⟨g, rfl⟩ := HSH.out (by omega)
            have hlen := H2.out.2.2.2.2.2.2
            have hcell := ho.cellAt j (by omega)
            rw [rowI_get T2 (by omega)] at hcell
            have hti : T2.getD j 0 < l.n ∧ turns (X (T2.getD j 0)) = true := by
              refine (turnsL_mem X _ l.n).1 (H2.out.1.mem_iff.1 ?_)
              have hj' : j < T2.length := by omega
              have e : T2.getD j 0 = T2[j] := by simp [List.getD, List.getElem?_eq_getElem hj']
              rw [e]
              exact List.getElem_mem _
            obtain ⟨i, hii⟩ : ∃ i, i = T2.getD j 0 := ⟨_, rfl⟩
            rw [← hii] at hcell hti
            have d1 : decide ((j : Int) < (m : Int)) = true := by simp; omega
            have ej : (j : Int) < (m : Int) := by omega
            have HI := Lib.hid (And.intro ho (And.intro h2 (And.intro hin (And.intro hC (And.intro hii hti)))))
            clear ho h2 hin hC hii hti hlen
            go_wp2_with fail
            refine (raise_at HI.out.2.1 i HI.out.2.2.2.2.2.1 HI.out.2.2.1.under).mono ?_
            rintro e w3 ⟨s3, rfl, h3, hC3, hr3, hf3⟩
            have ho3 := own_keptI HI.out.1 (w' := w3) (fun k hk hks => hC3.block k hks (fun hf => by have := HALL.out k (LL.fp_all hf); omega))
            have hCC := HI.out.2.2.2.1.trans hC3 (fun k hk => Or.inl (Or.inl hk))
            have hin3 := HI.out.2.2.1.step (T := T2) (j := j) (g' := s3.f) (by rw [← HI.out.2.2.2.2.1]; exact HI.out.2.2.2.2.2.1) (by rw [← HI.out.2.2.2.2.1]; exact hr3) (by rw [← HI.out.2.2.2.2.1]; exact hf3)
            rw [← HI.out.2.2.2.2.1] at hin3
            by_cases hch : s3.f i = s2.f i
            · have dch : decide (s3.f i ≠ s2.f i) = false := by simp [hch]
              rw [if_neg (by simpa using hch)] at hin3
              have H3 := Lib.hid (And.intro ho3 (And.intro h3 (And.intro hin3 hCC)))
              clear ho3 h3 hin3 hCC hC3 hr3 hf3 hch
              rw [dch]
              go_wp2_with fail
              go_roundw
              case rel => exact ⟨j + 1, b, s3, rfl, by go_num, hjm, H3.out⟩
              case measure => simp [intOf]; omega
            · have dch : decide (s3.f i ≠ s2.f i) = true := by simp [hch]
              rw [if_pos hch] at hin3
              have H3 := Lib.hid (And.intro ho3 (And.intro h3 (And.intro hin3 hCC)))
              clear ho3 h3 hin3 hCC hC3 hr3 hf3 hch
              rw [dch]
              go_wp2_with fail
              go_roundw
              case rel => exact ⟨j + 1, true, s3, rfl, by go_num, hjm, H3.out⟩
              case measure => simp [intOf]; omega
          · have hz : j = m := by omega
            subst hz
            have d1 : decide ((j : Int) < (j : Int)) = false := by simp
            have HI := Lib.hid (And.intro ho (And.intro h2 (And.intro hin hC)))
            clear ho h2 hin hC
            cases b
            · go_wp2_with fail
              first | rw [Exit.noGoto_normal] | rw [Exit.noGoto_ret] | skip
              go_returns
              have hin := HI.out.2.2.1
              have hlen := H2.out.2.2.2.2.2.2
              rw [← hlen] at hin
              refine ⟨rfl, s2, HI.out.2.1, hin.done H2.out.1, ?_⟩
              have hC := HI.out.2.2.2
              exact ⟨hC.os, hC.tape, hC.output, hC.size, fun k hk hn => hC.block k hk (fun hf => hf.elim hn (fun h => by omega))⟩
            · go_wp2_with fail
              have hf3 := fsum_le (f := s2.f) (n := l.n) (fun i hi => HI.out.2.1.f_lt hi)
              have hyes := HI.out.2.2.1.yes rfl
              have hgg := H2.out.2.2.2.2.2.1
              go_roundg (3 * l.n - fsum s2.f l.n)
              case measure => omega
              case rel => exact ⟨T2, s2, H2.out.1, HI.out.1, HI.out.2.1, HI.out.2.2.1.under, HI.out.2.2.2, by omega⟩
end Go.Proofs.YtbplmbignalbgaaDoor
