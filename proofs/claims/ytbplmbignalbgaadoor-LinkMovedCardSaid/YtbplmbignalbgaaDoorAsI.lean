/- Contracts: an item gets its next form. Conditions: the layout lies as told. -/
import Derived.Test.YtbplmbignalbgaaDoorAsH
namespace Go.Proofs.YtbplmbignalbgaaDoor
open Go.RowKit Asm
set_option linter.unusedVariables false
set_option linter.unusedSimpArgs false

def updN (f : Nat → Nat) (i x : Nat) (j : Nat) : Nat := if j = i then x else f j
theorem ad_upd {X : Nat → It} {b0 : Int} {f : Nat → Nat} {i x : Nat} : ∀ j, ad X b0 (updN f i x) j = ad X b0 f j + if i < j then isz (X i) x - isz (X i) (f i) else 0
  | 0 => by simp [ad]
  | j + 1 => by
    have ih := ad_upd (X := X) (b0 := b0) (f := f) (i := i) (x := x) j
    show ad X b0 (updN f i x) j + isz (X j) (updN f i x j) = ad X b0 f j + isz (X j) (f j) + _
    rw [ih]
    unfold updN
    by_cases h : j = i
    · subst h
      rw [if_neg (by omega), if_pos rfl, if_pos (by omega)]
      omega
    · rw [if_neg h]
      by_cases h2 : i < j
      · rw [if_pos h2, if_pos (by omega)]; omega
      · rw [if_neg h2, if_neg (by omega)]; omega
/-- What grows when an item does not fit. -/
theorem grows {x : It} {f : Nat} (h : reach x f ≠ 0) : 1 ≤ isz x (f + 1) - isz x f ∧ isz x (f + 1) - isz x f ≤ 2 ∧ isz x (f + 1) ≤ 4 ∧ 1 ≤ isz x f := by
  unfold reach at h
  unfold isz
  by_cases h3 : x.kind = 3
  · simp only [h3] at h ⊢
    have hf : f = 1 ∨ f = 2 := by split at h; omega; split at h; omega; omega
    rcases hf with rfl | rfl <;> simp
  · by_cases h4 : x.kind = 4
    · simp only [h4] at h ⊢
      have hf : f = 1 := by split at h; omega; split at h; omega; omega
      rcases hf with rfl
      simp
    · simp [h3, h4] at h
theorem far_lip {X : Nat → It} {n : Nat} {b0 : Int} {f : Nat → Nat} {i x j : Nat} {v : Int} (hv : v = isz (X i) x - isz (X i) (f i)) (h0 : 0 ≤ v) : far (dist X n b0 (updN f i x) j) ≤ far (dist X n b0 f j) + v := by
  unfold dist
  rw [ad_upd, ad_upd, ← hv]
  unfold far
  (repeat' split) <;> omega
def LS.longer (s : LS) (X : Nat → It) (i : Nat) : LS :=
  { f := updN s.f i (s.f i + 1), ats := s.ats, x := updF s.x i (s.x i + (isz (X i) (s.f i + 1) - isz (X i) (s.f i))), tot := s.tot + (isz (X i) (s.f i + 1) - isz (X i) (s.f i)), due := s.due }
theorem LRep.longer {base : Nat} {w w' : World} {l : LL} {X : Nat → It} {b0 : Int} {s : LS} (h : LRep base w l X b0 s) {i : Nat} (hi : i < l.n) (hn : ¬ fits X l.n b0 s.f i)
    (hI : 0 < l.n → ∀ a, l.p = some a → w'.heap[a.block]? = w.heap[a.block]?) (hL : w'.heap[l.L]? = some (.cells (cellsF 7 (lcell l (s.longer X i))) 84 (0, 0))) (hB : w'.heap[l.B]? = w.heap[l.B]?) (hF : w'.heap[l.F]? = some (.cells (cellsF l.n (forms (s.longer X i).f)) 3 (0, 0)))
    (hA : w'.heap[l.A]? = w.heap[l.A]?) (hT : w'.heap[l.T]? = some (.cells (cellsF (l.n + 1) (ints (fw (s.longer X i).x))) 3 (0, 0))) (hU : w'.heap[l.U]? = w.heap[l.U]?) : LRep base w' l X b0 (s.longer X i) := by
  have hr : reach (X i) (s.f i) ≠ 0 := fun e => hn (Or.inl e)
  obtain ⟨g1, g2, g3, g4⟩ := grows hr
  have hd : s.due i ≤ s.tot := by
    rcases Int.lt_or_le s.tot (s.due i) with hlt | hle
    · have := h.dok i hi hlt
      exact absurd (Or.inr (by omega)) hn
    · exact hle
  have hx0 := h.xs i hi
  have hxb := h.xb i
  refine ⟨h.n60, h.b0r, h.items.same hI, hL, h.map.kept hB, hF, hA.trans h.ats, hT, hU.trans h.dus, h.ne, h.lb, h.pb, reach_form h.valid hi hr, fun k => ?_, fun k hk => ?_, ?_, fun k hk => ?_, h.due0, fun j hj ht => ?_⟩
  · show 0 ≤ updF s.x i _ k ∧ updF s.x i _ k ≤ 3
    unfold updF
    split
    · omega
    · exact h.xb k
  · show updF s.x i _ k = 0 ∨ updF s.x i _ k ≤ isz (X k) (updN s.f i _ k) - 1
    unfold updF updN
    split
    · rename_i he; subst he; right; omega
    · exact h.xs k hk
  · show s.tot + _ = psum (updF s.x i _) l.n
    rw [psum_upd, if_pos hi, h.tot]
  · show s.ats k + psum (updF s.x i _) k = ad X b0 (updN s.f i _) k
    have := h.adr k hk
    rw [psum_upd, ad_upd]
    omega
  · have ht' : s.tot + (isz (X i) (s.f i + 1) - isz (X i) (s.f i)) < s.due j := ht
    have hne : j ≠ i := by rintro rfl; omega
    obtain ⟨k1, k2⟩ := h.dok j hj (by omega)
    have hl := far_lip (X := X) (n := l.n) (b0 := b0) (f := s.f) (i := i) (x := s.f i + 1) (j := j) rfl (by omega)
    show reach (X j) (updN s.f i _ j) ≠ 0 ∧ far (dist X l.n b0 (updN s.f i (s.f i + 1)) j) + (s.due j - (s.tot + _)) ≤ reach (X j) (updN s.f i _ j)
    have e : updN s.f i (s.f i + 1) j = s.f j := by unfold updN; rw [if_neg hne]
    rw [e]
    exact ⟨k1, by omega⟩
theorem upd_forms (f : Nat → Nat) (i x : Nat) (j : Nat) : updF (forms f) i (.int .i64 x) j = forms (updN f i x) j := by
  unfold updF forms updN
  by_cases h : j = i
  · simp [h]
  · simp [h]
theorem lcell_tot (l : LL) (s : LS) (v : Int) (f : Nat → Nat) (x : Nat → Int) (j : Nat) (hj : j < 7) : updF (lcell l s) 5 (.int .i64 v) j = lcell l { f := f, ats := s.ats, x := x, tot := v, due := s.due } j := by
  unfold updF lcell
  split
  · rename_i h; subst h; rfl
  · (repeat' split) <;> first | rfl | omega

set_option maxRecDepth 100000 in
set_option maxHeartbeats 2000000 in
theorem lengthen_at {base : Nat} {w : World} {l : LL} {X : Nat → It} {b0 : Int} {s : LS} (h : LRep base w l X b0 s) (i : Nat) (hi : i < l.n) (hn : ¬ fits X l.n b0 s.f i) :
    Calls Tryd.prog 59 #[.pointer (some ⟨l.L, 0, none⟩), .int .i64 i] w fun e w' => e = .returned (.tuple #[]) ∧ LRep base w' l X b0 (s.longer X i) ∧ Chg l.fp w w' := by
  have hr : reach (X i) (s.f i) ≠ 0 := fun e => hn (Or.inl e)
  have hg := grows hr
  have hf3 := h.f_lt hi
  obtain ⟨b, off, hp, hld⟩ := h.held hi
  have hw := h.items.word i hi
  have H := Lib.hid (And.intro h (And.intro hld (And.intro hn hw)))
  have ei : (i : Int) < l.n := by omega
  have HG := Lib.hid hg
  have HP := Lib.hid hp
  clear h hp hld hr hn hg hw
  obtain ⟨v0, hv0⟩ : ∃ v, v = isz (X i) (s.f i) := ⟨_, rfl⟩
  obtain ⟨v1, hv1⟩ : ∃ v, v = isz (X i) (s.f i + 1) := ⟨_, rfl⟩
  have hv : 1 ≤ v1 - v0 ∧ v1 - v0 ≤ 2 ∧ v1 ≤ 4 ∧ 1 ≤ v0 := by rw [hv0, hv1]; exact HG.out
  have HV := Lib.hid (And.intro hv0 hv1)
  clear hv0 hv1
  have n60 := H.out.1.n60
  have HQ := Lib.hid (show i < l.n + 1 ∧ l.n + 1 ≤ 482 ∧ (0 ≤ v1 - v0 ∧ v1 - v0 ≤ 3) from ⟨by omega, by omega, by omega⟩)
  clear n60
  go_enter Tryd.func59, Tryd.ntmps59
  go_wp2_with fail
  have hs := H.out.2.1 w.drew (Below.refl _ _).drew
  obtain ⟨s0, s2, sf, q0, q1, q2, q3, q4, q5, q6, q7⟩ := hs
  have HS := Lib.hid H.out.2.1
  go_region_held (fun w' => w'.cell? ⟨l.L, 0, none⟩ = some (.slice (some ⟨b, off, none⟩) l.n l.c) ∧ w'.cell? ⟨l.L, 2, none⟩ = some (.slice (some ⟨l.F, 0, none⟩) l.n l.n) ∧ w'.cell? ⟨l.F, i, none⟩ = some (.int .i64 (s.f i)) ∧ w'.cell? ⟨b, off + i * 8, none⟩ = some (.int .i64 (X i).kind) ∧ w'.cell? ⟨b, off + i * 8 + 1, none⟩ = some (.int .i64 (X i).op) ∧ w'.cell? ⟨b, off + i * 8 + 2, none⟩ = some (.int .i64 (X i).d) ∧ w'.cell? ⟨b, off + i * 8 + 3, none⟩ = some (.int .i64 (X i).a) ∧ w'.cell? ⟨b, off + i * 8 + 4, none⟩ = some (.int .i64 (X i).b) ∧ w'.cell? ⟨b, off + i * 8 + 5, none⟩ = some (.int .i64 (X i).imm) ∧ w'.cell? ⟨b, off + i * 8 + 6, none⟩ = some (.string (X i).lab) ∧ w'.cell? ⟨b, off + i * 8 + 7, none⟩ = some (.int .u32 (X i).word)) (go_keep)
    (first | (go_at_call 48; refine (size_any (X i) (s.f i) _ (by omega) H.out.2.2.2).mono ?_; rintro e w9 ⟨rfl, hb9⟩; have hs9 := HS.out w9 (Below.trans (Below.refl _ _).drew hb9); obtain ⟨zs0, zs2, zsf, zq0, zq1, zq2, zq3, zq4, zq5, zq6, zq7⟩ := hs9))
  all_goals
    clear s0 s2 sf q0 q1 q2 q3 q4 q5 q6 q7 zs0 zs2 zsf zq0 zq1 zq2 zq3 zq4 zq5 zq6 zq7
  obtain ⟨w1, hw1⟩ : ∃ w1, w1 = w9 := ⟨_, rfl⟩
  have HB := Lib.hid (show Below w.heap.size w w1 by rw [hw1]; exact (Below.refl _ _).drew.trans hb9)
  rw [← hw1]
  clear hw1 hb9
  rw [← HV.out.1]
  have e1 : wrap64 (-v0) = -v0 := by unfold wrap64; omega
  have h1 := H.out.1.below HB.out
  have c2 := h1.c2
  have cf := h1.cf hi
  have hfu := freeF h1.frm i
  have H1 := Lib.hid h1
  clear h1
  go_wp2_with fail
  have hC : Chg (fun k => k = l.F) w1 (w1.setCell ⟨l.F, i, none⟩ (.int .i64 ((s.f i + 1 : Nat) : Int))) := (Chg.refl _ _).setCell _ _ (Or.inl rfl)
  have hFb : (w1.setCell ⟨l.F, i, none⟩ (.int .i64 ((s.f i + 1 : Nat) : Int))).heap[l.F]? = some (.cells (cellsF l.n (forms (s.longer X i).f)) 3 (0, 0)) := set_blockF H1.out.frm hi fun j _ => upd_forms s.f i (s.f i + 1) j
  rw [show ((s.f i + 1 : Nat) : Int) = (s.f i : Int) + 1 by omega] at hC hFb
  obtain ⟨w2, hw2⟩ : ∃ w2, w2 = w1.setCell ⟨l.F, i, none⟩ (.int .i64 ((s.f i : Int) + 1)) := ⟨_, rfl⟩
  rw [← hw2] at hC hFb
  rw [← hw2]
  clear hw2
  have hL2 := hC.same H1.out.lay (ne_kind H1.out.lay H1.out.frm (by decide))
  have hI2 : Items w2 l.p l.n l.c X := H1.out.items.same fun hn a ha => by
    have hlt := H1.out.pb hn a ha
    have hle := H1.out.lb.2.1
    have hsz : a.block < w1.heap.size := Nat.lt_of_lt_of_le hlt H1.out.base_le
    exact hC.block _ hsz (by omega)
  have cf2 := cellF hFb i hi
  obtain ⟨b2, off2, hp2, hld2⟩ := held_of hi hL2 hI2 cf2
  rw [HP.out] at hp2
  simp only [Option.some.injEq, Addr.mk.injEq, and_true] at hp2
  obtain ⟨rfl, rfl⟩ := hp2
  have hfv : forms (s.longer X i).f i = .int .i64 ((s.f i + 1 : Nat) : Int) := by
    show Value.int .i64 ((updN s.f i (s.f i + 1) i : Nat) : Int) = _
    unfold updN
    rw [if_pos rfl]
  rw [hfv] at hld2
  have HC := Lib.hid (And.intro hC (And.intro hFb (And.intro hL2 hI2)))
  have HL2 := Lib.hid hld2
  have hs := hld2 w2.drew (Below.refl _ _).drew
  obtain ⟨s0, s2, sf, q0, q1, q2, q3, q4, q5, q6, q7⟩ := hs
  clear hC hFb hL2 hI2 cf2 hld2 hfv c2 cf hfu
  go_region_held (fun w' => w'.cell? ⟨l.L, 0, none⟩ = some (.slice (some ⟨b, off, none⟩) l.n l.c) ∧ w'.cell? ⟨l.L, 2, none⟩ = some (.slice (some ⟨l.F, 0, none⟩) l.n l.n) ∧ w'.cell? ⟨l.F, i, none⟩ = some (.int .i64 ((s.f i + 1 : Nat) : Int)) ∧ w'.cell? ⟨b, off + i * 8, none⟩ = some (.int .i64 (X i).kind) ∧ w'.cell? ⟨b, off + i * 8 + 1, none⟩ = some (.int .i64 (X i).op) ∧ w'.cell? ⟨b, off + i * 8 + 2, none⟩ = some (.int .i64 (X i).d) ∧ w'.cell? ⟨b, off + i * 8 + 3, none⟩ = some (.int .i64 (X i).a) ∧ w'.cell? ⟨b, off + i * 8 + 4, none⟩ = some (.int .i64 (X i).b) ∧ w'.cell? ⟨b, off + i * 8 + 5, none⟩ = some (.int .i64 (X i).imm) ∧ w'.cell? ⟨b, off + i * 8 + 6, none⟩ = some (.string (X i).lab) ∧ w'.cell? ⟨b, off + i * 8 + 7, none⟩ = some (.int .u32 (X i).word)) (go_keep)
    (first | (go_at_call 48; refine (size_any (X i) (s.f i + 1) _ (by omega) H.out.2.2.2).mono ?_; rintro e w9 ⟨rfl, hb9⟩; have hs9 := HL2.out w9 (Below.trans (Below.refl _ _).drew hb9); obtain ⟨zs0, zs2, zsf, zq0, zq1, zq2, zq3, zq4, zq5, zq6, zq7⟩ := hs9))
  all_goals
    clear s0 s2 sf q0 q1 q2 q3 q4 q5 q6 q7 zs0 zs2 zsf zq0 zq1 zq2 zq3 zq4 zq5 zq6 zq7
  obtain ⟨w3, hw3⟩ : ∃ w3, w3 = w9 := ⟨_, rfl⟩
  have hB3 : Below w2.heap.size w2 w3 := by rw [hw3]; exact (Below.refl _ _).drew.trans hb9
  rw [← hw3]
  clear hw3 hb9
  rw [← HV.out.2]
  have e2 : wrap64 (-v0 + v1) = v1 - v0 := by unfold wrap64; omega
  have e3 : IntKind.i64.wrap (IntKind.i64.wrap (-v0) + v1) = v1 - v0 := by rw [IntKind.wrap_i64, IntKind.wrap_i64]; omega
  rw [e3]
  have hT3 : w3.heap[l.T]? = some (.cells (cellsF (l.n + 1) (ints (fw s.x))) 3 (0, 0)) := by
    have h2 := HC.out.1.same H1.out.tal H1.out.ne.2.1.symm
    exact (hB3.block _ (lt_of_block h2)).trans h2
  have hL3 := (hB3.block _ (lt_of_block HC.out.2.2.1)).trans HC.out.2.2.1
  have c4 := cellF hL3 4 (by decide)
  rw [show lcell l s 4 = .slice (some ⟨l.T, 0, none⟩) (l.n + 1) (l.n + 1) from rfl] at c4
  have H3 := Lib.hid (And.intro hB3 (And.intro hT3 hL3))
  clear hB3 hT3 hL3
  have c5 := cellF H3.out.2.2 5 (by decide)
  rw [show lcell l s 5 = .int .i64 s.tot from rfl] at c5
  go_wp2_with fail
  have ha := add_at l.T (l.n + 1) (l.n + 1) i (v1 - v0) s.x w3 H3.out.2.1 HQ.out.1 HQ.out.2.1 H.out.1.xb HQ.out.2.2
  refine ha.mono ?_
  rintro e w4 ⟨rfl, hT4, hC4⟩
  have hLT : l.T ≠ l.L := ne_kind H.out.1.tal H.out.1.lay (by decide)
  have hL4 := hC4.same H3.out.2.2 hLT.symm
  have c5 := cellF hL4 5 (by decide)
  rw [show lcell l s 5 = .int .i64 s.tot from rfl] at c5
  have hfL := freeF hL4 5
  have H4 := Lib.hid (And.intro hT4 (And.intro hC4 hL4))
  have ht := psum_bound H.out.1.xb l.n
  have h60 := H.out.1.n60
  have hT := H.out.1.tot
  have e5 : wrap64 (s.tot + (v1 - v0)) = s.tot + (v1 - v0) := by unfold wrap64; omega
  clear hT4 hC4 hL4 ht h60 hT c4
  go_wp2_with fail
  go_returns
  obtain ⟨hT4, hC4, hL4⟩ := H4.out
  obtain ⟨hB3, hT3, hL3⟩ := H3.out
  obtain ⟨hC, hFb, hL2, hI2⟩ := HC.out
  have h0 := H.out.1
  have hlong : (v1 - v0) = isz (X i) (s.f i + 1) - isz (X i) (s.f i) := by rw [HV.out.1, HV.out.2]
  have hC5 : Chg (fun k => k = l.L) w4 (w4.setCell ⟨l.L, 5, none⟩ (.int .i64 (s.tot + (v1 - v0)))) := (Chg.refl _ _).setCell _ _ (Or.inl rfl)
  have hL5 : (w4.setCell ⟨l.L, 5, none⟩ (.int .i64 (s.tot + (v1 - v0)))).heap[l.L]? = some (.cells (cellsF 7 (lcell l (s.longer X i))) 84 (0, 0)) := set_blockF hL4 (by decide) fun j hj => by
    rw [hlong]
    exact lcell_tot l s _ _ _ j hj
  obtain ⟨w5, hw5⟩ : ∃ w5, w5 = w4.setCell ⟨l.L, 5, none⟩ (.int .i64 (s.tot + (v1 - v0))) := ⟨_, rfl⟩
  rw [← hw5] at hC5 hL5 ⊢
  have hsame : ∀ k o, w.heap[k]? = some o → k ≠ l.F → k ≠ l.T → k ≠ l.L → w5.heap[k]? = some o := by
    intro k o hk n1 n2 n3
    have k1 := (HB.out.block k (lt_of_block hk)).trans hk
    have k2 := hC.same k1 n1
    have k3 := (hB3.block k (lt_of_block k2)).trans k2
    exact hC5.same (hC4.same k3 n2) n3
  have hsz : ∀ k, k < w.heap.size → k ≠ l.F → k ≠ l.T → k ≠ l.L → w5.heap[k]? = w.heap[k]? := by
    intro k hk n1 n2 n3
    rw [Array.getElem?_eq_getElem hk]
    exact hsame k _ (Array.getElem?_eq_getElem hk) n1 n2 n3
  have hB0 : ∀ k, MapAt w l.B X k → l.B ≠ l.F ∧ l.B ≠ l.T ∧ l.B ≠ l.L := by
    intro k hm
    obtain ⟨D, ⟨es, clock, hB, -⟩, -⟩ := hm
    refine ⟨fun e => ?_, fun e => ?_, fun e => ?_⟩
    · rw [e, h0.frm] at hB; cases hB
    · rw [e, h0.tal] at hB; cases hB
    · rw [e, h0.lay] at hB; cases hB
  obtain ⟨m1, m2, m3⟩ := hB0 _ h0.map
  have hT5 : w5.heap[l.T]? = some (.cells (cellsF (l.n + 1) (ints (fw (s.longer X i).x))) 3 (0, 0)) := by
    have := hC5.same hT4 (ne_kind h0.tal h0.lay (by decide))
    rw [hlong] at this
    exact this
  have hF5 : w5.heap[l.F]? = some (.cells (cellsF l.n (forms (s.longer X i).f)) 3 (0, 0)) := hC5.same (hC4.same ((hB3.block _ (lt_of_block hFb)).trans hFb) h0.ne.2.1) (ne_kind h0.frm h0.lay (by decide))
  refine ⟨rfl, h0.longer hi H.out.2.2.1 (fun hn a ha => ?_) hL5 (hsz _ h0.map.lt m1 m2 m3) hF5 (hsz _ (lt_of_block h0.ats) h0.ne.1.symm h0.ne.2.2.2.1 (ne_kind h0.ats h0.lay (by decide))) hT5 (hsz _ (lt_of_block h0.dus) h0.ne.2.2.1.symm h0.ne.2.2.2.2.2.symm (ne_kind h0.dus h0.lay (by decide))), ?_⟩
  · have hlt := h0.pb hn a ha
    have hlb := h0.lb
    have hbs := h0.base_le
    exact hsz _ (by omega) (by omega) (by omega) (by omega)
  · have t1 : Chg l.fp w w1 := Chg.of_below HB.out
    have t2 : Chg l.fp w w2 := t1.trans hC (fun k hk => Or.inl (Or.inr (Or.inl hk)))
    have t3 : Chg l.fp w w3 := t2.trans (Chg.of_below hB3 : Chg l.fp w2 w3) (fun k hk => Or.inl hk)
    have t4 : Chg l.fp w w4 := t3.trans hC4 (fun k hk => Or.inl (Or.inr (Or.inr (Or.inl hk))))
    exact t4.trans hC5 (fun k hk => Or.inl (Or.inl hk))
end Go.Proofs.YtbplmbignalbgaaDoor
