/- The walk of joining parts. Conditions: the parts lie as told. -/
import Derived.Test.YtihgefllmkicaaaDoorBgL
import Derived.Lib.AppendZeros
namespace Go.Proofs.YtihgefllmkicaaaDoor
open Go.RowKit Bg
set_option linter.unusedVariables false
set_option linter.unusedSimpArgs false


/-- Slices of digits, as values. -/
structure Parts (C : Nat) (w : World) (vs : List Value) (Ls : List (List Int)) : Prop where
  len : vs.length = Ls.length
  at_ : ∀ i, i < vs.length → Own 52 .u16 C w (vs.getD i undef) (Ls.getD i [])
theorem Parts.below {C : Nat} {w w' : World} {vs : List Value} {Ls : List (List Int)} (h : Parts C w vs Ls) (hb : Below w.heap.size w w') : Parts C w' vs Ls :=
  ⟨h.len, fun i hi => (h.at_ i hi).below hb⟩
theorem Parts.nil (C : Nat) (w : World) : Parts C w [] [] := ⟨rfl, fun i hi => absurd hi (Nat.not_lt_zero _)⟩
theorem Parts.snoc {C : Nat} {w : World} {vs : List Value} {Ls : List (List Int)} (h : Parts C w vs Ls) {v : Value} {L : List Int} (a : Own 52 .u16 C w v L) : Parts C w (vs ++ [v]) (Ls ++ [L]) := by
  refine ⟨by rw [List.length_append, List.length_append, h.len]; rfl, fun i hi => ?_⟩
  rw [List.length_append] at hi
  have hi' : i < vs.length + 1 := hi
  by_cases h1 : i < vs.length
  · have e1 : (vs ++ [v]).getD i undef = vs.getD i undef := by
      simp only [List.getD_eq_getElem?_getD]; rw [List.getElem?_append_left h1]
    have e2 : (Ls ++ [L]).getD i [] = Ls.getD i [] := by
      simp only [List.getD_eq_getElem?_getD]; rw [List.getElem?_append_left (by rw [← h.len]; exact h1)]
    rw [e1, e2]
    exact h.at_ i h1
  · have hz : i = vs.length := by omega
    subst hz
    have e1 : (vs ++ [v]).getD vs.length undef = v := by
      simp only [List.getD_eq_getElem?_getD]; rw [List.getElem?_append_right (Nat.le_refl _), Nat.sub_self]; rfl
    have e2 : (Ls ++ [L]).getD vs.length [] = L := by
      simp only [List.getD_eq_getElem?_getD]; rw [h.len, List.getElem?_append_right (Nat.le_refl _), Nat.sub_self]; rfl
    rw [e1, e2]
    exact a
theorem own_kinds {w : World} {B B' t t' m m' n n' : Nat} {v v' : Value} {xs ys : List Value} (h : w.ownsRow B t m v n xs) (k : w.ownsRow B' t' m' v' n' ys) (hne : t ≠ t') : v.ownBlock = none ∨ v.ownBlock ≠ v'.ownBlock := by
  rcases h.2 with ⟨rfl, -⟩ | ⟨g, cap, cur, rfl, -, hg, -⟩
  · exact Or.inl rfl
  · rcases k.2 with ⟨rfl, -⟩ | ⟨g', cap', cur', rfl, -, hg', -⟩
    · exact Or.inr (by simp [Value.ownBlock])
    · refine Or.inr (fun e => ?_)
      have e' : g = g' := by simpa [Value.ownBlock] using e
      subst e'
      rw [hg] at hg'
      simp only [Option.some.injEq, Obj.cells.injEq] at hg'
      exact hne hg'.2.1
/-- An own row of slices. -/
def RowS (B : Nat) (w : World) (v : Value) (vs : List Value) : Prop := w.ownsRow B 22 1 v vs.length vs
theorem RowS.nil (B : Nat) (w : World) : RowS B w (.slice none 0 0) [] := World.ownsRow_nil _ _ _ _
theorem RowS.below {B : Nat} {w w' : World} {v : Value} {vs : List Value} (h : RowS B w v vs) (hb : Below w.heap.size w w') : RowS B w' v vs := by
  rcases h.2 with h0 | ⟨g, cap, cur, hv, hB, hg, hcap, hmax, hcs, htake⟩
  · exact ⟨h.1, Or.inl h0⟩
  · exact ⟨h.1, Or.inr ⟨g, cap, cur, hv, hB, (hb.block g (lt_block hg)).trans hg, hcap, hmax, hcs, htake⟩⟩
theorem RowS.base {B B' : Nat} {w : World} {v : Value} {vs : List Value} (h : RowS B w v vs) (hB : B' ≤ B) : RowS B' w v vs := by
  rcases h.2 with h0 | ⟨g, cap, cur, hv, hBg, hr⟩
  · exact ⟨h.1, Or.inl h0⟩
  · exact ⟨h.1, Or.inr ⟨g, cap, cur, hv, Nat.le_trans hB hBg, hr⟩⟩
theorem RowS.form {B : Nat} {w : World} {v : Value} {vs : List Value} (h : RowS B w v vs) : ∃ p c, v = .slice p vs.length c ∧ (0 < vs.length → ∃ g, p = some ⟨g, 0, none⟩ ∧ B ≤ g ∧ g < w.heap.size ∧ ∀ i, i < vs.length → w.cell? ⟨g, i, none⟩ = some (vs.getD i undef)) := by
  rcases h.2 with ⟨rfl, h0⟩ | ⟨g, cap, cur, rfl, hB, hg, hcap, hmax, hcs, htake⟩
  · rw [h0]; exact ⟨none, 0, rfl, fun h => absurd h (Nat.lt_irrefl _)⟩
  · refine ⟨_, cap, rfl, fun _ => ⟨g, rfl, hB, lt_block hg, fun i hi => ?_⟩⟩
    rw [World.ownsRow.cellAt h i (by omega), List.getD_eq_getElem?_getD, List.getElem?_eq_getElem hi]
    rfl
theorem infoS : ∃ i, Tryd.prog.info? 22 = some i ∧ i.zero = some (.slice none 0 0) ∧ i.size = 1 ∧ i.bytes = 24 := by
  have h : (Tryd.prog.info? 22).map (fun i => (i.zero, i.size, i.bytes)) = some (some (.slice none 0 0), 1, 24) := by kernel_rfl
  obtain ⟨i, hi, hx⟩ := Option.map_eq_some_iff.1 h
  simp only [Prod.mk.injEq] at hx
  exact ⟨i, hi, hx⟩
/-- One slice, appended. -/
theorem app_slice {w : World} {B : Nat} {v : Value} {vs : List Value} {p : Option Addr} {n c : Nat} (h : RowS B w v vs) (hm : vs.length + 1 ≤ 1000000000) (hB : B ≤ w.heap.size) :
    ∃ v' w', (Builtin.append_ #[88, 88] 88 #[v, .slice (some ⟨w.heap.size, 0, none⟩) 1 1]).run Tryd.prog (w.alloc (.cells #[.slice p n c] 22)) = .ok v' w' ∧ RowS B w' v' (vs ++ [.slice p n c]) ∧ (w.alloc (.cells #[.slice p n c] 22)).grownBy w' v.ownBlock ∧ Below B w w' := by
  obtain ⟨i0, hi, hz0, hz1, hz2⟩ := infoS
  have hb : Below B w (w.alloc (.cells #[.slice p n c] 22)) := (Below.refl _ _).alloc hB _
  obtain ⟨v', w', hr, h1, h2, -⟩ := run_append_own (P := Tryd.prog) (w.alloc (.cells #[.slice p n c] 22)) B 88 88 22 i0 (.slice none 0 0) 1 24 Tryd.underlying88 hi hz0 hz1 hz2 rfl (by decide) v vs.length vs (World.ownsRow.alloc h _) ⟨w.heap.size, 0, none⟩ 1 1 [.slice p n c] rfl (fun j u hu => by
    have hj : j = 0 := by have := (List.getElem?_eq_some_iff.1 hu).1; have h1 : j < 1 := this; omega
    subst hj
    have e := heap_new w (.cells #[.slice p n c] 22)
    rw [add_at]
    unfold World.cell?
    rw [e]
    exact hu) (fun u hu => by rw [List.mem_singleton.1 hu]; rfl) (by unfold maxLen; omega) (by omega) (by simp; omega)
  refine ⟨v', w', hr, ?_, h2, hb.grown h2 (by simp; omega) (fun q hq => (World.ownsRow.lt h q hq).1)⟩
  unfold RowS
  rw [List.length_append]
  exact h1
/-- Parts stay where a row of slices grows. -/
theorem Parts.kept {C : Nat} {w w' : World} {B : Nat} {v : Value} {us vs : List Value} {Ls : List (List Int)} {o : Obj} (h : Parts C w vs Ls) (hr : RowS B w v us) (hg : (w.alloc o).grownBy w' v.ownBlock) : Parts C w' vs Ls :=
  ⟨h.len, fun i hi => by
    have h1 := (h.at_ i hi).alloc o
    exact World.ownsRow.kept h1 hg (own_kinds h1 (World.ownsRow.alloc hr o) (by decide))⟩
/-- Parts' worth, each one x times the one ahead. -/
def tot (R x : Int) : List (List Int) → Int
  | [] => 0
  | L :: r => val R L + x * tot R x r
theorem tot_app (R x : Int) : ∀ (a b : List (List Int)), tot R x (a ++ b) = tot R x a + x ^ a.length * tot R x b
  | [], b => by show tot R x b = 0 + x ^ 0 * tot R x b; rw [Int.pow_zero]; omega
  | L :: r, b => by
    show val R L + x * tot R x (r ++ b) = val R L + x * tot R x r + x ^ (r.length + 1) * tot R x b
    rw [tot_app R x r b, Int.mul_add, Int.pow_succ, Int.mul_comm (x ^ r.length) x, Int.mul_assoc]; omega
theorem tot_drop (R x : Int) (Ls : List (List Int)) {i : Nat} (hi : i < Ls.length) : tot R x (Ls.drop i) = val R (Ls.getD i []) + x * tot R x (Ls.drop (i + 1)) := by
  rw [List.drop_eq_getElem_cons hi, List.getD_eq_getElem?_getD, List.getElem?_eq_getElem hi]
  rfl
theorem tot_none (R x : Int) (Ls : List (List Int)) {i : Nat} (hi : Ls.length ≤ i) : tot R x (Ls.drop i) = 0 := by
  rw [List.drop_eq_nil_of_le hi]; rfl
open Go.RowKit Bg
set_option linter.unusedVariables false
set_option linter.unusedSimpArgs false


theorem tidy_len {R : Int} (hR : 1 ≤ R) {D : List Int} {n : Nat} (d : Dig R D) (t : Tidy D) (h : val R D < R ^ n) : D.length ≤ n := by
  by_cases h0 : D = []
  · rw [h0]; exact Nat.zero_le _
  have h1 := val_ge (by omega) d t h0
  rcases Nat.lt_or_ge n D.length with h3 | h3
  · exfalso
    have := pow_le hR (show n ≤ D.length - 1 by omega)
    omega
  · exact h3
def Good (R : Int) (K : Nat) (Ls : List (List Int)) : Prop := ∀ L, L ∈ Ls → Dig R L ∧ Tidy L ∧ L.length ≤ K
theorem Good.getD {R : Int} {K : Nat} {Ls : List (List Int)} (h : Good R K Ls) {i : Nat} (hi : i < Ls.length) : Dig R (Ls.getD i []) ∧ Tidy (Ls.getD i []) ∧ (Ls.getD i []).length ≤ K := by
  rw [List.getD_eq_getElem?_getD, List.getElem?_eq_getElem hi]
  exact h _ (List.getElem_mem hi)
theorem Good.snoc {R : Int} {K : Nat} {Ls : List (List Int)} (h : Good R K Ls) {L : List Int} (hL : Dig R L ∧ Tidy L ∧ L.length ≤ K) : Good R K (Ls ++ [L]) := fun x hx => (List.mem_append.1 hx).elim (h x) (fun h1 => by rw [List.mem_singleton.1 h1]; exact hL)
theorem Good.mono {R : Int} {K K' : Nat} {Ls : List (List Int)} (h : Good R K Ls) (hK : K ≤ K') : Good R K' Ls := fun L hL => ⟨(h L hL).1, (h L hL).2.1, Nat.le_trans (h L hL).2.2 hK⟩
/-- What has been joined, and what is to come. -/
structure Jn (R x : Int) (K : Nat) (Ls : List (List Int)) (j : Nat) (Ms : List (List Int)) : Prop where
  len : Ms.length = j
  good : Good R K Ms
  sum : tot R x Ls = tot R (x * x) Ms + (x * x) ^ j * tot R x (Ls.drop (2 * j))
theorem Jn.next {R x : Int} {K : Nat} {Ls : List (List Int)} {j : Nat} {Ms : List (List Int)} (h : Jn R x K Ls j Ms) (hj : 2 * j < Ls.length) {L : List Int} (hL : Dig R L ∧ Tidy L ∧ L.length ≤ K)
    (hv : val R L = val R (Ls.getD (2 * j) []) + (if 2 * j + 1 < Ls.length then val R (Ls.getD (2 * j + 1) []) * x else 0)) : Jn R x K Ls (j + 1) (Ms ++ [L]) := by
  refine ⟨by rw [List.length_append, h.len]; rfl, h.good.snoc hL, ?_⟩
  have e1 := tot_drop R x Ls hj
  have e0 : tot R (x * x) [L] = val R L := by show val R L + x * x * 0 = _; omega
  rw [h.sum, tot_app, h.len, e0, e1, hv]
  by_cases h2 : 2 * j + 1 < Ls.length
  · rw [if_pos h2, tot_drop R x Ls h2, show 2 * (j + 1) = 2 * j + 1 + 1 by omega, Int.pow_succ]
    obtain ⟨P, hP⟩ : ∃ P, P = (x * x) ^ j := ⟨_, rfl⟩
    obtain ⟨T, hT⟩ : ∃ T, T = tot R x (Ls.drop (2 * j + 1 + 1)) := ⟨_, rfl⟩
    obtain ⟨A, hA⟩ : ∃ A, A = val R (Ls.getD (2 * j) []) := ⟨_, rfl⟩
    obtain ⟨B, hB⟩ : ∃ B, B = val R (Ls.getD (2 * j + 1) []) := ⟨_, rfl⟩
    rw [← hP, ← hT, ← hA, ← hB]
    simp only [Int.mul_add, Int.mul_comm, Int.mul_left_comm, Int.mul_assoc, Int.add_assoc]
  · rw [if_neg h2, tot_none R x Ls (show Ls.length ≤ 2 * j + 1 by omega), tot_none R x Ls (show Ls.length ≤ 2 * (j + 1) by omega)]
    simp
set_option maxRecDepth 100000 in
set_option maxHeartbeats 4000000 in
theorem joined_at {w : World} {B0 C : Nat} (hC : C ≤ w.heap.size) {v0 : Value} {vs : List Value} {Ls : List (List Int)} {pw : Option Addr} {cw : Nat} {W : List Int} {R : Int} {K : Nat} (hrow : RowS B0 w v0 vs) (hparts : Parts C w vs Ls) (aW : Arg .u16 w pw cw W) (dW : Dig R W) (hg : Good R K Ls) (hK : K + W.length + 1 ≤ 1000000) (hn : Ls.length ≤ 1000000) (hR : 10000 ≤ R ∧ R ≤ 65536) :
    Calls Tryd.prog 63 #[v0, .slice pw W.length cw, .int .u64 R] w fun e w' => ∃ v' vs' Ms, e = .returned v' ∧ RowS w.heap.size w' v' vs' ∧ Parts C w' vs' Ms ∧ Good R (K + W.length + 1) Ms ∧ Ms.length = (Ls.length + 1) / 2 ∧ tot R (val R W * val R W) Ms = tot R (val R W) Ls ∧ Below w.heap.size w w' := by
  obtain ⟨p0, c0, rfl, hcell⟩ := hrow.form
  rw [hparts.len] at hcell ⊢
  have H := Lib.hid (And.intro hcell (And.intro hparts (And.intro aW (And.intro dW hg))))
  have wle := aW.le
  have wmx := aW.max
  clear hrow hcell hparts aW dW hg
  go_enter Tryd.func63, Tryd.ntmps63
  go_wp2_with fail
  go_loopw [7, 8] (fun v t wr => ∃ (j : Nat) (us : List Value) (Ms : List (List Int)), t = .int .i64 ((2 * j : Nat) : Int) ∧ 2 * j ≤ Ls.length + 1 ∧ Hid (Jn R (val R W) (K + W.length + 1) Ls j Ms ∧ RowS w.heap.size wr v us ∧ Parts C wr us Ms ∧ Below w.heap.size w wr)) (fun _ t _ => Ls.length + 2 - (intOf t).toNat)
  case atStart => exact ⟨0, [], [], rfl, by omega, ⟨rfl, fun L hL => (by cases hL), by rw [Int.pow_zero, Int.one_mul]; show _ = 0 + tot R (val R W) (Ls.drop 0); rw [List.drop_zero]; omega⟩, RowS.nil _ _, Parts.nil _ _, Below.refl _ _⟩
  case round =>
    obtain ⟨j, us, Ms, rfl, hj, hX⟩ := hrel
    obtain ⟨v7, hv7⟩ : ∃ v7, v7 = u7 := ⟨_, rfl⟩
    rw [← hv7] at hX ⊢
    clear hv7
    by_cases hlt : 2 * j < Ls.length
    · obtain ⟨i, hi⟩ : ∃ i, i = 2 * j := ⟨_, rfl⟩
      rw [← hi]
      have hil : i < Ls.length := by omega
      obtain ⟨g0, rfl, -, hg0, hc0⟩ := H.out.1 (by omega)
      have hvl : i < vs.length := by rw [H.out.2.1.len]; exact hil
      have o1 := H.out.2.1.at_ i hvl
      obtain ⟨p1, c1, hv1, a1, -⟩ := o1.arg
      have k1 := (hX.out.2.2.2.cell (p := ⟨g0, i, none⟩) hg0).trans (hc0 i hil)
      rw [hv1] at k1
      have gd1 := H.out.2.2.2.2.getD hil
      have b1 := a1.below hX.out.2.2.2
      have d1 : decide ((i : Int) < (Ls.length : Int)) = true := by rw [decide_eq_true_eq]; omega
      have f1 : (i : Int) < (Ls.length : Int) := by omega
      obtain ⟨L1, hL1⟩ : ∃ L1, L1 = Ls.getD i [] := ⟨_, rfl⟩
      rw [← hL1] at k1 gd1 b1
      have HL := Lib.hid (And.intro hL1 (And.intro gd1 (And.intro b1 hi)))
      have hv1' := Lib.hid hv1
      rw [← hL1] at hv1' o1
      clear hL1 gd1 b1 hi hv1 a1 hc0
      by_cases h2 : i + 1 < Ls.length
      · have hvl2 : i + 1 < vs.length := by rw [H.out.2.1.len]; exact h2
        obtain ⟨p2, c2, hv2, a2, -⟩ := (H.out.2.1.at_ (i + 1) hvl2).arg
        obtain ⟨g0', hg0e, -, -, hc0⟩ := H.out.1 (by omega)
        cases hg0e
        have k2 := (hX.out.2.2.2.cell (p := ⟨g0, i + 1, none⟩) hg0).trans (hc0 (i + 1) h2)
        rw [hv2] at k2
        have gd2 := H.out.2.2.2.2.getD h2
        have b2 := a2.below hX.out.2.2.2
        have d2 : decide ((i : Int) + 1 < (Ls.length : Int)) = true := by rw [decide_eq_true_eq]; omega
        have f2 : (i : Int) + 1 < (Ls.length : Int) := by omega
        obtain ⟨L2, hL2⟩ : ∃ L2, L2 = Ls.getD (i + 1) [] := ⟨_, rfl⟩
        rw [← hL2] at k2 gd2 b2
        have T1 := Lib.hid (times_at b2 (H.out.2.2.1.below hX.out.2.2.2) (gd2.1.mono hR.2) (H.out.2.2.2.1.mono hR.2) (by omega) (by omega) hR)
        have HL2 := Lib.hid (And.intro hL2 gd2)
        clear hL2 gd2 b2 hv2 a2 hc0
        go_wp2_with fail
        refine T1.out.mono ?_
        rintro e w2 ⟨v2, D, rfl, oD, dD, tD, vD, B2⟩
        obtain ⟨p3, c3, rfl, a3, -⟩ := oD.arg
        have hDl : D.length ≤ K + W.length := by
          refine tidy_len (by omega) dD tD ?_
          have m1 := val_lt (show 0 < R by omega) HL2.out.2.1
          have m2 := val_lt (show 0 < R by omega) H.out.2.2.2.1
          have m3 := val_nonneg (show 0 ≤ R by omega) HL2.out.2.1
          have m4 := val_nonneg (show 0 ≤ R by omega) H.out.2.2.2.1
          have m5 := pow_le (show 1 ≤ R by omega) HL2.out.2.2.2
          have m6 := pow_pos' (show 0 < R by omega) W.length
          have m7 : val R L2 * val R W ≤ val R L2 * R ^ W.length := Int.mul_le_mul_of_nonneg_left (by omega) m3
          have m8 : val R L2 * R ^ W.length < R ^ K * R ^ W.length := Int.mul_lt_mul_of_pos_right (by omega) m6
          rw [vD, Int.pow_add]
          omega
        have P1 := Lib.hid (plus_at (HL.out.2.2.1.below B2) a3 (HL.out.2.1.1.mono hR.2) (dD.mono hR.2) (by have := HL.out.2.1.2.2; omega) (by omega) hR)
        have HB2 := Lib.hid B2
        have HD := Lib.hid (And.intro vD (And.intro (hX.out.2.2.2.trans (B2.mono hX.out.2.2.2.size)) (And.intro dD hDl)))
        clear oD dD tD vD B2 a3 hDl k1 k2
        go_wp2_with fail
        refine P1.out.mono ?_
        rintro e w3 ⟨v3, E, rfl, oE, dE, tE, vE, B3⟩
        obtain ⟨p4, c4, rfl, a4, -⟩ := oE.arg
        have hb3 := HD.out.2.1.trans (B3.mono HD.out.2.1.size)
        have B23 : Below wr.heap.size wr w3 := (show Below wr.heap.size wr w2 from HB2.out).trans (B3.mono HB2.out.size)
        have hEl : E.length ≤ K + W.length + 1 := by
          refine tidy_len (by omega) dE tE ?_
          have m1 := val_lt (show 0 < R by omega) HL.out.2.1.1
          have m2 := val_lt (show 0 < R by omega) HD.out.2.2.1
          have m3 := pow_le (show 1 ≤ R by omega) (show L1.length ≤ K + W.length by have := HL.out.2.1.2.2; omega)
          have m4 := pow_le (show 1 ≤ R by omega) HD.out.2.2.2
          have m5 := pow_pos' (show 0 < R by omega) (K + W.length)
          have m6 : R ^ (K + W.length) * 2 ≤ R ^ (K + W.length) * R := Int.mul_le_mul_of_nonneg_left (by omega) (Int.le_of_lt m5)
          rw [vE, Int.pow_succ]
          omega
        have hr3 := hX.out.2.1.below B23
        have hp3 := (hX.out.2.2.1.below B23).snoc (oE.base (Nat.le_trans hC HD.out.2.1.size))
        obtain ⟨v5, w5, hr5, ho5, hg5, hb5⟩ := app_slice (p := p4) (n := E.length) (c := c4) hr3 (by have := hX.out.2.2.1.len; have := hX.out.1.len; have := HL.out.2.2.2; omega) hb3.size
        have hp5 := hp3.kept hr3 hg5
        have hj5 := hX.out.1.next (L := E) (by rw [← HL.out.2.2.2]; exact hil) ⟨dE, tE, hEl⟩ (by rw [if_pos (by rw [← HL.out.2.2.2]; exact h2), ← HL.out.2.2.2, ← HL.out.1, ← HL2.out.1, vE, HD.out.1])
        have HR := Lib.hid (And.intro hr5 (And.intro ho5 (And.intro hp5 (And.intro hj5 (hb3.trans hb5)))))
        clear oE dE tE vE B3 hb3 B23 hEl hr3 hp3 hr5 ho5 hg5 hb5 hp5 hj5 a4
        go_wp2_with (at_builtin; refine Lib.wpList_append_run _ rfl _ _ 88 88 rfl v7 (.slice (some ⟨w3.heap.size, 0, none⟩) 1 1) rfl rfl v5 w5 HR.out.1 ?_)
        go_roundw
        case rel =>
          have hij := HL.out.2.2.2
          exact ⟨j + 1, _, _, by first | (rw [hij]; congr 1) | (rw [hij]; congr 1; omega), by omega, HR.out.2.2.2.1, HR.out.2.1, HR.out.2.2.1, HR.out.2.2.2.2⟩
        case measure => simp [intOf]; omega
      · have d2 : decide ((i : Int) + 1 < (Ls.length : Int)) = false := by rw [decide_eq_false_iff_not]; omega
        have o1' := (o1.below hX.out.2.2.2)
        rw [hv1'.out] at o1'
        have hp3 := hX.out.2.2.1.snoc o1'
        obtain ⟨v5, w5, hr5, ho5, hg5, hb5⟩ := app_slice (p := p1) (n := L1.length) (c := c1) hX.out.2.1 (by have := hX.out.2.2.1.len; have := hX.out.1.len; have := HL.out.2.2.2; omega) hX.out.2.2.2.size
        have hp5 := hp3.kept hX.out.2.1 hg5
        have hj5 := hX.out.1.next (L := L1) (by rw [← HL.out.2.2.2]; exact hil) ⟨HL.out.2.1.1, HL.out.2.1.2.1, by have := HL.out.2.1.2.2; omega⟩ (by rw [if_neg (by rw [← HL.out.2.2.2]; exact h2), ← HL.out.2.2.2, ← HL.out.1]; omega)
        have HR := Lib.hid (And.intro hr5 (And.intro ho5 (And.intro hp5 (And.intro hj5 (hX.out.2.2.2.trans hb5)))))
        clear o1' hp3 hr5 ho5 hg5 hb5 hp5 hj5
        go_wp2_with (at_builtin; refine Lib.wpList_append_run _ rfl _ _ 88 88 rfl v7 (.slice (some ⟨wr.heap.size, 0, none⟩) 1 1) rfl rfl v5 w5 HR.out.1 ?_)
        go_roundw
        case rel =>
          have hij := HL.out.2.2.2
          exact ⟨j + 1, _, _, by first | (rw [hij]; congr 1) | (rw [hij]; congr 1; omega), by omega, HR.out.2.2.2.1, HR.out.2.1, HR.out.2.2.1, HR.out.2.2.2.2⟩
        case measure => simp [intOf]; omega
    · have d1 : decide (((2 * j : Nat) : Int) < (Ls.length : Int)) = false := by rw [decide_eq_false_iff_not]; omega
      go_wp2_with fail
      go_ret
      have hs := hX.out.1.sum
      rw [tot_none R (val R W) Ls (show Ls.length ≤ 2 * j by omega), Int.mul_zero, Int.add_zero] at hs
      exact ⟨_, us, Ms, rfl, hX.out.2.1, hX.out.2.2.1, hX.out.1.good, by rw [hX.out.1.len]; omega, hs.symm, hX.out.2.2.2⟩
end Go.Proofs.YtihgefllmkicaaaDoor
