/- Contracts: the document's number read from a text. Conditions: the text is not too long. -/
import Derived.Test.YtihgefllmkicaaaDoorRbE
import Derived.Test.YtihgefllmkicaaaDoorBbH
namespace Go.Proofs.YtihgefllmkicaaaDoor
open Go.RowKit Bg
set_option linter.unusedVariables false
set_option linter.unusedSimpArgs false


def RParse (w' : World) (e : Ending) (s : ByteArray) : Prop :=
  (isDec (pBody s) = true ∧ ∃ t q d D, e = .returned (.tuple #[.agg #[.bool t, .slice q D.length d], .int .i64 0]) ∧ Dn w' t q d D (pVal s) ∧ D.length ≤ s.size) ∨
  (isDec (pBody s) = false ∧ e = .returned (.tuple #[.agg #[.bool false, .slice none 0 0], .int .i64 4]))
/-- What has been read when the bytes from m on are done. -/
structure Rd (L : List Int) (m : Nat) (D : List Int) : Prop where
  len : D.length + m = L.length
  dig : Dig 10 D
  val : Bg.val 10 D = decv (L.drop m)
  ok : ∀ i, m ≤ i → i < L.length → okDig (L.getD i 0) = true
theorem Rd.next {L : List Int} {m : Nat} {D : List Int} (h : Rd L (m + 1) D) (hk : okDig (L.getD m 0) = true) : Rd L m (D ++ [L.getD m 0 - 48]) := by
  have hm : m < L.length := by have := h.len; omega
  have hk2 : 48 ≤ L.getD m 0 ∧ L.getD m 0 ≤ 57 := by unfold okDig at hk; rw [decide_eq_true_eq] at hk; exact hk
  refine ⟨by rw [List.length_append]; have := h.len; simp; omega, h.dig.app (Dig.one (by omega)), ?_, fun i hi hl => ?_⟩
  · rw [val_snoc, h.val, List.drop_eq_getElem_cons hm]
    have e1 : L[m] = L.getD m 0 := by simp [List.getD, hm]
    have e2 : decv (L[m] :: L.drop (m + 1)) = (L[m] - 48) * 10 ^ (L.drop (m + 1)).length + decv (L.drop (m + 1)) := by
      show (L.drop (m + 1)).foldl _ (0 * 10 + (L[m] - 48)) = _
      rw [decv_acc, Int.zero_mul, Int.zero_add]
    rw [e2, ← e1, List.length_drop, show L.length - (m + 1) = D.length by have := h.len; omega, Int.mul_comm, Int.add_comm]
  · by_cases he : i = m
    · rw [he]; exact hk
    · exact h.ok i (by omega) hl
theorem rd_dec {s : ByteArray} {f0 : Nat} {D : List Int} (h : Rd (byL s) f0 D) (hb : (pBody s).data.toList = s.data.toList.drop f0) (hf : f0 < s.size) : isDec (pBody s) = true ∧ Bg.val 10 D = decv (byL (pBody s)) := by
  have hl : byL (pBody s) = (byL s).drop f0 := by rw [byL_list, hb]; unfold byI byL; rw [List.map_drop]
  refine ⟨?_, by rw [hl]; exact h.val⟩
  unfold isDec
  rw [Bool.and_eq_true]
  refine ⟨?_, ?_⟩
  · rw [decide_eq_true_eq, size_list, hb, List.length_drop, ← size_list]; omega
  · rw [hl]
    refine all_of (fun k hk => ?_)
    rw [List.length_drop] at hk
    have := h.ok (f0 + k) (by omega) (by omega)
    rw [List.getD_eq_getElem?_getD, List.getElem?_drop, ← List.getD_eq_getElem?_getD]
    exact this
theorem rd_bad {s : ByteArray} {f0 j : Nat} (hb : (pBody s).data.toList = s.data.toList.drop f0) (h1 : f0 ≤ j) (h2 : j < s.size) (h3 : ¬ (48 ≤ (byL s).getD j 0 ∧ (byL s).getD j 0 ≤ 57)) : isDec (pBody s) = false := by
  have hl : byL (pBody s) = (byL s).drop f0 := by rw [byL_list, hb]; unfold byI byL; rw [List.map_drop]
  unfold isDec
  have := not_all (l := byL (pBody s)) (k := j - f0) (by rw [hl, List.length_drop, byL_len]; omega) (by
    rw [hl, List.getD_eq_getElem?_getD, List.getElem?_drop, ← List.getD_eq_getElem?_getD, show f0 + (j - f0) = j by omega]
    unfold okDig
    rw [decide_eq_false_iff_not]
    exact h3)
  rw [this, Bool.and_false]
theorem rd_none {s : ByteArray} {f0 : Nat} (hb : (pBody s).data.toList = s.data.toList.drop f0) (h : s.size ≤ f0) : isDec (pBody s) = false := by
  rw [isDec_list, hb, List.drop_eq_nil_of_le (by rw [← size_list]; exact h)]
  rfl
theorem box_kept {B b : Nat} {a w : World} (h : Below B a w) (hb : B ≤ b) (u v : Value) : Below B a ((w.setCell ⟨b, 0, none⟩ u).setCell ⟨b, 1, none⟩ v) := (h.setCell (p := ⟨b, 0, none⟩) hb _).setCell (p := ⟨b, 1, none⟩) hb _
theorem Arg.put {k : IntKind} {w : World} {p : Option Addr} {c : Nat} {l : List Int} (h : Arg k w p c l) {b : Nat} (hp : ∀ g o, p = some ⟨g, o, none⟩ → g ≠ b) (u v : Value) : Arg k ((w.setCell ⟨b, 0, none⟩ u).setCell ⟨b, 1, none⟩ v) p c l :=
  ⟨h.nil, h.le, h.max, fun i hi => by
    obtain ⟨g, off, he, hc⟩ := h.cell i hi
    refine ⟨g, off, he, (World.cell?_of_block (w := w) ?_).trans hc⟩
    exact (Below.heap_setCell _ _ _ _ (fun e => hp g off he e)).trans (Below.heap_setCell _ _ _ _ (fun e => hp g off he e))⟩
set_option maxRecDepth 100000 in
set_option maxHeartbeats 40000000 in
theorem rparse_at (s : ByteArray) (hs : s.size ≤ 1000000) (w : World) : Calls Tryd.prog 23 #[.string s] w fun e w' => RParse w' e s ∧ Below w.heap.size w w' := by
  obtain ⟨W, hW⟩ : ∃ W, W = w.alloc (.cells #[.bool false, .slice none 0 0] 28) := ⟨_, rfl⟩
  have hB : Below w.heap.size w W := by rw [hW]; exact (Below.refl _ _).alloc (Nat.le_refl _) _
  have hx : Box W w.heap.size (.bool false) (.slice none 0 0) := by rw [hW]; exact box_fresh 28 _ _ _ rfl
  have hS : W.heap.size = w.heap.size + 1 := by rw [hW]; simp
  have HH := Lib.hid (And.intro hB (And.intro hx hS))
  have hbl := pBody_list s
  clear hB hx hS
  go_enter Tryd.func23, Tryd.ntmps23
  by_cases h0 : 0 < s.size
  · have hi : (0 : Int) < (s.size : Int) := by omega
    have hg := byL_get s h0
    have q0 : decide ((s.size : Int) > 0) = true := by rw [decide_eq_true_eq]; omega
    by_cases h45 : (s[0].toNat : Int) = 45
    · have hpn : pNeg s = true := by unfold pNeg; rw [decide_eq_true_eq]; exact ⟨h0, hg.trans h45⟩
      rw [if_pos ⟨h0, Or.inl (hg.trans h45)⟩] at hbl
      have HP := Lib.hid (And.intro hbl hpn)
      have q1 : decide ((s[0].toNat : Int) = 45) = true := by simp [h45]
      have q3 : ((s[0].toNat : Int) == 45) = true := by simp [h45]
      clear hbl hpn hg h45
      by_cases hz : s.size = 1
      · have q5 : decide ((s.size : Int) = 1) = true := by rw [decide_eq_true_eq]; omega
        have q6 : ((s.size : Int) == 1) = true := q5
        have hx := HH.out.2.1
        have hbad := Lib.hid (rd_none HP.out.1 (by omega))
        have hB := HH.out.1
        rw [hW] at hx hB
        have HB := Lib.hid hB
        clear hB
        have k7 := Box.first hx (.bool false)
        have k6 := (hx.store (.bool false) (.slice none 0 0)).2
        have hf0 := hx.f0
        have hf1 := hx.f1
        have hc0 := hx.c0
        have hc1 := hx.c1
        clear hx
        go_wp2_with fail
        refine bodyPost_ret (v := .tuple #[.agg #[.bool false, .slice none 0 0], .int .i64 4]) (by simp [results, Tryd.results23, go_sem, k6, k7]) rfl ⟨Or.inr ⟨hbad.out, rfl⟩, (by first | exact box_kept HB.out (Nat.le_refl _) _ _ | exact HB.out)⟩
      · have q5 : decide ((s.size : Int) = 1) = false := by rw [decide_eq_false_iff_not]; omega
        have q6 : ((s.size : Int) == 1) = false := q5
        go_wp2_with fail
        rw [← hW]
        clear hW q5 q6 q1 q3 hi
        go_loopw [6, 7] (fun v t wr => ∃ (m : Nat) (D : List Int), t = .int .i64 ((m : Int) - 1) ∧ 1 ≤ m ∧ m ≤ s.size ∧ Hid (Rd (byL s) m D ∧ Own 3 .i64 W.heap.size wr v D ∧ Below W.heap.size W wr)) (fun _ t _ => (intOf t + 1).toNat)
        case atStart => exact ⟨s.size, [], rfl, by omega, Nat.le_refl _, ⟨by rw [byL_len]; simp, Dig.nil, by rw [List.drop_eq_nil_of_le (by rw [byL_len]; exact Nat.le_refl _)]; rfl, fun i hi hl => by rw [byL_len] at hl; omega⟩, Own.nil _ _ _ _, Below.refl _ _⟩
        case round =>
          obtain ⟨m, D, rfl, hm1, hm2, hS⟩ := hrel
          obtain ⟨v3, hv3⟩ : ∃ v3, v3 = u6 := ⟨_, rfl⟩
          rw [← hv3] at hS ⊢
          clear hv3
          have hx := HH.out.2.1.below hS.out.2.2
          have HB := Lib.hid (HH.out.1.trans (hS.out.2.2.mono HH.out.1.size))
          by_cases hgo : 1 + 1 ≤ m
          · obtain ⟨j, rfl⟩ : ∃ j, m = j + 1 := ⟨m - 1, by omega⟩
            have hj : j < s.size := by omega
            have e6 : ((j + 1 : Nat) : Int) - 1 = j := by omega
            have d1 : decide ((j : Int) ≥ 1) = true := by rw [decide_eq_true_eq]; omega
            have d2 : (j : Int) < (s.size : Int) := by omega
            have hgj := byL_get s hj
            have hby := byL_byte s j
            have HJ := Lib.hid (And.intro hgj hgo)
            rw [e6]
            by_cases hlo : (s[j].toNat : Int) < 48
            · have r1 : decide ((s[j].toNat : Int) < 48) = true := by simp [hlo]
              have hbad := Lib.hid (rd_bad (j := j) HP.out.1 (by have := HJ.out.2; omega) hj (by rw [hgj]; omega))
              clear hgj hby hgo
              have k7 := Box.first hx (.bool false)
              have k6 := (hx.store (.bool false) (.slice none 0 0)).2
              have hf0 := hx.f0
              have hf1 := hx.f1
              have hc0 := hx.c0
              have hc1 := hx.c1
              clear hx
              go_wp2_with fail
              refine bodyPost_ret (v := .tuple #[.agg #[.bool false, .slice none 0 0], .int .i64 4]) (by simp [results, Tryd.results23, go_sem, k6, k7]) rfl ⟨Or.inr ⟨hbad.out, rfl⟩, (by first | exact box_kept HB.out (Nat.le_refl _) _ _ | exact HB.out)⟩
            · have r1 : decide ((s[j].toNat : Int) < 48) = false := by simp [hlo]
              by_cases hhi : (s[j].toNat : Int) > 57
              · have r2 : decide ((s[j].toNat : Int) > 57) = true := by simp [hhi]
                have hbad := Lib.hid (rd_bad (j := j) HP.out.1 (by have := HJ.out.2; omega) hj (by rw [hgj]; omega))
                clear hgj hby hgo
                have k7 := Box.first hx (.bool false)
                have k6 := (hx.store (.bool false) (.slice none 0 0)).2
                have hf0 := hx.f0
                have hf1 := hx.f1
                have hc0 := hx.c0
                have hc1 := hx.c1
                clear hx
                go_wp2_with fail
                refine bodyPost_ret (v := .tuple #[.agg #[.bool false, .slice none 0 0], .int .i64 4]) (by simp [results, Tryd.results23, go_sem, k6, k7]) rfl ⟨Or.inr ⟨hbad.out, rfl⟩, (by first | exact box_kept HB.out (Nat.le_refl _) _ _ | exact HB.out)⟩
              · have r2 : decide ((s[j].toNat : Int) > 57) = false := by simp [hhi]
                have hnx := hS.out.1.next (by unfold okDig; rw [decide_eq_true_eq, hgj]; omega)
                rw [hgj] at hnx hby
                obtain ⟨z, hz⟩ : ∃ z : Int, z = (s[j].toNat : Int) := ⟨_, rfl⟩
                have e1 : IntKind.u8.wrap ((s[j].toNat : Int) - 48) = (s[j].toNat : Int) - 48 := by rw [IntKind.wrap_u8]; omega
                have e2 : ((s[j].toNat : Int) - 48) % 256 = (s[j].toNat : Int) - 48 := by omega
                have hDl := hS.out.1.len
                rw [byL_len] at hDl
                obtain ⟨v6, w6, hr6, ho6, hb6⟩ := app_two ktI (x := (s[j].toNat : Int) - 48) hS.out.2.1 (by omega) hS.out.2.2.size
                have HX := Lib.hid (And.intro hnx (And.intro ho6 (And.intro (hS.out.2.2.trans hb6) hr6)))
                clear hnx ho6 hb6 hr6 hDl hz hgj hby hgo hx
                go_wp2_with (at_builtin; refine Lib.wpList_append_run _ rfl _ _ 26 26 rfl v3 (.slice (some ⟨wr.heap.size, 0, none⟩) 1 1) rfl rfl v6 w6 HX.out.2.2.2 ?_)
                go_roundw
                case rel => exact ⟨j, _, rfl, by have := HJ.out.2; omega, by omega, HX.out.1, HX.out.2.1, HX.out.2.2.1⟩
                case measure => simp [intOf]
          · have hm : m = 1 := by omega
            have hD := rd_dec (f0 := 1) (by rw [← hm]; exact hS.out.1) HP.out.1 (by omega)
            have hDl := hS.out.1.len
            rw [byL_len] at hDl
            subst hm
            have d1 : decide (((1 : Nat) : Int) - 1 ≥ 1) = false := by decide
            have d3 : ((1 : Nat) : Int) - 1 = 0 := rfl
            have d4 : decide ((0 : Int) ≥ 1) = false := by decide
            rw [d3]
            obtain ⟨p3, c3, rfl, a3, hp3⟩ := hS.out.2.1.arg
            have T := Lib.hid (made_at true a3)
            have HZ := Lib.hid (And.intro hS (And.intro hD (And.intro a3 (And.intro hp3 (And.intro hx hDl)))))
            clear hS hD a3 hp3 hx hgo hDl hm1 hm2
            go_wp2_with fail
            refine T.out.mono ?_
            rintro e w5 ⟨rfl, B5⟩
            obtain ⟨tn, htn⟩ : ∃ tn, tn = tneg true D := ⟨_, rfl⟩
            rw [← htn]
            have hx5 := HZ.out.2.2.2.2.1.below B5
            have k7 := Box.first hx5 (.bool tn)
            have k6 := (hx5.store (.bool tn) (.slice p3 (tdig D).length c3)).2
            have hf0 := hx5.f0
            have hf1 := hx5.f1
            have hc0 := hx5.c0
            have hc1 := hx5.c1
            have H5 := Lib.hid (And.intro htn B5)
            clear htn B5 hx5 d1 d4
            go_wp2_with fail
            refine bodyPost_ret (v := .tuple #[.agg #[.bool tn, .slice p3 (tdig D).length c3], .int .i64 0]) (by simp [results, Tryd.results23, go_sem, k6, k7]) rfl ⟨Or.inl ⟨HZ.out.2.1.1, tn, p3, c3, tdig D, rfl, ⟨?_, ?_, ?_⟩, ?_⟩, ?_⟩
            · refine ((HZ.out.2.2.1.below H5.out.2).take _).put (fun g o he hg => ?_) _ _
              rcases HZ.out.2.2.2.1 with h | ⟨g', h, hg', -⟩
              · rw [h] at he; cases he
              · rw [h] at he; cases he
                have := HH.out.2.2
                omega
            · rw [H5.out.1]; exact (can_made (by decide) HZ.out.1.out.1.dig).1
            · rw [H5.out.1]
              refine (can_made (by decide) HZ.out.1.out.1.dig).2.trans ?_
              unfold nv pVal
              rw [HP.out.2, HZ.out.2.1.2]
            · have := tdig_len D
              have := trimN_le D D.length
              have := HZ.out.2.2.2.2.2
              omega
            · exact box_kept (HB.out.trans (H5.out.2.mono HB.out.size)) (Nat.le_refl _) _ _
    · have hpn : pNeg s = false := by unfold pNeg; rw [decide_eq_false_iff_not]; exact fun h => h45 (by rw [← hg]; exact h.2)
      have q1 : decide ((s[0].toNat : Int) = 45) = false := by simp [h45]
      have q3 : ((s[0].toNat : Int) == 45) = false := by simp [h45]
      by_cases h43 : (s[0].toNat : Int) = 43
      · rw [if_pos ⟨h0, Or.inr (hg.trans h43)⟩] at hbl
        have HP := Lib.hid (And.intro hbl hpn)
        have q2 : decide ((s[0].toNat : Int) = 43) = true := by simp [h43]
        have q4 : ((s[0].toNat : Int) == 43) = true := by simp [h43]
        clear hbl hpn hg h45 h43
        by_cases hz : s.size = 1
        · have q5 : decide ((s.size : Int) = 1) = true := by rw [decide_eq_true_eq]; omega
          have q6 : ((s.size : Int) == 1) = true := q5
          have hx := HH.out.2.1
          have hbad := Lib.hid (rd_none HP.out.1 (by omega))
          have hB := HH.out.1
          rw [hW] at hx hB
          have HB := Lib.hid hB
          clear hB
          have k7 := Box.first hx (.bool false)
          have k6 := (hx.store (.bool false) (.slice none 0 0)).2
          have hf0 := hx.f0
          have hf1 := hx.f1
          have hc0 := hx.c0
          have hc1 := hx.c1
          clear hx
          go_wp2_with fail
          refine bodyPost_ret (v := .tuple #[.agg #[.bool false, .slice none 0 0], .int .i64 4]) (by simp [results, Tryd.results23, go_sem, k6, k7]) rfl ⟨Or.inr ⟨hbad.out, rfl⟩, (by first | exact box_kept HB.out (Nat.le_refl _) _ _ | exact HB.out)⟩
        · have q5 : decide ((s.size : Int) = 1) = false := by rw [decide_eq_false_iff_not]; omega
          have q6 : ((s.size : Int) == 1) = false := q5
          go_wp2_with fail
          rw [← hW]
          clear hW q5 q6 q1 q2 q3 q4 hi
          go_loopw [6, 7] (fun v t wr => ∃ (m : Nat) (D : List Int), t = .int .i64 ((m : Int) - 1) ∧ 1 ≤ m ∧ m ≤ s.size ∧ Hid (Rd (byL s) m D ∧ Own 3 .i64 W.heap.size wr v D ∧ Below W.heap.size W wr)) (fun _ t _ => (intOf t + 1).toNat)
          case atStart => exact ⟨s.size, [], rfl, by omega, Nat.le_refl _, ⟨by rw [byL_len]; simp, Dig.nil, by rw [List.drop_eq_nil_of_le (by rw [byL_len]; exact Nat.le_refl _)]; rfl, fun i hi hl => by rw [byL_len] at hl; omega⟩, Own.nil _ _ _ _, Below.refl _ _⟩
          case round =>
            obtain ⟨m, D, rfl, hm1, hm2, hS⟩ := hrel
            obtain ⟨v3, hv3⟩ : ∃ v3, v3 = u6 := ⟨_, rfl⟩
            rw [← hv3] at hS ⊢
            clear hv3
            have hx := HH.out.2.1.below hS.out.2.2
            have HB := Lib.hid (HH.out.1.trans (hS.out.2.2.mono HH.out.1.size))
            by_cases hgo : 1 + 1 ≤ m
            · obtain ⟨j, rfl⟩ : ∃ j, m = j + 1 := ⟨m - 1, by omega⟩
              have hj : j < s.size := by omega
              have e6 : ((j + 1 : Nat) : Int) - 1 = j := by omega
              have d1 : decide ((j : Int) ≥ 1) = true := by rw [decide_eq_true_eq]; omega
              have d2 : (j : Int) < (s.size : Int) := by omega
              have hgj := byL_get s hj
              have hby := byL_byte s j
              have HJ := Lib.hid (And.intro hgj hgo)
              rw [e6]
              by_cases hlo : (s[j].toNat : Int) < 48
              · have r1 : decide ((s[j].toNat : Int) < 48) = true := by simp [hlo]
                have hbad := Lib.hid (rd_bad (j := j) HP.out.1 (by have := HJ.out.2; omega) hj (by rw [hgj]; omega))
                clear hgj hby hgo
                have k7 := Box.first hx (.bool false)
                have k6 := (hx.store (.bool false) (.slice none 0 0)).2
                have hf0 := hx.f0
                have hf1 := hx.f1
                have hc0 := hx.c0
                have hc1 := hx.c1
                clear hx
                go_wp2_with fail
                refine bodyPost_ret (v := .tuple #[.agg #[.bool false, .slice none 0 0], .int .i64 4]) (by simp [results, Tryd.results23, go_sem, k6, k7]) rfl ⟨Or.inr ⟨hbad.out, rfl⟩, (by first | exact box_kept HB.out (Nat.le_refl _) _ _ | exact HB.out)⟩
              · have r1 : decide ((s[j].toNat : Int) < 48) = false := by simp [hlo]
                by_cases hhi : (s[j].toNat : Int) > 57
                · have r2 : decide ((s[j].toNat : Int) > 57) = true := by simp [hhi]
                  have hbad := Lib.hid (rd_bad (j := j) HP.out.1 (by have := HJ.out.2; omega) hj (by rw [hgj]; omega))
                  clear hgj hby hgo
                  have k7 := Box.first hx (.bool false)
                  have k6 := (hx.store (.bool false) (.slice none 0 0)).2
                  have hf0 := hx.f0
                  have hf1 := hx.f1
                  have hc0 := hx.c0
                  have hc1 := hx.c1
                  clear hx
                  go_wp2_with fail
                  refine bodyPost_ret (v := .tuple #[.agg #[.bool false, .slice none 0 0], .int .i64 4]) (by simp [results, Tryd.results23, go_sem, k6, k7]) rfl ⟨Or.inr ⟨hbad.out, rfl⟩, (by first | exact box_kept HB.out (Nat.le_refl _) _ _ | exact HB.out)⟩
                · have r2 : decide ((s[j].toNat : Int) > 57) = false := by simp [hhi]
                  have hnx := hS.out.1.next (by unfold okDig; rw [decide_eq_true_eq, hgj]; omega)
                  rw [hgj] at hnx hby
                  obtain ⟨z, hz⟩ : ∃ z : Int, z = (s[j].toNat : Int) := ⟨_, rfl⟩
                  have e1 : IntKind.u8.wrap ((s[j].toNat : Int) - 48) = (s[j].toNat : Int) - 48 := by rw [IntKind.wrap_u8]; omega
                  have e2 : ((s[j].toNat : Int) - 48) % 256 = (s[j].toNat : Int) - 48 := by omega
                  have hDl := hS.out.1.len
                  rw [byL_len] at hDl
                  obtain ⟨v6, w6, hr6, ho6, hb6⟩ := app_two ktI (x := (s[j].toNat : Int) - 48) hS.out.2.1 (by omega) hS.out.2.2.size
                  have HX := Lib.hid (And.intro hnx (And.intro ho6 (And.intro (hS.out.2.2.trans hb6) hr6)))
                  clear hnx ho6 hb6 hr6 hDl hz hgj hby hgo hx
                  go_wp2_with (at_builtin; refine Lib.wpList_append_run _ rfl _ _ 26 26 rfl v3 (.slice (some ⟨wr.heap.size, 0, none⟩) 1 1) rfl rfl v6 w6 HX.out.2.2.2 ?_)
                  go_roundw
                  case rel => exact ⟨j, _, rfl, by have := HJ.out.2; omega, by omega, HX.out.1, HX.out.2.1, HX.out.2.2.1⟩
                  case measure => simp [intOf]
            · have hm : m = 1 := by omega
              have hD := rd_dec (f0 := 1) (by rw [← hm]; exact hS.out.1) HP.out.1 (by omega)
              have hDl := hS.out.1.len
              rw [byL_len] at hDl
              subst hm
              have d1 : decide (((1 : Nat) : Int) - 1 ≥ 1) = false := by decide
              have d3 : ((1 : Nat) : Int) - 1 = 0 := rfl
              have d4 : decide ((0 : Int) ≥ 1) = false := by decide
              rw [d3]
              obtain ⟨p3, c3, rfl, a3, hp3⟩ := hS.out.2.1.arg
              have T := Lib.hid (made_at false a3)
              have HZ := Lib.hid (And.intro hS (And.intro hD (And.intro a3 (And.intro hp3 (And.intro hx hDl)))))
              clear hS hD a3 hp3 hx hgo hDl hm1 hm2
              go_wp2_with fail
              refine T.out.mono ?_
              rintro e w5 ⟨rfl, B5⟩
              obtain ⟨tn, htn⟩ : ∃ tn, tn = tneg false D := ⟨_, rfl⟩
              rw [← htn]
              have hx5 := HZ.out.2.2.2.2.1.below B5
              have k7 := Box.first hx5 (.bool tn)
              have k6 := (hx5.store (.bool tn) (.slice p3 (tdig D).length c3)).2
              have hf0 := hx5.f0
              have hf1 := hx5.f1
              have hc0 := hx5.c0
              have hc1 := hx5.c1
              have H5 := Lib.hid (And.intro htn B5)
              clear htn B5 hx5 d1 d4
              go_wp2_with fail
              refine bodyPost_ret (v := .tuple #[.agg #[.bool tn, .slice p3 (tdig D).length c3], .int .i64 0]) (by simp [results, Tryd.results23, go_sem, k6, k7]) rfl ⟨Or.inl ⟨HZ.out.2.1.1, tn, p3, c3, tdig D, rfl, ⟨?_, ?_, ?_⟩, ?_⟩, ?_⟩
              · refine ((HZ.out.2.2.1.below H5.out.2).take _).put (fun g o he hg => ?_) _ _
                rcases HZ.out.2.2.2.1 with h | ⟨g', h, hg', -⟩
                · rw [h] at he; cases he
                · rw [h] at he; cases he
                  have := HH.out.2.2
                  omega
              · rw [H5.out.1]; exact (can_made (by decide) HZ.out.1.out.1.dig).1
              · rw [H5.out.1]
                refine (can_made (by decide) HZ.out.1.out.1.dig).2.trans ?_
                unfold nv pVal
                rw [HP.out.2, HZ.out.2.1.2]
              · have := tdig_len D
                have := trimN_le D D.length
                have := HZ.out.2.2.2.2.2
                omega
              · exact box_kept (HB.out.trans (H5.out.2.mono HB.out.size)) (Nat.le_refl _) _ _
      · rw [if_neg (fun h => h.2.elim (fun e => h45 (hg.symm.trans e)) (fun e => h43 (hg.symm.trans e)))] at hbl
        have HP := Lib.hid (And.intro hbl hpn)
        have q2 : decide ((s[0].toNat : Int) = 43) = false := by simp [h43]
        have q4 : ((s[0].toNat : Int) == 43) = false := by simp [h43]
        clear hbl hpn hg h45 h43
        have q5 : decide ((s.size : Int) = 0) = false := by rw [decide_eq_false_iff_not]; omega
        have q6 : ((s.size : Int) == 0) = false := q5
        go_wp2_with fail
        rw [← hW]
        clear hW q5 q6 q1 q2 q3 q4 hi
        go_loopw [6, 7] (fun v t wr => ∃ (m : Nat) (D : List Int), t = .int .i64 ((m : Int) - 1) ∧ 0 ≤ m ∧ m ≤ s.size ∧ Hid (Rd (byL s) m D ∧ Own 3 .i64 W.heap.size wr v D ∧ Below W.heap.size W wr)) (fun _ t _ => (intOf t + 1).toNat)
        case atStart => exact ⟨s.size, [], rfl, by omega, Nat.le_refl _, ⟨by rw [byL_len]; simp, Dig.nil, by rw [List.drop_eq_nil_of_le (by rw [byL_len]; exact Nat.le_refl _)]; rfl, fun i hi hl => by rw [byL_len] at hl; omega⟩, Own.nil _ _ _ _, Below.refl _ _⟩
        case round =>
          obtain ⟨m, D, rfl, hm1, hm2, hS⟩ := hrel
          obtain ⟨v3, hv3⟩ : ∃ v3, v3 = u6 := ⟨_, rfl⟩
          rw [← hv3] at hS ⊢
          clear hv3
          have hx := HH.out.2.1.below hS.out.2.2
          have HB := Lib.hid (HH.out.1.trans (hS.out.2.2.mono HH.out.1.size))
          by_cases hgo : 0 + 1 ≤ m
          · obtain ⟨j, rfl⟩ : ∃ j, m = j + 1 := ⟨m - 1, by omega⟩
            have hj : j < s.size := by omega
            have e6 : ((j + 1 : Nat) : Int) - 1 = j := by omega
            have d1 : decide ((j : Int) ≥ 0) = true := by rw [decide_eq_true_eq]; omega
            have d2 : (j : Int) < (s.size : Int) := by omega
            have hgj := byL_get s hj
            have hby := byL_byte s j
            have HJ := Lib.hid (And.intro hgj hgo)
            rw [e6]
            by_cases hlo : (s[j].toNat : Int) < 48
            · have r1 : decide ((s[j].toNat : Int) < 48) = true := by simp [hlo]
              have hbad := Lib.hid (rd_bad (j := j) HP.out.1 (by have := HJ.out.2; omega) hj (by rw [hgj]; omega))
              clear hgj hby hgo
              have k7 := Box.first hx (.bool false)
              have k6 := (hx.store (.bool false) (.slice none 0 0)).2
              have hf0 := hx.f0
              have hf1 := hx.f1
              have hc0 := hx.c0
              have hc1 := hx.c1
              clear hx
              go_wp2_with fail
              refine bodyPost_ret (v := .tuple #[.agg #[.bool false, .slice none 0 0], .int .i64 4]) (by simp [results, Tryd.results23, go_sem, k6, k7]) rfl ⟨Or.inr ⟨hbad.out, rfl⟩, (by first | exact box_kept HB.out (Nat.le_refl _) _ _ | exact HB.out)⟩
            · have r1 : decide ((s[j].toNat : Int) < 48) = false := by simp [hlo]
              by_cases hhi : (s[j].toNat : Int) > 57
              · have r2 : decide ((s[j].toNat : Int) > 57) = true := by simp [hhi]
                have hbad := Lib.hid (rd_bad (j := j) HP.out.1 (by have := HJ.out.2; omega) hj (by rw [hgj]; omega))
                clear hgj hby hgo
                have k7 := Box.first hx (.bool false)
                have k6 := (hx.store (.bool false) (.slice none 0 0)).2
                have hf0 := hx.f0
                have hf1 := hx.f1
                have hc0 := hx.c0
                have hc1 := hx.c1
                clear hx
                go_wp2_with fail
                refine bodyPost_ret (v := .tuple #[.agg #[.bool false, .slice none 0 0], .int .i64 4]) (by simp [results, Tryd.results23, go_sem, k6, k7]) rfl ⟨Or.inr ⟨hbad.out, rfl⟩, (by first | exact box_kept HB.out (Nat.le_refl _) _ _ | exact HB.out)⟩
              · have r2 : decide ((s[j].toNat : Int) > 57) = false := by simp [hhi]
                have hnx := hS.out.1.next (by unfold okDig; rw [decide_eq_true_eq, hgj]; omega)
                rw [hgj] at hnx hby
                obtain ⟨z, hz⟩ : ∃ z : Int, z = (s[j].toNat : Int) := ⟨_, rfl⟩
                have e1 : IntKind.u8.wrap ((s[j].toNat : Int) - 48) = (s[j].toNat : Int) - 48 := by rw [IntKind.wrap_u8]; omega
                have e2 : ((s[j].toNat : Int) - 48) % 256 = (s[j].toNat : Int) - 48 := by omega
                have hDl := hS.out.1.len
                rw [byL_len] at hDl
                obtain ⟨v6, w6, hr6, ho6, hb6⟩ := app_two ktI (x := (s[j].toNat : Int) - 48) hS.out.2.1 (by omega) hS.out.2.2.size
                have HX := Lib.hid (And.intro hnx (And.intro ho6 (And.intro (hS.out.2.2.trans hb6) hr6)))
                clear hnx ho6 hb6 hr6 hDl hz hgj hby hgo hx
                go_wp2_with (at_builtin; refine Lib.wpList_append_run _ rfl _ _ 26 26 rfl v3 (.slice (some ⟨wr.heap.size, 0, none⟩) 1 1) rfl rfl v6 w6 HX.out.2.2.2 ?_)
                go_roundw
                case rel => exact ⟨j, _, rfl, by have := HJ.out.2; omega, by omega, HX.out.1, HX.out.2.1, HX.out.2.2.1⟩
                case measure => simp [intOf]
          · have hm : m = 0 := by omega
            have hD := rd_dec (f0 := 0) (by rw [← hm]; exact hS.out.1) HP.out.1 (by omega)
            have hDl := hS.out.1.len
            rw [byL_len] at hDl
            subst hm
            have d1 : decide (((0 : Nat) : Int) - 1 ≥ 0) = false := by decide
            have d3 : ((0 : Nat) : Int) - 1 = -1 := rfl
            have d4 : decide ((-1 : Int) ≥ 0) = false := by decide
            rw [d3]
            obtain ⟨p3, c3, rfl, a3, hp3⟩ := hS.out.2.1.arg
            have T := Lib.hid (made_at false a3)
            have HZ := Lib.hid (And.intro hS (And.intro hD (And.intro a3 (And.intro hp3 (And.intro hx hDl)))))
            clear hS hD a3 hp3 hx hgo hDl hm1 hm2
            go_wp2_with fail
            refine T.out.mono ?_
            rintro e w5 ⟨rfl, B5⟩
            obtain ⟨tn, htn⟩ : ∃ tn, tn = tneg false D := ⟨_, rfl⟩
            rw [← htn]
            have hx5 := HZ.out.2.2.2.2.1.below B5
            have k7 := Box.first hx5 (.bool tn)
            have k6 := (hx5.store (.bool tn) (.slice p3 (tdig D).length c3)).2
            have hf0 := hx5.f0
            have hf1 := hx5.f1
            have hc0 := hx5.c0
            have hc1 := hx5.c1
            have H5 := Lib.hid (And.intro htn B5)
            clear htn B5 hx5 d1 d4
            go_wp2_with fail
            refine bodyPost_ret (v := .tuple #[.agg #[.bool tn, .slice p3 (tdig D).length c3], .int .i64 0]) (by simp [results, Tryd.results23, go_sem, k6, k7]) rfl ⟨Or.inl ⟨HZ.out.2.1.1, tn, p3, c3, tdig D, rfl, ⟨?_, ?_, ?_⟩, ?_⟩, ?_⟩
            · refine ((HZ.out.2.2.1.below H5.out.2).take _).put (fun g o he hg => ?_) _ _
              rcases HZ.out.2.2.2.1 with h | ⟨g', h, hg', -⟩
              · rw [h] at he; cases he
              · rw [h] at he; cases he
                have := HH.out.2.2
                omega
            · rw [H5.out.1]; exact (can_made (by decide) HZ.out.1.out.1.dig).1
            · rw [H5.out.1]
              refine (can_made (by decide) HZ.out.1.out.1.dig).2.trans ?_
              unfold nv pVal
              rw [HP.out.2, HZ.out.2.1.2]
            · have := tdig_len D
              have := trimN_le D D.length
              have := HZ.out.2.2.2.2.2
              omega
            · exact box_kept (HB.out.trans (H5.out.2.mono HB.out.size)) (Nat.le_refl _) _ _
  · have q0 : decide ((s.size : Int) > 0) = false := by rw [decide_eq_false_iff_not]; omega
    have q5 : decide ((s.size : Int) = 0) = true := by rw [decide_eq_true_eq]; omega
    have q6 : ((s.size : Int) == 0) = true := q5
    rw [if_neg (fun h => h0 h.1)] at hbl
    have hbad := Lib.hid (rd_none hbl (by omega))
    have hx := HH.out.2.1
    have hB := HH.out.1
    rw [hW] at hx hB
    have HB := Lib.hid hB
    clear hB hbl
    have k7 := Box.first hx (.bool false)
    have k6 := (hx.store (.bool false) (.slice none 0 0)).2
    have hf0 := hx.f0
    have hf1 := hx.f1
    have hc0 := hx.c0
    have hc1 := hx.c1
    clear hx
    go_wp2_with fail
    refine bodyPost_ret (v := .tuple #[.agg #[.bool false, .slice none 0 0], .int .i64 4]) (by simp [results, Tryd.results23, go_sem, k6, k7]) rfl ⟨Or.inr ⟨hbad.out, rfl⟩, (by first | exact box_kept HB.out (Nat.le_refl _) _ _ | exact HB.out)⟩
end Go.Proofs.YtihgefllmkicaaaDoor
