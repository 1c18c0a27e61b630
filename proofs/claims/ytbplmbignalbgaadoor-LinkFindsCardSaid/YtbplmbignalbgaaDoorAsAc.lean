/- Contracts: the document's answer for forms. Conditions: the items lie as told. -/
import Derived.Test.YtbplmbignalbgaaDoorAsAb
namespace Go.Proofs.YtbplmbignalbgaaDoor
open Go.RowKit Asm
set_option linter.unusedVariables false
set_option linter.unusedSimpArgs false

/-- What the document's answer for forms tells. -/
def RForms (W w' : World) (X : Nat → It) (n : Nat) (base : Int) (e : Ending) : Prop :=
  (check X n base ≠ 0 ∧ e = .returned (.tuple #[.slice none 0 0, .int .i64 (check X n base)])) ∨
  (check X n base = 0 ∧ ((∃ f, Under X n base f ∧ 67108864 < ad X base f n ∧ e = .returned (.tuple #[.slice none 0 0, .int .i64 3])) ∨
    (∃ f v, Least X n base f ∧ ad X base f n ≤ 67108864 ∧ e = .returned (.tuple #[v, .int .i64 0]) ∧ w'.ownsRow W.heap.size 3 1 v n (rowZ (fun i => f i) n))))
theorem named_turn {x : It} (h : x.kind = 3 ∨ x.kind = 4) : named x = true := by unfold named; rcases h with h | h <;> simp [h]
theorem lost_none {X : Nat → It} {n : Nat} : ∀ {k : Nat}, lost X n k = false → ∀ i, i < k → named (X i) = true → (st X (X i).lab n).isSome = true
  | 0, _, i, hi, _ => by omega
  | k + 1, h, i, hi, hn => by
    have e : lost X n (k + 1) = (lost X n k || (named (X k) && (st X (X k).lab n).isNone)) := rfl
    rw [e, Bool.or_eq_false_iff] at h
    by_cases he : i = k
    · subst he
      have h2 := h.2
      rw [hn, Bool.true_and] at h2
      cases hs : st X (X i).lab n with
      | none => rw [hs] at h2; cases h2
      | some j => rfl
    · exact lost_none h.1 i (by omega) hn
theorem st_tgt {X : Nat → It} {n : Nat} {base : Int} (h : check X n base = 0) {i : Nat} (hi : i < n) (hn : named (X i) = true) : st X (X i).lab n = some (tgt X n i) := by
  have := lost_none (check_parts h).2.2.2 i hi hn
  unfold tgt
  cases hs : st X (X i).lab n with
  | none => rw [hs] at this; cases this
  | some j => rfl
theorem rowZ_set (f : Nat → Nat) (n i x : Nat) : (rowZ (fun j => (f j : Int)) n).set i (.int .i64 x) = rowZ (fun j => (updN f i x j : Int)) n := by
  unfold rowZ
  apply List.ext_getElem?
  intro j
  rw [List.getElem?_set]
  by_cases hj : j < n
  · rw [List.getElem?_map, List.getElem?_map, List.getElem?_range hj]
    by_cases he : i = j
    · subst he
      simp [updN, hj]
    · have : ¬ j = i := fun e => he e.symm
      simp [updN, he, this]
  · have e1 : (List.map (fun j => Value.int .i64 (f j : Int)) (List.range n))[j]? = none := List.getElem?_eq_none (by simp; omega)
    have e2 : (List.map (fun j => Value.int .i64 (updN f i x j : Int)) (List.range n))[j]? = none := List.getElem?_eq_none (by simp; omega)
    rw [e1, e2]
    by_cases he : i = j
    · subst he
      simp [hj]
    · simp [he]
theorem fsum_upd {f : Nat → Nat} {n i : Nat} (hi : i < n) : fsum (updN f i (f i + 1)) n = fsum f n + 1 := by
  have := fsum_raise (f := f) (g := updN f i (f i + 1)) (i := i) (fun j hj => by unfold updN; rw [if_neg hj]) (n := n)
  rw [if_pos hi, if_pos hi] at this
  have e : updN f i (f i + 1) i = f i + 1 := by unfold updN; rw [if_pos rfl]
  omega

set_option maxRecDepth 100000 in
set_option maxHeartbeats 4000000 in
theorem rForms_at {w : World} {p : Option Addr} {n c : Nat} {X : Nat → It} (h : Items w p n c X) (hn : n ≤ 480) (base : Int) :
    Calls Tryd.prog 27 #[.slice p n c, .int .i64 base] w fun e w' => RForms w w' X n base e ∧ Below w.heap.size w w' := by
  have hck := rCheck_at h hn base
  have H := Lib.hid h
  clear h
  obtain ⟨i0, hi, hz0, hz1, hz2⟩ := infoI_of
  go_enter Tryd.func27, Tryd.ntmps27
  go_wp2_with fail
  refine hck.mono ?_
  rintro e w1 ⟨rfl, hb⟩
  obtain ⟨cv, hcv⟩ : ∃ cv, cv = check X n base := ⟨_, rfl⟩
  rw [← hcv]
  have HC := Lib.hid (And.intro hb hcv)
  clear hb hck hcv
  by_cases hz : cv = 0
  · subst hz
    go_wp2_with fail
    go_loopw [7, 8] (fun v s8 wr => ∃ k : Nat, s8 = .int .i64 k ∧ k ≤ n ∧ wr.ownsRow w.heap.size 3 1 v k (rowZ (fun i => (first (X i) : Int)) k) ∧ Below w.heap.size w wr) (fun _ s8 _ => n - (intOf s8).toNat)
    case atStart => exact ⟨0, rfl, Nat.zero_le _, World.ownsRow_nil _ _ _ _, HC.out.1⟩
    case round =>
      obtain ⟨k, rfl, hk, hown, hb⟩ := hrel
      by_cases hlt : k < n
      · have d1 : decide ((k : Int) < (n : Int)) = true := by simp; omega
        have ek : (k : Int) < (n : Int) := by omega
        obtain ⟨b, off, hp, k0, k1, k2, k3, k4, k5, k6, k7⟩ := (H.out.below hb).at hlt
        rw [hp]
        have HB := Lib.hid (And.intro hb hp)
        clear hb hp k1 k2 k3 k4 k5 k6 k7
        obtain ⟨fv, hfv⟩ : ∃ fv, fv = first (X k) := ⟨_, rfl⟩
        have HF := Lib.hid hfv
        by_cases h3 : (X k).kind = 3
        · rw [h3] at k0
          have e1 : fv = 1 := by rw [hfv]; unfold first turns; simp [h3]
          clear h3 hfv
          subst e1
          go_wp2_with (first
            | (at_builtin; refine wpList_append_own _ rfl _ _ 71 rfl w.heap.size 3 i0 (.int .i64 0) 1 8 Tryd.underlying71 hi hz0 hz1 hz2 rfl (by decide) _ _ _ rfl (hown.alloc _) ⟨wr.heap.size, 0, none⟩ 1 1 [.int .i64 1] rfl rfl (cell_one_new _ _ _) (one_int _) (show k + 1 ≤ maxLen by unfold maxLen; omega) (show (k + 1) * 8 ≤ 140737488355328 by omega) (HB.out.1.alloc HB.out.1.size _).size ?_)
            | fail)
          intro v' w3 hown3 hgrow _
          have hb3 : Below w.heap.size w w3 := (HB.out.1.alloc HB.out.1.size _).grown hgrow (HB.out.1.alloc HB.out.1.size _).size (fun q hq => (hown.lt q hq).1)
          have H3 := Lib.hid (And.intro hown3 hb3)
          clear hown3 hgrow hb3 hown
          go_wp2_with fail
          go_roundw
          case rel =>
            refine ⟨k + 1, by go_num, hlt, ?_, H3.out.2⟩
            rw [rowZ_succ, ← HF.out]
            exact H3.out.1
          case measure => simp [intOf]; omega
        · have d3 : ((X k).kind == 3) = false := by simp [h3]
          by_cases h4 : (X k).kind = 4
          · have d4 : ((X k).kind == 4) = true := by simp [h4]
            have e1 : fv = 1 := by rw [hfv]; unfold first turns; simp [h4]
            clear h3 h4 hfv
            subst e1
            go_wp2_with (first
              | (at_builtin; refine wpList_append_own _ rfl _ _ 71 rfl w.heap.size 3 i0 (.int .i64 0) 1 8 Tryd.underlying71 hi hz0 hz1 hz2 rfl (by decide) _ _ _ rfl (hown.alloc _) ⟨wr.heap.size, 0, none⟩ 1 1 [.int .i64 1] rfl rfl (cell_one_new _ _ _) (one_int _) (show k + 1 ≤ maxLen by unfold maxLen; omega) (show (k + 1) * 8 ≤ 140737488355328 by omega) (HB.out.1.alloc HB.out.1.size _).size ?_)
              | fail)
            intro v' w3 hown3 hgrow _
            have hb3 : Below w.heap.size w w3 := (HB.out.1.alloc HB.out.1.size _).grown hgrow (HB.out.1.alloc HB.out.1.size _).size (fun q hq => (hown.lt q hq).1)
            have H3 := Lib.hid (And.intro hown3 hb3)
            clear hown3 hgrow hb3 hown
            go_wp2_with fail
            go_roundw
            case rel =>
              refine ⟨k + 1, by go_num, hlt, ?_, H3.out.2⟩
              rw [rowZ_succ, ← HF.out]
              exact H3.out.1
            case measure => simp [intOf]; omega
          · have d4 : ((X k).kind == 4) = false := by simp [h4]
            have e1 : fv = 0 := by rw [hfv]; unfold first turns; simp [h3, h4]
            clear h3 h4 hfv
            subst e1
            go_wp2_with (first
              | (at_builtin; refine wpList_append_own _ rfl _ _ 71 rfl w.heap.size 3 i0 (.int .i64 0) 1 8 Tryd.underlying71 hi hz0 hz1 hz2 rfl (by decide) _ _ _ rfl (hown.alloc _) ⟨wr.heap.size, 0, none⟩ 1 1 [.int .i64 0] rfl rfl (cell_one_new _ _ _) (one_int _) (show k + 1 ≤ maxLen by unfold maxLen; omega) (show (k + 1) * 8 ≤ 140737488355328 by omega) (HB.out.1.alloc HB.out.1.size _).size ?_)
              | fail)
            intro v' w3 hown3 hgrow _
            have hb3 : Below w.heap.size w w3 := (HB.out.1.alloc HB.out.1.size _).grown hgrow (HB.out.1.alloc HB.out.1.size _).size (fun q hq => (hown.lt q hq).1)
            have H3 := Lib.hid (And.intro hown3 hb3)
            clear hown3 hgrow hb3 hown
            go_wp2_with fail
            go_roundw
            case rel =>
              refine ⟨k + 1, by go_num, hlt, ?_, H3.out.2⟩
              rw [rowZ_succ, ← HF.out]
              exact H3.out.1
            case measure => simp [intOf]; omega
      · have hz : k = n := by omega
        subst hz
        have d1 : decide ((k : Int) < (k : Int)) = false := by simp
        have HX := Lib.hid (And.intro hown hb)
        clear hown hb
        have hr := check_range HC.out.2.symm
        go_wp2_with fail
        obtain ⟨pf, cf, rfl, hsh⟩ : ∃ pf cf, u7 = .slice pf k cf ∧ (0 < k → ∃ F, pf = some ⟨F, 0, none⟩ ∧ w.heap.size ≤ F ∧ F < wr.heap.size) := by
          rcases HX.out.1.2 with ⟨h1, h0⟩ | ⟨F, cap, cur, h1, hbF, hg, -⟩
          · exact ⟨none, 0, by rw [h1, h0], fun h => by omega⟩
          · exact ⟨some ⟨F, 0, none⟩, cap, h1, fun _ => ⟨F, rfl, hbF, lt_of_block hg⟩⟩
        have HSH := Lib.hid (And.intro hsh hr)
        clear hsh hr
        go_loopg [11] (3 * k) (fun gh _ wx => ∃ f : Nat → Nat, wx.ownsRow w.heap.size 3 1 (.slice pf k cf) k (rowZ (fun i => (f i : Int)) k) ∧ Under X k base f ∧ Below w.heap.size w wx ∧ wr.heap.size ≤ wx.heap.size ∧ 3 * k ≤ fsum f k + gh)
        case atStart => exact ⟨fun i => first (X i), HX.out.1, Under.start, HX.out.2, Nat.le_refl _, by omega⟩
        case round =>
          obtain ⟨f, ho, hu, hb, hsz, hg⟩ := hrel
          have hat := rAt_at (H.out.below hb) (vf := .slice pf k cf) (f := f) ⟨⟨_, ho⟩⟩ hn hu.1 base HSH.out.2
          have HR := Lib.hid (And.intro ho (And.intro hu (And.intro hb (And.intro hsz hg))))
          clear ho hu hb hsz hg
          go_wp2_with fail
          refine hat.mono ?_
          rintro e wa ⟨va, rfl, hoa, hba⟩
          obtain ⟨A, ca, rfl, hA0, hA1⟩ := World.ownsRow.form hoa (Nat.succ_pos k)
          have can := hoa.cellAt k (by omega)
          rw [rowZ_get _ (Nat.lt_succ_self k)] at can
          have ekk : (k : Int) < (k : Int) + 1 := by omega
          obtain ⟨an, han⟩ : ∃ an, an = ad X base f k := ⟨_, rfl⟩
          rw [← han] at can
          have HA := Lib.hid (And.intro hoa (And.intro hba han))
          have hbw : Below w.heap.size w wa := HR.out.2.2.1.trans (hba.mono HR.out.2.2.1.size)
          have how := own_below HR.out.1 hba
          have HW := Lib.hid (And.intro hbw how)
          clear hoa hba han hat hbw how
          by_cases hlong : 67108864 < an
          · have dl : decide (67108864 < an) = true := by simp [hlong]
            have HLG := Lib.hid hlong
            clear hlong
            go_wp2_with fail
            first | rw [Exit.noGoto_ret] | skip
            go_ret2
            exact ⟨Or.inr ⟨HC.out.2.symm, Or.inl ⟨f, HR.out.2.1, by rw [← HA.out.2.2]; exact HLG.out, rfl⟩⟩, HW.out.1⟩
          · have dl : decide (67108864 < an) = false := by simp; omega
            have HLG := Lib.hid hlong
            clear hlong
            go_wp2_with fail
            clear can
            go_loopw [11] (fun s11 wx => ∃ i : Nat, s11 = .int .i64 i ∧ i ≤ k ∧ (∀ j, j < i → fits X k base f j) ∧ Below wa.heap.size wa wx) (fun s11 _ => k - (intOf s11).toNat)
            case atStart => exact ⟨0, rfl, Nat.zero_le _, fun j hj => by omega, Below.refl _ _⟩
            case round =>
              obtain ⟨i, rfl, hik, hfs, hbx⟩ := hrel
              by_cases hlt : i < k
              · have d1 : decide ((i : Int) < (k : Int)) = true := by simp; omega
                have ei : (i : Int) < (k : Int) := by omega
                obtain ⟨F, rfl, hF0, hF1⟩ := HSH.out.1 (by omega)
                have hbwx : Below w.heap.size w wr := HW.out.1.trans (hbx.mono HW.out.1.size)
                have how := own_below HW.out.2 hbx
                have hfq : FQ wr p k c X base f F cf A ca i := ⟨H.out.below hbwx, ⟨⟨_, how⟩⟩, ⟨⟨_, own_below HA.out.1 hbx⟩⟩, hn, HR.out.2.1.1, HSH.out.2, hlt, fun h => st_tgt HC.out.2.symm hlt (named_turn h)⟩
                have hft := rfits_at hfq
                have hcell := how.cellAt i (by omega)
                rw [rowZ_get _ hlt] at hcell
                have hfroz := how.frozenAt i
                have HI := Lib.hid (And.intro hfs (And.intro hbx how))
                clear hfs hbx how hfq hbwx
                by_cases hf : fits X k base f i
                · have df : decide (fits X k base f i) = true := by simp [hf]
                  rw [df] at hft
                  have HF := Lib.hid hf
                  clear hf df hcell hfroz
                  go_wp2_with (first
                    | (go_at_call 39; refine hft.mono ?_; rintro e wb ⟨rfl, hbb⟩))
                  go_roundw
                  case rel => exact ⟨i + 1, by go_num, hlt, fun j hj => by
                    by_cases he : j = i
                    · rw [he]; exact HF.out
                    · exact HI.out.1 j (by omega), HI.out.2.1.trans (hbb.mono HI.out.2.1.size)⟩
                  case measure => simp [intOf]; omega
                · have df : decide (fits X k base f i) = false := by simp [hf]
                  rw [df] at hft
                  have HF := Lib.hid hf
                  have hne : ((i : Int) == (k : Int)) = false := by simp; omega
                  have hfb : ∀ q, q < k → f q ≤ 3 := fun q hq => by
                    have := HR.out.2.1.1 q hq
                    split at this
                    · exact this.2
                    · split at this <;> omega
                  have hf3 := hfb i hlt
                  have hfs3 := fsum_le hfb
                  have HB3 := Lib.hid hfs3
                  clear hfb hfs3
                  clear hf df hcell hfroz
                  go_wp2_with (first
                    | (go_at_call 39; refine hft.mono ?_; rintro e wb ⟨rfl, hbb⟩; have hob := own_below HI.out.2.2 hbb; have hcell := hob.cellAt i (by omega); rw [rowZ_get _ hlt] at hcell; have hfroz := hob.frozenAt i))
                  have hup : Under X k base (updN f i (f i + 1)) := HR.out.2.1.grow (fun q hq => (H.out.word q hq).1) hlt HF.out
                  have hsum := fsum_upd (f := f) hlt
                  have hf4 := fsum_le (f := updN f i (f i + 1)) (n := k) (fun q hq => by
                    have := hup.1 q hq
                    split at this
                    · exact this.2
                    · split at this <;> omega)
                  have hgg := HR.out.2.2.2.2
                  go_roundg (3 * k - fsum (updN f i (f i + 1)) k)
                  case measure => omega
                  case rel =>
                    obtain ⟨hst, hgr⟩ := hob.stored i (.int .i64 ((f i + 1 : Nat) : Int))
                    rw [rowZ_set] at hst
                    have hbw : Below w.heap.size w wb := (HW.out.1.trans (HI.out.2.1.mono HW.out.1.size)).trans (hbb.mono (HW.out.1.trans (HI.out.2.1.mono HW.out.1.size)).size)
                    refine ⟨updN f i (f i + 1), hst, hup, hbw.grown hgr hbw.size (fun q hq => by cases hq; exact hF0), ?_, by omega⟩
                    have q1 := HR.out.2.2.2.1
                    have q2 := HA.out.2.1.size
                    have q3 := HI.out.2.1.size
                    have q4 := hbb.size
                    have q5 := hgr.size
                    rw [show ((f i + 1 : Nat) : Int) = (f i : Int) + 1 by omega] at q5
                    omega
              · have hz : i = k := by omega
                subst hz
                have d1 : decide ((i : Int) < (i : Int)) = false := by simp
                have HI := Lib.hid (And.intro hfs hbx)
                clear hfs hbx
                go_wp2_with fail
                first | rw [Exit.noGoto_ret] | skip
                go_ret2
                exact ⟨Or.inr ⟨HC.out.2.symm, Or.inr ⟨f, _, ⟨HR.out.2.1, HI.out.1⟩, by rw [← HA.out.2.2]; have := HLG.out; omega, rfl, own_below HW.out.2 HI.out.2⟩⟩, HW.out.1.trans (HI.out.2.mono HW.out.1.size)⟩
  · have dz : (cv != 0) = true := by simp [hz]
    have HZ := Lib.hid hz
    clear hz
    go_wp2_with fail
    go_ret2
    refine ⟨Or.inl ⟨by rw [← HC.out.2]; exact HZ.out, ?_⟩, HC.out.1⟩
    rw [← HC.out.2]
    rfl
end Go.Proofs.YtbplmbignalbgaaDoor
