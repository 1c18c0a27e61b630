/- Contracts: whether an item fits; its next form. Conditions: the layout lies as told. -/
import Derived.Test.YtbplmbignalbgaaDoorAsG
import Derived.Deep.RegionHeld
import Derived.Deep.DeepCutAuto
import Derived.Deep.CutBlock
namespace Go.Proofs.YtbplmbignalbgaaDoor
open Go.RowKit Asm
set_option linter.unusedVariables false
set_option linter.unusedSimpArgs false

theorem LRep.held {base : Nat} {w : World} {l : LL} {X : Nat → It} {b0 : Int} {s : LS} (h : LRep base w l X b0 s) {i : Nat} (hi : i < l.n) : ∃ b off, l.p = some ⟨b, off, none⟩ ∧ ∀ w', Below w.heap.size w w' → w'.cell? ⟨l.L, 0, none⟩ = some (.slice (some ⟨b, off, none⟩) l.n l.c) ∧ w'.cell? ⟨l.L, 2, none⟩ = some (.slice (some ⟨l.F, 0, none⟩) l.n l.n) ∧ w'.cell? ⟨l.F, i, none⟩ = some (.int .i64 (s.f i)) ∧ w'.cell? ⟨b, off + i * 8, none⟩ = some (.int .i64 (X i).kind) ∧ w'.cell? ⟨b, off + i * 8 + 1, none⟩ = some (.int .i64 (X i).op) ∧ w'.cell? ⟨b, off + i * 8 + 2, none⟩ = some (.int .i64 (X i).d) ∧ w'.cell? ⟨b, off + i * 8 + 3, none⟩ = some (.int .i64 (X i).a) ∧ w'.cell? ⟨b, off + i * 8 + 4, none⟩ = some (.int .i64 (X i).b) ∧ w'.cell? ⟨b, off + i * 8 + 5, none⟩ = some (.int .i64 (X i).imm) ∧ w'.cell? ⟨b, off + i * 8 + 6, none⟩ = some (.string (X i).lab) ∧ w'.cell? ⟨b, off + i * 8 + 7, none⟩ = some (.int .u32 (X i).word) := by
  exact held_of hi h.lay h.items (h.cf hi)
theorem upd_ints (g : Nat → Int) (i : Nat) (v : Int) (j : Nat) : updF (ints g) i (.int .i64 v) j = ints (updF g i v) j := by
  unfold updF ints
  by_cases h : j = i
  · simp [h]
  · simp [h]
theorem far_neg {d : Int} (h : d < 0) : far d = -d - 1 := by unfold far; rw [if_pos h]
theorem far_pos {d : Int} (h : ¬ d < 0) : far d = d := by unfold far; rw [if_neg h]
/-- Till when an item fits was written. -/
theorem LRep.setDue {base : Nat} {w : World} {l : LL} {X : Nat → It} {b0 : Int} {s : LS} (h : LRep base w l X b0 s) {i : Nat} (hi : i < l.n) (v : Int) (hv : 0 ≤ v ∧ v ≤ 2000000) (hr : reach (X i) (s.f i) ≠ 0) (hk : far (dist X l.n b0 s.f i) + (v - s.tot) ≤ reach (X i) (s.f i)) :
    LRep base (w.setCell ⟨l.U, i, none⟩ (.int .i64 v)) l X b0 { s with due := updF s.due i v } ∧ Chg l.fp w (w.setCell ⟨l.U, i, none⟩ (.int .i64 v)) := by
  have hc : Chg (fun k => k = l.U) w (w.setCell ⟨l.U, i, none⟩ (.int .i64 v)) := (Chg.refl _ _).setCell _ _ (Or.inl rfl)
  refine ⟨⟨h.n60, h.b0r, h.items.same fun hn a ha => ?_, ?_, h.map.kept (hc.block _ h.map.lt ?_), ?_, ?_, ?_, ?_, h.ne, h.lb, h.pb, h.valid, h.xb, h.xs, h.tot, h.adr, fun j hj => ?_, fun j hj ht => ?_⟩, hc.mono fun k hk => Or.inr (Or.inr (Or.inr hk))⟩
  · have := h.pb hn a ha
    have := h.lb.2.2.2.2.1
    exact Below.heap_setCell _ _ _ _ (by show a.block ≠ l.U; omega)
  · exact hc.same h.lay (ne_kind h.lay h.dus (by decide))
  · intro e
    obtain ⟨D, ⟨es, clock, hB, -⟩, -⟩ := h.map
    rw [e, h.dus] at hB
    cases hB
  · exact hc.same h.frm h.ne.2.2.1
  · exact hc.same h.ats h.ne.2.2.2.2.1
  · exact hc.same h.tal h.ne.2.2.2.2.2
  · refine set_blockF h.dus hi fun j hj => ?_
    exact upd_ints s.due i v j
  · show 0 ≤ updF s.due i v j ∧ updF s.due i v j ≤ 2000000
    unfold updF
    split
    · exact hv
    · exact h.due0 j hj
  · by_cases he : j = i
    · subst he
      show _ ∧ far (dist X l.n b0 s.f j) + (updF s.due j v j - s.tot) ≤ _
      rw [updF_same]
      exact ⟨hr, hk⟩
    · have ht' : s.tot < updF s.due i v j := ht
      rw [updF_other _ _ he] at ht'
      show _ ∧ far (dist X l.n b0 s.f j) + (updF s.due i v j - s.tot) ≤ _
      rw [updF_other _ _ he]
      exact h.dok j hj ht'

set_option maxRecDepth 100000 in
set_option maxHeartbeats 2000000 in
theorem fits_at {base : Nat} {w : World} {l : LL} {X : Nat → It} {b0 : Int} {s : LS} (h : LRep base w l X b0 s) (i : Nat) (hi : i < l.n) :
    Calls Tryd.prog 58 #[.pointer (some ⟨l.L, 0, none⟩), .int .i64 i] w fun e w' => e = .returned (.bool (decide (fits X l.n b0 s.f i))) ∧ ∃ s', s'.f = s.f ∧ LRep base w' l X b0 s' ∧ Chg l.fp w w' := by
  have c5 := h.c5
  have c6 := h.c6
  have cu := h.cu hi
  obtain ⟨b, off, hp, hld⟩ := h.held hi
  have H := Lib.hid (And.intro h hld)
  have ei : (i : Int) < l.n := by omega
  have hf3 := h.f_lt hi
  clear h hp hld
  by_cases hd : s.tot < s.due i
  · have d1 : decide (s.tot < s.due i) = true := by simp [hd]
    go_enter Tryd.func58, Tryd.ntmps58
    go_wp2_with fail
    go_quiet (fail)
    go_wp2_with fail
    go_ret
    have hdk := H.out.1.dok i hi hd
    refine ⟨retB ?_, s, rfl, H.out.1.drewN nq, (Chg.refl _ _).drewN _⟩
    symm
    rw [decide_eq_true_eq]
    right
    omega
  · have d1 : decide (s.tot < s.due i) = false := by simp; omega
    go_enter Tryd.func58, Tryd.ntmps58
    go_wp2_with fail
    go_quiet (fail)
    go_wp2_with fail
    obtain ⟨w1, hw1⟩ : ∃ w1, w1 = w.drewN nq := ⟨_, rfl⟩
    have HB := Lib.hid (show Below w.heap.size w w1 by rw [hw1]; exact below_drewN (Below.refl _ _) nq)
    rw [← hw1]
    clear hw1 c5 c6 cu
    have hs := H.out.2 w1.drew HB.out.drew
    obtain ⟨s0, s2, sf, q0, q1, q2, q3, q4, q5, q6, q7⟩ := hs
    have HS := Lib.hid (fun w' (hb : Below w1.heap.size w1 w') => H.out.2 w' (HB.out.trans (hb.mono HB.out.size)))
    go_region_held (fun w' => w'.cell? ⟨l.L, 0, none⟩ = some (.slice (some ⟨b, off, none⟩) l.n l.c) ∧ w'.cell? ⟨l.L, 2, none⟩ = some (.slice (some ⟨l.F, 0, none⟩) l.n l.n) ∧ w'.cell? ⟨l.F, i, none⟩ = some (.int .i64 (s.f i)) ∧ w'.cell? ⟨b, off + i * 8, none⟩ = some (.int .i64 (X i).kind) ∧ w'.cell? ⟨b, off + i * 8 + 1, none⟩ = some (.int .i64 (X i).op) ∧ w'.cell? ⟨b, off + i * 8 + 2, none⟩ = some (.int .i64 (X i).d) ∧ w'.cell? ⟨b, off + i * 8 + 3, none⟩ = some (.int .i64 (X i).a) ∧ w'.cell? ⟨b, off + i * 8 + 4, none⟩ = some (.int .i64 (X i).b) ∧ w'.cell? ⟨b, off + i * 8 + 5, none⟩ = some (.int .i64 (X i).imm) ∧ w'.cell? ⟨b, off + i * 8 + 6, none⟩ = some (.string (X i).lab) ∧ w'.cell? ⟨b, off + i * 8 + 7, none⟩ = some (.int .u32 (X i).word)) (go_keep)
      (first | (go_at_call 75; refine (reach_any (X i) (s.f i) _ (by omega)).mono ?_; rintro e w9 ⟨rfl, hb9⟩; have hs9 := HS.out w9 (Below.trans (Below.refl _ _).drew hb9); obtain ⟨zs0, zs2, zsf, zq0, zq1, zq2, zq3, zq4, zq5, zq6, zq7⟩ := hs9))
    all_goals
      clear s0 s2 sf q0 q1 q2 q3 q4 q5 q6 q7 zs0 zs2 zsf zq0 zq1 zq2 zq3 zq4 zq5 zq6 zq7
    obtain ⟨w2, hw2⟩ : ∃ w2, w2 = w9 := ⟨_, rfl⟩
    have HC := Lib.hid (show Below w.heap.size w w2 by rw [hw2]; exact HB.out.trans ((Below.refl _ _).drew.trans hb9 |>.mono HB.out.size))
    rw [← hw2]
    clear hw2 hb9
    obtain ⟨R, hR⟩ : ∃ R, R = reach (X i) (s.f i) := ⟨_, rfl⟩
    have hR1 : R = 0 ∨ R = 32768 ∨ R = 1048576 := by rw [hR]; unfold reach; (repeat' split) <;> simp
    rw [← hR]
    have HR := Lib.hid hR
    clear hR HB HS
    by_cases hz : R = 0
    · have dz : (R == 0) = true := by simp [hz]
      clear hR1
      have HZ := Lib.hid hz
      clear hz
      go_wp2_with fail
      go_ret
      refine ⟨retB ?_, s, rfl, H.out.1.below HC.out, Chg.of_below HC.out⟩
      symm
      rw [decide_eq_true_eq]
      left
      rw [← HR.out, HZ.out]
    · have dz : (R == 0) = false := by simp [hz]
      have HZ := Lib.hid hz
      clear hz
      go_wp2_with fail
      refine (distance_at (H.out.1.below HC.out).core i hi).mono ?_
      rintro e w3 ⟨rfl, m3, rfl⟩
      obtain ⟨d, hd'⟩ : ∃ d, d = dist X l.n b0 s.f i := ⟨_, rfl⟩
      rw [← hd']
      have HD := Lib.hid hd'
      have hdr : -3000000000000 ≤ d ∧ d ≤ 3000000000000 := by
        have h1 := H.out.1.ads (Nat.le_of_lt (tgt_lt (X := X) hi))
        have h2 := H.out.1.ads (show i + 1 ≤ l.n by omega)
        rw [hd']; unfold dist; omega
      clear hd'
      have HW := Lib.hid (show Below w.heap.size w (w2.drewN m3) from below_drewN HC.out m3)
      obtain ⟨w3, hw3⟩ : ∃ w3, w3 = w2.drewN m3 := ⟨_, rfl⟩
      rw [← hw3] at HW ⊢
      clear hw3
      go_upto_if 40 with fail
      go_cut [6] (fun v wx => wx = w3 ∧ v = .int .i64 (far d))
      case first =>
        by_cases hn : d < 0
        · have d2 : decide (d < 0) = true := by simp [hn]
          have HF := Lib.hid (far_neg hn)
          have e2 : wrap64 (-d) = -d := by unfold wrap64; omega
          have e3 : wrap64 (-d - 1) = -d - 1 := by unfold wrap64; omega
          go_wp2_with fail
          go_meet
          case rel => exact ⟨rfl, by rw [HF.out]⟩
        · have d2 : decide (d < 0) = false := by simp; omega
          have HF := Lib.hid (far_pos hn)
          go_wp2_with fail
          go_meet
          case rel => exact ⟨rfl, by rw [HF.out]⟩
      case rest =>
        obtain ⟨rfl, rfl⟩ := hcut
        have hfr : 0 ≤ far d ∧ far d ≤ 3000000000000 := by unfold far; split <;> omega
        by_cases hge : R ≤ far d
        · have d3 : decide (R ≤ far d) = true := by simp [hge]
          go_wp2_with fail
          go_ret
          refine ⟨retB ?_, s, rfl, H.out.1.below HW.out, Chg.of_below HW.out⟩
          symm
          rw [decide_eq_false_iff_not]
          intro hf
          unfold fits at hf
          rw [← HR.out, ← HD.out] at hf
          rcases hf with hf | hf
          · exact HZ.out hf
          · omega
        · have d3 : decide (R ≤ far d) = false := by simp; omega
          have c5 := (H.out.1.below HW.out).c5
          have c6 := (H.out.1.below HW.out).c6
          have hfu := freeF (H.out.1.below HW.out).dus i
          have cu := (H.out.1.below HW.out).cu hi
          have hUL : l.U ≠ l.L := ne_kind H.out.1.dus H.out.1.lay (by decide)
          have HT := Lib.hid H.out.1.tot
          go_wp2_with fail
          go_region_held (fun w' => w'.cell? ⟨l.L, 5, none⟩ = some (.int .i64 s.tot) ∧ w'.cell? ⟨l.L, 6, none⟩ = some (.slice (some ⟨l.U, 0, none⟩) l.n l.n) ∧ w'.frozen? ⟨l.U, i, none⟩ = false) (go_keep) (fail)
          all_goals
            have ht := psum_bound H.out.1.xb l.n
            have h60 := H.out.1.n60
            have hT := HT.out
            have ev : wrap64 (wrap64 (s.tot + R) - far d) = s.tot + R - far d := by unfold wrap64; omega
            have ev2 : IntKind.i64.wrap (IntKind.i64.wrap (s.tot + R) - far d) = s.tot + R - far d := by rw [IntKind.wrap_i64, IntKind.wrap_i64]; omega
            have hs := (H.out.1.below (HW.out.drew)).setDue hi (s.tot + R - far d) (by omega) (by rw [← HR.out]; exact HZ.out) (by rw [← HR.out, ← HD.out]; omega)
            have HS := Lib.hid (And.intro hs (And.intro ev ev2))
            clear hs ev ev2 ht h60 hT
            go_wp2_with fail
            go_ret
            rw [HS.out.2.2]
            refine ⟨retB ?_, _, ?_, HS.out.1.1, (Chg.of_below HW.out.drew).trans HS.out.1.2 (fun _ h => Or.inl h)⟩
            · symm
              rw [decide_eq_true_eq]
              right
              rw [← HR.out, ← HD.out]
              omega
            · rfl
end Go.Proofs.YtbplmbignalbgaaDoor
