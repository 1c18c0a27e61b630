/- Contracts: a number read from a text. Conditions: the digits are not too many. -/
import Derived.Test.YtihgefllmkicaaaDoorBaC
import Derived.Test.YtihgefllmkicaaaDoorBgY
import Derived.Test.YtihgefllmkicaaaDoorBgV
namespace Go.Proofs.YtihgefllmkicaaaDoor
open Go.RowKit Bg
set_option linter.unusedVariables false
set_option linter.unusedSimpArgs false


def pBody (s : ByteArray) : ByteArray := if 0 < s.size ∧ ((byL s).getD 0 0 = 45 ∨ (byL s).getD 0 0 = 43) then s.extract 1 s.size else s
def pNeg (s : ByteArray) : Bool := decide (0 < s.size ∧ (byL s).getD 0 0 = 45)
def ParseIs (B : Nat) (w' : World) (e : Ending) (s : ByteArray) : Prop :=
  (isDec (pBody s) = true ∧ ∃ v, e = .returned (.tuple #[v, .int .i64 0]) ∧ IsNum B w' v (if pNeg s = true then - decv (byL (pBody s)) else decv (byL (pBody s)))) ∨
  (isDec (pBody s) = false ∧ e = .returned (.tuple #[.agg #[.bool false, .slice none 0 0], .int .i64 4]))
theorem extract_size (s : ByteArray) (h : 0 < s.size) : (s.extract 1 s.size).size ≤ s.size := by
  rw [ByteArray.size_extract]; omega
set_option maxRecDepth 100000 in
set_option maxHeartbeats 40000000 in
theorem parse_at (s : ByteArray) (hs : s.size ≤ 300) (w : World) : Calls Tryd.prog 22 #[.string s] w fun e w' => ParseIs w.heap.size w' e s ∧ Below w.heap.size w w' := by
  obtain ⟨W, hW⟩ : ∃ W, W = w.alloc (.cells #[.bool false, .slice none 0 0] 24) := ⟨_, rfl⟩
  have hB : Below w.heap.size w W := by rw [hW]; exact (Below.refl _ _).alloc (Nat.le_refl _) _
  have hx : Box W w.heap.size (.bool false) (.slice none 0 0) := by rw [hW]; exact Box.fresh _ _ _ rfl
  have hS : W.heap.size = w.heap.size + 1 := by rw [hW]; simp
  have HH := Lib.hid (And.intro hB (And.intro hx hS))
  clear hB hx hS
  go_enter Tryd.func22, Tryd.ntmps22
  by_cases h0 : 0 < s.size
  · have hne : ¬ s = ByteArray.mk #[] := fun h => by rw [h] at h0; exact absurd h0 (by decide)
    have hn2 : s.toList = [] ↔ False := by
      constructor
      · intro h
        rw [ByteArray.toList_eq] at h
        have h2 : s.data.toList.length = 0 := by rw [h]; rfl
        rw [Array.length_toList] at h2
        exact absurd h0 (by show ¬ 0 < s.data.size; omega)
      · exact False.elim
    have hn3 : s.toList.isEmpty = false := by rw [Bool.eq_false_iff]; intro h; rw [List.isEmpty_iff] at h; exact hn2.1 h
    have hi : (0 : Int) < (s.size : Int) := by omega
    have hg := byL_get s h0
    by_cases h45 : (s[0].toNat : Int) = 45
    · have hpb : pBody s = s.extract 1 s.size := by unfold pBody; rw [if_pos ⟨h0, Or.inl (by rw [hg]; exact h45)⟩]
      have hpn : pNeg s = true := by unfold pNeg; rw [decide_eq_true_eq]; exact ⟨h0, by rw [hg]; exact h45⟩
      clear hne hg
      go_wp2_with fail
      obtain ⟨b, hb⟩ : ∃ b, b = s.extract 1 s.size := ⟨_, rfl⟩
      rw [← hb, ← hW]
      clear hW
      have hbz : b.size ≤ 300 := by rw [hb]; have := extract_size s h0; omega
      rw [← hb] at hpb
      have HP := Lib.hid (And.intro hpb hpn)
      clear hb hpb hpn
      refine (isDecimal_at b (by omega) W).mono ?_
      rintro e w2 ⟨rfl, rfl⟩
      have hx := HH.out.2.1
      by_cases hd : isDec b = true
      · have G1 := Lib.hid (grouped_at b (by omega) (by unfold isDec at hd; rw [Bool.and_eq_true] at hd; exact hd.2) W)
        have hb0 : 0 < b.size := by unfold isDec at hd; rw [Bool.and_eq_true, decide_eq_true_eq] at hd; exact hd.1
        clear hx
        go_wp2_with fail
        refine G1.out.mono ?_
        rintro e w3 ⟨v3, D, rfl, oD, dD, vD, lD, zD, B3⟩
        obtain ⟨p3, c3, rfl, a3, -⟩ := oD.arg
        have R1 := Lib.hid (rebased_at a3 dD (F := 10000) (R := 65536) (by decide) (by decide) (zD hb0) (by omega))
        have H3 := Lib.hid (And.intro vD B3)
        clear oD a3 dD vD zD B3
        go_wp2_with fail
        refine R1.out.mono ?_
        rintro e w4 ⟨v4, E, rfl, oE, dE, tE, vE, B4⟩
        obtain ⟨p4, c4, rfl, -, -⟩ := oE.arg
        have B34 := H3.out.2.trans (B4.mono H3.out.2.size)
        have HE := Lib.hid (And.intro oE (And.intro dE (And.intro tE (And.intro (vE.trans H3.out.1) (And.intro B34 H3.out.2.size)))))
        clear oE dE tE vE B4 B34
        go_wp2_with fail
        obtain ⟨sg, hsg⟩ : ∃ sg, sg = (true && decide (0 < E.length)) := ⟨_, rfl⟩
        refine (signed_at _ _ _ _ _).mono ?_
        rintro e w5 ⟨rfl, B5⟩
        rw [← hsg]
        have HSG := Lib.hid hsg
        have hx4 := (HH.out.2.1.below HE.out.2.2.2.2.1).below B5
        have k7 := Box.first hx4 (.bool sg)
        have k6 := (hx4.store (.bool sg) (.slice p4 E.length c4)).2
        have hf0 := hx4.f0
        have hf1 := hx4.f1
        have hc0 := hx4.c0
        have hc1 := hx4.c1
        have HX4 := Lib.hid (And.intro hx4 B5)
        clear hsg hx4 B5
        go_wp2_with fail
        refine bodyPost_ret (v := .tuple #[.agg #[.bool sg, .slice p4 E.length c4], .int .i64 0]) (by simp [results, Tryd.results22, go_sem, k6, k7]) rfl ⟨Or.inl ⟨by rw [HP.out.1]; exact hd, _, rfl, ?_⟩, ?_⟩
        · rw [HSG.out, HP.out.1, HP.out.2]
          have hl5 : w.heap.size < w3.heap.size := by have := HE.out.2.2.2.2.2; have := HH.out.2.2; omega
          have hn4 : ∀ e, Value.ownBlock (.slice p4 E.length c4) = some e → e ≠ w.heap.size := fun e he h => by have := (World.ownsRow.lt HE.out.1 _ he).1; omega
          refine (isNum_of ((((HE.out.1.below HX4.out.2).other (a := ⟨w.heap.size, 0, none⟩) _ (fun h => hn4 _ h rfl)).other (a := ⟨w.heap.size, 1, none⟩) _ (fun h => hn4 _ h rfl)).base (Nat.le_of_lt hl5)) HE.out.2.1 HE.out.2.2.1 ?_)
          unfold nv
          rw [HE.out.2.2.2.1]
        · have h2 := (HH.out.1.trans (HE.out.2.2.2.2.1.mono HH.out.1.size))
          have h3 := h2.trans (HX4.out.2.mono h2.size)
          exact (h3.setCell (p := ⟨w.heap.size, 0, none⟩) (Nat.le_refl _) _).setCell (p := ⟨w.heap.size, 1, none⟩) (Nat.le_refl _) _
      · have hd' : isDec b = false := by simpa using hd
        have k7 := Box.first hx (.bool false)
        have k6 := (hx.store (.bool false) (.slice none 0 0)).2
        have hf0 := hx.f0
        have hf1 := hx.f1
        have hc0 := hx.c0
        have hc1 := hx.c1
        have HX4 := Lib.hid hx
        clear hd hx
        go_wp2_with fail
        refine bodyPost_ret (v := .tuple #[.agg #[.bool false, .slice none 0 0], .int .i64 4]) (by simp [results, Tryd.results22, go_sem, k6, k7]) rfl ⟨Or.inr ⟨by rw [HP.out.1]; exact hd', rfl⟩, ?_⟩
        exact (HH.out.1.setCell (p := ⟨w.heap.size, 0, none⟩) (Nat.le_refl _) _).setCell (p := ⟨w.heap.size, 1, none⟩) (Nat.le_refl _) _
    · have hpn : pNeg s = false := by unfold pNeg; rw [decide_eq_false_iff_not]; exact fun h => h45 (by rw [← hg]; exact h.2)
      have q1 : decide ((s[0].toNat : Int) = 45) = false := decide_eq_false h45
      by_cases h43 : (s[0].toNat : Int) = 43
      · have hpb : pBody s = s.extract 1 s.size := by unfold pBody; rw [if_pos ⟨h0, Or.inr (by rw [hg]; exact h43)⟩]
        clear hne hg
        go_wp2_with fail
        obtain ⟨b, hb⟩ : ∃ b, b = s.extract 1 s.size := ⟨_, rfl⟩
        rw [← hb, ← hW]
        clear hW
        have hbz : b.size ≤ 300 := by rw [hb]; have := extract_size s h0; omega
        rw [← hb] at hpb
        have HP := Lib.hid (And.intro hpb hpn)
        clear hb hpb hpn
        refine (isDecimal_at b (by omega) W).mono ?_
        rintro e w2 ⟨rfl, rfl⟩
        have hx := HH.out.2.1
        by_cases hd : isDec b = true
        · have G1 := Lib.hid (grouped_at b (by omega) (by unfold isDec at hd; rw [Bool.and_eq_true] at hd; exact hd.2) W)
          have hb0 : 0 < b.size := by unfold isDec at hd; rw [Bool.and_eq_true, decide_eq_true_eq] at hd; exact hd.1
          clear hx
          go_wp2_with fail
          refine G1.out.mono ?_
          rintro e w3 ⟨v3, D, rfl, oD, dD, vD, lD, zD, B3⟩
          obtain ⟨p3, c3, rfl, a3, -⟩ := oD.arg
          have R1 := Lib.hid (rebased_at a3 dD (F := 10000) (R := 65536) (by decide) (by decide) (zD hb0) (by omega))
          have H3 := Lib.hid (And.intro vD B3)
          clear oD a3 dD vD zD B3
          go_wp2_with fail
          refine R1.out.mono ?_
          rintro e w4 ⟨v4, E, rfl, oE, dE, tE, vE, B4⟩
          obtain ⟨p4, c4, rfl, -, -⟩ := oE.arg
          have B34 := H3.out.2.trans (B4.mono H3.out.2.size)
          have HE := Lib.hid (And.intro oE (And.intro dE (And.intro tE (And.intro (vE.trans H3.out.1) (And.intro B34 H3.out.2.size)))))
          clear oE dE tE vE B4 B34
          go_wp2_with fail
          obtain ⟨sg, hsg⟩ : ∃ sg, sg = (false && decide (0 < E.length)) := ⟨_, rfl⟩
          refine (signed_at _ _ _ _ _).mono ?_
          rintro e w5 ⟨rfl, B5⟩
          rw [← hsg]
          have HSG := Lib.hid hsg
          have hx4 := (HH.out.2.1.below HE.out.2.2.2.2.1).below B5
          have k7 := Box.first hx4 (.bool sg)
          have k6 := (hx4.store (.bool sg) (.slice p4 E.length c4)).2
          have hf0 := hx4.f0
          have hf1 := hx4.f1
          have hc0 := hx4.c0
          have hc1 := hx4.c1
          have HX4 := Lib.hid (And.intro hx4 B5)
          clear hsg hx4 B5
          go_wp2_with fail
          refine bodyPost_ret (v := .tuple #[.agg #[.bool sg, .slice p4 E.length c4], .int .i64 0]) (by simp [results, Tryd.results22, go_sem, k6, k7]) rfl ⟨Or.inl ⟨by rw [HP.out.1]; exact hd, _, rfl, ?_⟩, ?_⟩
          · rw [HSG.out, HP.out.1, HP.out.2]
            have hl5 : w.heap.size < w3.heap.size := by have := HE.out.2.2.2.2.2; have := HH.out.2.2; omega
            have hn4 : ∀ e, Value.ownBlock (.slice p4 E.length c4) = some e → e ≠ w.heap.size := fun e he h => by have := (World.ownsRow.lt HE.out.1 _ he).1; omega
            refine (isNum_of ((((HE.out.1.below HX4.out.2).other (a := ⟨w.heap.size, 0, none⟩) _ (fun h => hn4 _ h rfl)).other (a := ⟨w.heap.size, 1, none⟩) _ (fun h => hn4 _ h rfl)).base (Nat.le_of_lt hl5)) HE.out.2.1 HE.out.2.2.1 ?_)
            unfold nv
            rw [HE.out.2.2.2.1]
          · have h2 := (HH.out.1.trans (HE.out.2.2.2.2.1.mono HH.out.1.size))
            have h3 := h2.trans (HX4.out.2.mono h2.size)
            exact (h3.setCell (p := ⟨w.heap.size, 0, none⟩) (Nat.le_refl _) _).setCell (p := ⟨w.heap.size, 1, none⟩) (Nat.le_refl _) _
        · have hd' : isDec b = false := by simpa using hd
          have k7 := Box.first hx (.bool false)
          have k6 := (hx.store (.bool false) (.slice none 0 0)).2
          have hf0 := hx.f0
          have hf1 := hx.f1
          have hc0 := hx.c0
          have hc1 := hx.c1
          have HX4 := Lib.hid hx
          clear hd hx
          go_wp2_with fail
          refine bodyPost_ret (v := .tuple #[.agg #[.bool false, .slice none 0 0], .int .i64 4]) (by simp [results, Tryd.results22, go_sem, k6, k7]) rfl ⟨Or.inr ⟨by rw [HP.out.1]; exact hd', rfl⟩, ?_⟩
          exact (HH.out.1.setCell (p := ⟨w.heap.size, 0, none⟩) (Nat.le_refl _) _).setCell (p := ⟨w.heap.size, 1, none⟩) (Nat.le_refl _) _
      · have hpb : pBody s = s := by unfold pBody; rw [if_neg (fun h => by rw [hg] at h; exact h.2.elim h45 h43)]
        have q2 : decide ((s[0].toNat : Int) = 43) = false := decide_eq_false h43
        have r1 : ((s[0].toNat : Int) == 45) = false := q1
        have r2 : ((s[0].toNat : Int) == 43) = false := q2
        clear hne hg
        go_wp2_with fail
        rw [← hW]
        clear hW
        have HP := Lib.hid (And.intro hpb hpn)
        clear hpb hpn
        refine (isDecimal_at s (by omega) W).mono ?_
        rintro e w2 ⟨rfl, rfl⟩
        have hx := HH.out.2.1
        by_cases hd : isDec s = true
        · have G1 := Lib.hid (grouped_at s (by omega) (by unfold isDec at hd; rw [Bool.and_eq_true] at hd; exact hd.2) W)
          have hb0 : 0 < s.size := by unfold isDec at hd; rw [Bool.and_eq_true, decide_eq_true_eq] at hd; exact hd.1
          clear hx
          go_wp2_with fail
          refine G1.out.mono ?_
          rintro e w3 ⟨v3, D, rfl, oD, dD, vD, lD, zD, B3⟩
          obtain ⟨p3, c3, rfl, a3, -⟩ := oD.arg
          have R1 := Lib.hid (rebased_at a3 dD (F := 10000) (R := 65536) (by decide) (by decide) (zD hb0) (by omega))
          have H3 := Lib.hid (And.intro vD B3)
          clear oD a3 dD vD zD B3
          go_wp2_with fail
          refine R1.out.mono ?_
          rintro e w4 ⟨v4, E, rfl, oE, dE, tE, vE, B4⟩
          obtain ⟨p4, c4, rfl, -, -⟩ := oE.arg
          have B34 := H3.out.2.trans (B4.mono H3.out.2.size)
          have HE := Lib.hid (And.intro oE (And.intro dE (And.intro tE (And.intro (vE.trans H3.out.1) (And.intro B34 H3.out.2.size)))))
          clear oE dE tE vE B4 B34
          go_wp2_with fail
          obtain ⟨sg, hsg⟩ : ∃ sg, sg = (false && decide (0 < E.length)) := ⟨_, rfl⟩
          refine (signed_at _ _ _ _ _).mono ?_
          rintro e w5 ⟨rfl, B5⟩
          rw [← hsg]
          have HSG := Lib.hid hsg
          have hx4 := (HH.out.2.1.below HE.out.2.2.2.2.1).below B5
          have k7 := Box.first hx4 (.bool sg)
          have k6 := (hx4.store (.bool sg) (.slice p4 E.length c4)).2
          have hf0 := hx4.f0
          have hf1 := hx4.f1
          have hc0 := hx4.c0
          have hc1 := hx4.c1
          have HX4 := Lib.hid (And.intro hx4 B5)
          clear hsg hx4 B5
          go_wp2_with fail
          refine bodyPost_ret (v := .tuple #[.agg #[.bool sg, .slice p4 E.length c4], .int .i64 0]) (by simp [results, Tryd.results22, go_sem, k6, k7]) rfl ⟨Or.inl ⟨by rw [HP.out.1]; exact hd, _, rfl, ?_⟩, ?_⟩
          · rw [HSG.out, HP.out.1, HP.out.2]
            have hl5 : w.heap.size < w3.heap.size := by have := HE.out.2.2.2.2.2; have := HH.out.2.2; omega
            have hn4 : ∀ e, Value.ownBlock (.slice p4 E.length c4) = some e → e ≠ w.heap.size := fun e he h => by have := (World.ownsRow.lt HE.out.1 _ he).1; omega
            refine (isNum_of ((((HE.out.1.below HX4.out.2).other (a := ⟨w.heap.size, 0, none⟩) _ (fun h => hn4 _ h rfl)).other (a := ⟨w.heap.size, 1, none⟩) _ (fun h => hn4 _ h rfl)).base (Nat.le_of_lt hl5)) HE.out.2.1 HE.out.2.2.1 ?_)
            unfold nv
            rw [HE.out.2.2.2.1]
          · have h2 := (HH.out.1.trans (HE.out.2.2.2.2.1.mono HH.out.1.size))
            have h3 := h2.trans (HX4.out.2.mono h2.size)
            exact (h3.setCell (p := ⟨w.heap.size, 0, none⟩) (Nat.le_refl _) _).setCell (p := ⟨w.heap.size, 1, none⟩) (Nat.le_refl _) _
        · have hd' : isDec s = false := by simpa using hd
          have k7 := Box.first hx (.bool false)
          have k6 := (hx.store (.bool false) (.slice none 0 0)).2
          have hf0 := hx.f0
          have hf1 := hx.f1
          have hc0 := hx.c0
          have hc1 := hx.c1
          have HX4 := Lib.hid hx
          clear hd hx
          go_wp2_with fail
          refine bodyPost_ret (v := .tuple #[.agg #[.bool false, .slice none 0 0], .int .i64 4]) (by simp [results, Tryd.results22, go_sem, k6, k7]) rfl ⟨Or.inr ⟨by rw [HP.out.1]; exact hd', rfl⟩, ?_⟩
          exact (HH.out.1.setCell (p := ⟨w.heap.size, 0, none⟩) (Nat.le_refl _) _).setCell (p := ⟨w.heap.size, 1, none⟩) (Nat.le_refl _) _
  · have hz : s = ByteArray.mk #[] := by
      have h1 : s.size = 0 := by omega
      exact ByteArray.ext (Array.eq_empty_of_size_eq_zero h1)
    have hpb : pBody s = s := by unfold pBody; rw [if_neg (fun h => h0 h.1)]
    have hpn : pNeg s = false := by unfold pNeg; rw [decide_eq_false_iff_not]; exact fun h => h0 h.1
    have hne : True := trivial
    have hg : True := trivial
    have hn2 : s.toList = [] := by rw [hz, ByteArray.toList_eq]
    clear hz
    clear hne hg
    go_wp2_with fail
    rw [← hW]
    clear hW
    have HP := Lib.hid (And.intro hpb hpn)
    clear hpb hpn
    refine (isDecimal_at s (by omega) W).mono ?_
    rintro e w2 ⟨rfl, rfl⟩
    have hx := HH.out.2.1
    by_cases hd : isDec s = true
    · have G1 := Lib.hid (grouped_at s (by omega) (by unfold isDec at hd; rw [Bool.and_eq_true] at hd; exact hd.2) W)
      have hb0 : 0 < s.size := by unfold isDec at hd; rw [Bool.and_eq_true, decide_eq_true_eq] at hd; exact hd.1
      exact absurd hb0 h0
    · have hd' : isDec s = false := by simpa using hd
      have k7 := Box.first hx (.bool false)
      have k6 := (hx.store (.bool false) (.slice none 0 0)).2
      have hf0 := hx.f0
      have hf1 := hx.f1
      have hc0 := hx.c0
      have hc1 := hx.c1
      have HX4 := Lib.hid hx
      clear hd hx
      go_wp2_with fail
      refine bodyPost_ret (v := .tuple #[.agg #[.bool false, .slice none 0 0], .int .i64 4]) (by simp [results, Tryd.results22, go_sem, k6, k7]) rfl ⟨Or.inr ⟨by rw [HP.out.1]; exact hd', rfl⟩, ?_⟩
      exact (HH.out.1.setCell (p := ⟨w.heap.size, 0, none⟩) (Nat.le_refl _) _).setCell (p := ⟨w.heap.size, 1, none⟩) (Nat.le_refl _) _
end Go.Proofs.YtihgefllmkicaaaDoor
