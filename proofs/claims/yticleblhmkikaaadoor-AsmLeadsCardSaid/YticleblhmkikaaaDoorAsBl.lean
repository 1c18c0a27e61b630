/- The walk of AsmLeads: each branch and jump leads to its label. Conditions: the items lie as told; the table of forms is as laid. -/
import Derived.Test.YticleblhmkikaaaDoorAsBk
namespace Go.Proofs.YticleblhmkikaaaDoor
open Go.RowKit Asm
set_option linter.unusedVariables false
set_option linter.unusedSimpArgs false

theorem st_to {X : Nat → It} {n i : Nat} {base : Int} {f : Nat → Nat} {T : Int} (hk : (X i).kind = 3 ∨ (X i).kind = 4) (hlost : lost X n n = false) (hi : i < n) (hT : T = match st X (X i).lab n with | some j => ad X base f j | none => -1) : T = ad X base f (tgt X n i) := by
  have hs := lost_parts hlost i hi (by unfold named; simp; omega)
  rw [hT]
  unfold tgt
  cases hst : st X (X i).lab n with
  | none => rw [hst] at hs; cases hs
  | some j => rfl
theorem one_size {X : Nat → It} {n i : Nat} {f : Nat → Nat} (hv : valid X n f) (hi : i < n) (hk : (X i).kind = 3 ∨ (X i).kind = 4) : 1 ≤ isz (X i) (f i) := by
  have := hv.one hi hk
  unfold isz
  rcases hk with hk | hk <;> rw [hk] <;> (repeat' split) <;> omega
theorem jump_size {X : Nat → It} {n i : Nat} {f : Nat → Nat} (hv : valid X n f) (hi : i < n) (hk : (X i).kind = 4) : isz (X i) (f i) = 1 ∨ isz (X i) (f i) = 3 := by
  have := hv.one hi (Or.inr hk)
  unfold isz
  rw [hk]
  simp only [show ¬ ((4 : Int) = 2) by decide, show ¬ ((4 : Int) = 3) by decide, if_false, if_true]
  split <;> simp
theorem slice_eq {p : Option Addr} {a b c d : Nat} (h1 : a = b) (h2 : c = d) : Value.slice p a c = Value.slice p b d := by rw [h1, h2]
theorem tests27 {off ν M : Nat} (h : (off : Int) + (ν : Int) ≤ (M : Int)) : decide ((ν : Int) < 0) = false ∧ decide ((ν : Int) > (M : Int)) = false ∧ decide ((M : Int) < (ν : Int)) = false ∧ decide ((off : Int) + (ν : Int) > (M : Int)) = false ∧ decide ((M : Int) < (off : Int) + (ν : Int)) = false :=
  ⟨decide_eq_false (by omega), decide_eq_false (by omega), decide_eq_false (by omega), decide_eq_false (by omega), decide_eq_false (by omega)⟩
set_option maxRecDepth 100000 in
set_option maxHeartbeats 40000000 in
theorem leads_any {w : World} {p : Option Addr} {n c : Nat} {X : Nat → It} (h : Items w p n c X) (hE : Env w) (base : Int) : Calls Tryd.prog 5 #[.slice p n c, .int .i64 base] w fun e w' => e = .returned (.bool true) ∧ Below w.heap.size w w' := by
  have hla := large_at h
  have HE := Lib.hid hE
  have HI := Lib.hid h
  clear h hE
  go_enter Tryd.func5, Tryd.ntmps5
  go_wp2_with fail
  refine hla.mono ?_
  rintro e w0 ⟨⟨b, rfl, hb⟩, rfl⟩
  clear hla
  cases b with
  | true =>
    as_aux_lemma =>
      clear hb
      go_wp2_with fail
      refine (awake_any _ HE.out).mono ?_
      rintro e w1 ⟨rfl, hb⟩
      have HB := Lib.hid hb
      clear hb
      go_wp2_with fail
      go_ret
      exact ⟨rfl, HB.out⟩
  | false =>
    have hn : n ≤ 60 := by rcases hb with h | h; cases h; exact h
    clear hb
    go_wp2_with fail
    refine (assemble_at HI.out HE.out hn base).mono ?_
    rintro e w1 ⟨ha0, hb⟩
    obtain ⟨wv, pv, c1, rfl, ha⟩ := assembled_split ha0
    clear ha0
    have HA := Lib.hid ha
    have HB := Lib.hid hb
    clear ha hb
    go_wp2_with fail
    refine (forms_at (HI.out.below HB.out) (HE.out.below HB.out) hn base).mono ?_
    rintro e w2 ⟨ha0, hb⟩
    obtain ⟨fv, c2, rfl, ha⟩ := forms_split ha0
    clear ha0
    have HB2 := Lib.hid hb
    clear hb
    rcases outcome_pair HA.out ha with ⟨k, hk, ⟨rfl, rfl, rfl⟩, ⟨rfl, rfl⟩⟩ | ⟨hc, f, f', hl, hff, hlong, ⟨rfl, O, rfl, hwd, hpl⟩, ⟨rfl, F, rfl, hF, hFb⟩⟩
    · as_aux_lemma =>
        have d0 : (c2 != 0) = true := by simp [hk]
        clear ha HA hk
        go_wp2_with fail
        refine (awake_any _ (HE.out.below (HB.out.trans (HB2.out.mono HB.out.size)))).mono ?_
        rintro e w3 ⟨rfl, hb⟩
        have HB3 := Lib.hid hb
        clear hb
        go_wp2_with fail
        go_ret
        exact ⟨rfl, (HB.out.trans (HB2.out.mono HB.out.size)).trans (HB3.out.mono (Nat.le_trans HB.out.size HB2.out.size))⟩
    · clear ha HA
      have HBB := Lib.hid (HB.out.trans (HB2.out.mono HB.out.size))
      have hI2 : Items w2 p n c X := HI.out.below HBB.out
      have hcf : ∀ i, i < n → w2.cell? ⟨F, i, none⟩ = some (.int .i64 (f i)) := fun i hi => by
        have := cellF hF i hi
        rw [this]
        show some (Value.int .i64 (f' i : Int)) = _
        rw [hff i hi]
      have hword := HI.out.word
      have hwl := wordsL_len hl.1.1 (fun i hi => (hword i hi).1) (kind_of hc) n (Nat.le_refl n) (base := base)
      have hbr := check_range hc
      have hww := hwd.keep (HB2.out.block _ hwd.lt.2)
      obtain ⟨BO, hBO⟩ : ∃ BO, BO = w.heap.size := ⟨_, rfl⟩
      rw [← hBO] at hww
      obtain ⟨m, hm⟩ : ∃ m, m = (placesL X (ad X base f) n).length := ⟨_, rfl⟩
      have hm60 : m ≤ n := by rw [hm]; exact placesL_len _ _ _
      obtain ⟨pp, pc, rfl, hpp⟩ : ∃ pp pc, pv = .slice pp m pc ∧ (0 < m → ∃ g, pp = some ⟨g, 0, none⟩ ∧ ∀ j (hj : j < (placesL X (ad X base f) n).length), w2.cell? ⟨g, j * 2, none⟩ = some (.string (placesL X (ad X base f) n)[j].1) ∧ w2.cell? ⟨g, j * 2 + 1, none⟩ = some (.int .i64 (placesL X (ad X base f) n)[j].2)) := by
        have ho := own_below hpl HB2.out
        rcases hpl.2 with ⟨rfl, h0⟩ | ⟨g, cap, cur, rfl, hg, -⟩
        · exact ⟨none, 0, by rw [hm, h0], fun h => by omega⟩
        · refine ⟨some ⟨g, 0, none⟩, cap, by rw [hm], fun _ => ⟨g, rfl, fun j hj => ?_⟩⟩
          obtain ⟨g1, g2⟩ := rowP_get _ hj
          exact ⟨(ho.cellAt (j * 2) (by omega)).trans g1, (ho.cellAt (j * 2 + 1) (by omega)).trans g2⟩
      obtain ⟨M, hM⟩ : ∃ M, M = (wordsL X n base f n).length := ⟨_, rfl⟩
      rw [← hM] at hwl hww ⊢
      have hM2 : (M : Int) ≤ 67108864 := by omega
      have H := Lib.hid (And.intro hc (And.intro hl (And.intro hlong (And.intro hcf (And.intro hm (And.intro hpp hww))))))
      clear hM hc hl hI2 hcf hpp hF hFb hwd hpl hff hm hword hBO hww hlong
      go_wp2_with fail
      go_loopw [10, 11, 12] (fun s10 s11 s12 wr => ∃ k : Nat, s12 = .int .i64 k ∧ k ≤ n ∧ s10 = .int .i64 (ad X base f k) ∧ s11 = .int .i64 ((placesL X (ad X base f) k).length : Nat) ∧ Below w2.heap.size w2 wr) (fun _ _ s12 _ => n - (intOf s12).toNat)
      case atStart => exact ⟨0, rfl, Nat.zero_le _, rfl, rfl, Below.refl _ _⟩
      case round =>
        obtain ⟨k, rfl, hk, rfl, rfl, hb⟩ := hrel
        have hwd : ∀ i, i < n → 0 ≤ (X i).word := fun i hi => (HI.out.word i hi).1
        by_cases hlt : k < n
        · as_aux_lemma =>
            have d1 : decide ((k : Int) < (n : Int)) = true := by simp; omega
            have ek : (k : Int) < (n : Int) := by omega
            obtain ⟨ib, io, hp, k0, k1, k2, k3, k4, k5, k6, k7⟩ := (HI.out.below (HBB.out.trans (hb.mono HBB.out.size))).at hlt
            rw [hp]
            have hal := (Below.refl wr.heap.size wr).alloc (Nat.le_refl _) (.cells #[.int .i64 (X k).kind, .int .i64 (X k).op, .int .i64 (X k).d, .int .i64 (X k).a, .int .i64 (X k).b, .int .i64 (X k).imm, .string (X k).lab, .int .u32 (X k).word] 44)
            have hN := cells8 (heap_new wr (.cells #[.int .i64 (X k).kind, .int .i64 (X k).op, .int .i64 (X k).d, .int .i64 (X k).a, .int .i64 (X k).b, .int .i64 (X k).imm, .string (X k).lab, .int .u32 (X k).word] 44))
            obtain ⟨w3, hw3⟩ : ∃ w3, w3 = wr.alloc (.cells #[.int .i64 (X k).kind, .int .i64 (X k).op, .int .i64 (X k).d, .int .i64 (X k).a, .int .i64 (X k).b, .int .i64 (X k).imm, .string (X k).lab, .int .u32 (X k).word] 44) := ⟨_, rfl⟩
            obtain ⟨Q, hQ⟩ : ∃ Q, Q = wr.heap.size := ⟨_, rfl⟩
            rw [← hw3, ← hQ] at hN
            rw [← hw3] at hal
            have HB3 := Lib.hid (hb.trans (hal.mono hb.size))
            obtain ⟨wl, wu⟩ := HI.out.word k hlt
            have HP := Lib.hid hp
            clear hb hal hp
            go_upto_region 13 with fail
            rw [← hw3, ← hQ]
            clear hw3 hQ k0 k1 k2 k3 k4 k5 k6 k7
            have HN := Lib.hid hN
            obtain ⟨k0, k1, k2, k3, k4, k5, k6, k7⟩ := hN
            clear k1 k2 k3 k4 k5
            have cf := (HB3.out.cell (p := ⟨F, k, none⟩) (World.block_lt_of_cell? w2 _ (H.out.2.2.2.1 k hlt))).trans (H.out.2.2.2.1 k hlt)
            obtain ⟨a, ha⟩ : ∃ a, a = ad X base f k := ⟨_, rfl⟩
            have hv := H.out.2.1.1.1 k hlt
            have e1 : ad X base f (k + 1) = a + isz (X k) (f k) := by rw [ha]; rfl
            have hm1 := ad_mono (X := X) (base := base) (f := f) (i := 0) (j := k) (fun i hi => hwd i (by omega)) (Nat.zero_le _)
            have hm2 := ad_mono (X := X) (base := base) (f := f) (i := k + 1) (j := n) hwd hlt
            have hNn : 0 ≤ isz (X k) (f k) := isz_nonneg wl
            have e0 : ad X base f 0 = base := rfl
            rw [e0, ← ha] at hm1
            rw [e1] at hm2
            rw [← ha]
            have HAN := Lib.hid (And.intro ha e1)
            clear e0
            by_cases hk2 : (X k).kind = 2
            · as_aux_lemma =>
                clear e1 ha
                have q2 : ((X k).kind == 2) = true := by rw [hk2]; rfl
                obtain ⟨cn, hcn⟩ : ∃ cn, cn = (placesL X (ad X base f) k).length := ⟨_, rfl⟩
                have hpl := placesL_here (g := ad X base f) hk2 hlt
                rw [← hcn] at hpl ⊢
                have hcm : cn < m := by
                  rw [H.out.2.2.2.2.1]
                  exact (List.getElem?_eq_some_iff.1 hpl).1
                obtain ⟨g, hpe, hcell⟩ := H.out.2.2.2.2.2.1 (by omega)
                obtain ⟨z1, z2⟩ := hcell cn (by rw [← H.out.2.2.2.2.1]; exact hcm)
                have hpx : (placesL X (ad X base f) n)[cn]'(by rw [← H.out.2.2.2.2.1]; exact hcm) = ((X k).lab, a) := by
                  have := (List.getElem?_eq_some_iff.1 hpl).2
                  rw [this, ← HAN.out.1]
                rw [hpx] at z1 z2
                have y1 := (HB3.out.cell (p := ⟨g, cn * 2, none⟩) (World.block_lt_of_cell? w2 _ z1)).trans z1
                have y2 := (HB3.out.cell (p := ⟨g, cn * 2 + 1, none⟩) (World.block_lt_of_cell? w2 _ z2)).trans z2
                subst hpe
                have d5 : decide ((cn : Int) ≥ (m : Int)) = false := by simp; omega
                have d6 : decide ((m : Int) ≤ (cn : Int)) = false := by simp; omega
                have d7 : (cn : Int) < (m : Int) := by omega
                have hN0 : isz (X k) (f k) = 0 := by unfold isz; rw [hk2]; rfl
                have HL := Lib.hid (And.intro hcn (And.intro hN0 hk2))
                clear hcn hpl hcell z1 z2 hpx hN0 hk2 hv cf k7 HN hm1 hm2 hNn
                go_wp2_with fail
                go_quiet (fail)
                go_wp2_with fail
                go_roundw
                case rel => exact ⟨k + 1, by go_num, hlt, by rw [HAN.out.2, HL.out.2.1, Int.add_zero], by rw [placesL_next HL.out.2.2, ← HL.out.1]; go_num, below_drewN HB3.out nq⟩
                case measure => simp [intOf]; omega
            · have hwo := wordsL_len H.out.2.1.1.1 hwd (kind_of H.out.1) k (by omega) (base := base)
              obtain ⟨off, hoff⟩ : ∃ off, off = (wordsL X n base f k).length := ⟨_, rfl⟩
              obtain ⟨ν, hν⟩ : ∃ ν : Nat, (ν : Int) = isz (X k) (f k) := ⟨(isz (X k) (f k)).toNat, by omega⟩
              rw [← hoff, ← ha] at hwo
              rw [← hν] at hm2
              have HNU := Lib.hid hν
              have HOFF := Lib.hid (And.intro hoff hwo)
              obtain ⟨cn, hcn⟩ : ∃ cn, cn = (placesL X (ad X base f) k).length := ⟨_, rfl⟩
              rw [← hcn]
              have HCN := Lib.hid hcn
              clear e1 ha hcn hoff hν hNn
              have hlg := H.out.2.2.1
              have hal : 0 ≤ a ∧ a ≤ 67108864 := by omega
              have hon : (off : Int) + (ν : Int) ≤ (M : Int) := by omega
              have e5 : a - base = (off : Int) := by omega
              have hof : (off : Int) ≤ 67108864 := by omega
              have hnu : (ν : Int) ≤ 67108864 := by omega
              have HE5 := Lib.hid e5
              clear hwo hm1 hm2 hlg hwl
              go_upto_block 2 with fail
              go_cut [11, 14] (fun d c wx => w3 = wx ∧ d = .int .i64 (cn : Int) ∧ c = .int .i64 (ν : Int))
              case first =>
                as_aux_lemma =>
                  clear hon e5 hof hnu hal
                  by_cases hk3 : (X k).kind = 3
                  · have hv3 : 1 ≤ f k ∧ f k ≤ 3 := by rw [if_pos hk3] at hv; exact hv
                    rcases (show f k = 1 ∨ f k = 2 ∨ f k = 3 by omega) with hf | hf | hf
                    · as_aux_lemma =>
                        clear hv3
                        have q2 : ((X k).kind == 2) = false := by rw [hk3]; rfl
                        have q8 : ((X k).kind == 8) = false := by rw [hk3]; rfl
                        have q5 : ((X k).kind == 5) = false := by rw [hk3]; rfl
                        have q3 : ((X k).kind == 3) = true := by rw [hk3]; rfl
                        have q4 : ((X k).kind == 4) = false := by rw [hk3]; rfl
                        have cf2 : w3.cell? ⟨F, k, none⟩ = some (.int .i64 1) := by rw [cf, hf]; rfl
                        clear cf
                        have hV : (ν : Int) = 1 := by rw [HNU.out]; unfold isz; rw [hk3, hf]; rfl
                        have HV := Lib.hid hV
                        clear hV hv hk3 hf
                        go_wp2_with fail
                        go_meet
                        case rel => exact ⟨rfl, rfl, by rw [HV.out]⟩
                    · as_aux_lemma =>
                        clear hv3
                        have q2 : ((X k).kind == 2) = false := by rw [hk3]; rfl
                        have q8 : ((X k).kind == 8) = false := by rw [hk3]; rfl
                        have q5 : ((X k).kind == 5) = false := by rw [hk3]; rfl
                        have q3 : ((X k).kind == 3) = true := by rw [hk3]; rfl
                        have q4 : ((X k).kind == 4) = false := by rw [hk3]; rfl
                        have cf2 : w3.cell? ⟨F, k, none⟩ = some (.int .i64 2) := by rw [cf, hf]; rfl
                        clear cf
                        have hV : (ν : Int) = 2 := by rw [HNU.out]; unfold isz; rw [hk3, hf]; rfl
                        have HV := Lib.hid hV
                        clear hV hv hk3 hf
                        go_wp2_with fail
                        go_meet
                        case rel => exact ⟨rfl, rfl, by rw [HV.out]⟩
                    · as_aux_lemma =>
                        clear hv3
                        have q2 : ((X k).kind == 2) = false := by rw [hk3]; rfl
                        have q8 : ((X k).kind == 8) = false := by rw [hk3]; rfl
                        have q5 : ((X k).kind == 5) = false := by rw [hk3]; rfl
                        have q3 : ((X k).kind == 3) = true := by rw [hk3]; rfl
                        have q4 : ((X k).kind == 4) = false := by rw [hk3]; rfl
                        have cf2 : w3.cell? ⟨F, k, none⟩ = some (.int .i64 3) := by rw [cf, hf]; rfl
                        clear cf
                        have hV : (ν : Int) = 4 := by rw [HNU.out]; unfold isz; rw [hk3, hf]; rfl
                        have HV := Lib.hid hV
                        clear hV hv hk3 hf
                        go_wp2_with fail
                        go_meet
                        case rel => exact ⟨rfl, rfl, by rw [HV.out]⟩
                  · by_cases hk4 : (X k).kind = 4
                    · have hv4 : 1 ≤ f k ∧ f k ≤ 2 := by rw [if_neg hk3, if_pos hk4] at hv; exact hv
                      clear hk3
                      rcases (show f k = 1 ∨ f k = 2 by omega) with hf | hf
                      · as_aux_lemma =>
                          clear hv4
                          have q2 : ((X k).kind == 2) = false := by rw [hk4]; rfl
                          have q8 : ((X k).kind == 8) = false := by rw [hk4]; rfl
                          have q5 : ((X k).kind == 5) = false := by rw [hk4]; rfl
                          have q3 : ((X k).kind == 3) = false := by rw [hk4]; rfl
                          have q4 : ((X k).kind == 4) = true := by rw [hk4]; rfl
                          have cf2 : w3.cell? ⟨F, k, none⟩ = some (.int .i64 1) := by rw [cf, hf]; rfl
                          clear cf
                          have hV : (ν : Int) = 1 := by rw [HNU.out]; unfold isz; rw [hk4, hf]; rfl
                          have HV := Lib.hid hV
                          clear hV hv hk4 hf
                          go_wp2_with fail
                          go_meet
                          case rel => exact ⟨rfl, rfl, by rw [HV.out]⟩
                      · as_aux_lemma =>
                          clear hv4
                          have q2 : ((X k).kind == 2) = false := by rw [hk4]; rfl
                          have q8 : ((X k).kind == 8) = false := by rw [hk4]; rfl
                          have q5 : ((X k).kind == 5) = false := by rw [hk4]; rfl
                          have q3 : ((X k).kind == 3) = false := by rw [hk4]; rfl
                          have q4 : ((X k).kind == 4) = true := by rw [hk4]; rfl
                          have cf2 : w3.cell? ⟨F, k, none⟩ = some (.int .i64 2) := by rw [cf, hf]; rfl
                          clear cf
                          have hV : (ν : Int) = 3 := by rw [HNU.out]; unfold isz; rw [hk4, hf]; rfl
                          have HV := Lib.hid hV
                          clear hV hv hk4 hf
                          go_wp2_with fail
                          go_meet
                          case rel => exact ⟨rfl, rfl, by rw [HV.out]⟩
                    · by_cases hk8 : (X k).kind = 8
                      · as_aux_lemma =>
                          clear hk3 hk4 hk2
                          have q2 : ((X k).kind == 2) = false := by rw [hk8]; rfl
                          have q8 : ((X k).kind == 8) = true := by rw [hk8]; rfl
                          have q5 : ((X k).kind == 5) = false := by rw [hk8]; rfl
                          have q3 : ((X k).kind == 3) = false := by rw [hk8]; rfl
                          have q4 : ((X k).kind == 4) = false := by rw [hk8]; rfl
                          clear cf
                          have hV : (ν : Int) = (X k).word := by rw [HNU.out]; unfold isz; rw [hk8]; rfl
                          have HV := Lib.hid hV
                          clear hV hv hk8
                          go_wp2_with fail
                          go_meet
                          case rel => exact ⟨rfl, rfl, by rw [HV.out]⟩
                      · by_cases hk5 : (X k).kind = 5
                        · as_aux_lemma =>
                            clear hk3 hk4 hk2 hk8
                            have q2 : ((X k).kind == 2) = false := by rw [hk5]; rfl
                            have q8 : ((X k).kind == 8) = false := by rw [hk5]; rfl
                            have q5 : ((X k).kind == 5) = true := by rw [hk5]; rfl
                            have q3 : ((X k).kind == 3) = false := by rw [hk5]; rfl
                            have q4 : ((X k).kind == 4) = false := by rw [hk5]; rfl
                            clear cf
                            have hV : (ν : Int) = 2 := by rw [HNU.out]; unfold isz; rw [hk5]; rfl
                            have HV := Lib.hid hV
                            clear hV hv hk5
                            go_wp2_with fail
                            go_meet
                            case rel => exact ⟨rfl, rfl, by rw [HV.out]⟩
                        · as_aux_lemma =>
                            have q2 : ((X k).kind == 2) = false := by simp; omega
                            have q8 : ((X k).kind == 8) = false := by simp; omega
                            have q5 : ((X k).kind == 5) = false := by simp; omega
                            have q3 : ((X k).kind == 3) = false := by simp; omega
                            have q4 : ((X k).kind == 4) = false := by simp; omega
                            clear cf
                            have hV : (ν : Int) = 1 := by rw [HNU.out]; unfold isz; rw [if_neg (by omega), if_neg (by omega), if_neg (by omega), if_neg (by omega), if_neg (by omega)]
                            have HV := Lib.hid hV
                            clear hV hv hk2 hk8 hk5 hk3 hk4
                            go_wp2_with fail
                            go_meet
                            case rel => exact ⟨rfl, rfl, by rw [HV.out]⟩
              case rest =>
                as_aux_lemma =>
                  obtain ⟨rfl, rfl, rfl⟩ := hcut
                  clear hv cf
                  obtain ⟨d3, d4, d5, d6, d7⟩ := tests27 hon
                  go_upto_region 29 with fail
                  go_cut [15] (fun c wx => w3 = wx ∧ ∃ q, c = .slice q ν (M - off) ∧ Hid (1 ≤ ν → q = some ⟨O, off, none⟩))
                  case first =>
                    as_aux_lemma =>
                      have hge : (off : Int) ≤ (off : Int) + (ν : Int) := by omega
                      have hoi : (off : Int) ≤ (M : Int) := by omega
                      by_cases hoM : off = M
                      · as_aux_lemma =>
                          subst hoM
                          go_wp2_with fail
                          all_goals
                            go_meet
                            case rel => exact ⟨rfl, _, slice_eq (by omega) (by omega), Lib.hid (fun h => by omega)⟩
                      · as_aux_lemma =>
                          go_wp2_with fail
                          go_meet
                          case rel => exact ⟨rfl, _, slice_eq (by omega) rfl, Lib.hid (fun _ => rfl)⟩
                  case rest =>
                    as_aux_lemma =>
                      obtain ⟨rfl, q15, rfl, hsl⟩ := hcut
                      have HSL := Lib.hid (And.intro hsl.out hon)
                      clear hsl d3 d4 d5 d6 d7 k0 k6 k7 e5 hon
                      go_wp2_with fail
                      go_loopw [16, 17] (fun s16 s17 wx => ∃ j : Nat, s17 = .int .i64 j ∧ j ≤ m ∧ s16 = .int .i64 (tl (X k).lab ((placesL X (ad X base f) n).take j) (-1)) ∧ Below w3.heap.size w3 wx) (fun _ s17 _ => m - (intOf s17).toNat)
                      case atStart => exact ⟨0, rfl, Nat.zero_le _, rfl, Below.refl _ _⟩
                      case round =>
                        obtain ⟨j, rfl, hj, rfl, hb⟩ := hrel
                        by_cases hjt : j < m
                        · as_aux_lemma =>
                            have d2 : decide ((j : Int) < (m : Int)) = true := by simp; omega
                            have ej : (j : Int) < (m : Int) := by omega
                            have hjl : j < (placesL X (ad X base f) n).length := by rw [← H.out.2.2.2.2.1]; exact hjt
                            obtain ⟨g, hpe, hcell⟩ := H.out.2.2.2.2.2.1 (by omega)
                            obtain ⟨z1, z2⟩ := hcell j hjl
                            have hbx : Below w2.heap.size w2 wr := HB3.out.trans (hb.mono HB3.out.size)
                            have y1 := (hbx.cell (p := ⟨g, j * 2, none⟩) (World.block_lt_of_cell? w2 _ z1)).trans z1
                            have y2 := (hbx.cell (p := ⟨g, j * 2 + 1, none⟩) (World.block_lt_of_cell? w2 _ z2)).trans z2
                            have y6 := (hb.cell (p := ⟨Q, 6, none⟩) (World.block_lt_of_cell? w3 _ HN.out.2.2.2.2.2.2.1)).trans HN.out.2.2.2.2.2.2.1
                            have htk := tl_take (X k).lab (placesL X (ad X base f) n) (-1) hjl
                            obtain ⟨q, hq⟩ : ∃ q, q = (placesL X (ad X base f) n)[j] := ⟨_, rfl⟩
                            rw [← hq] at y1 y2 htk
                            rw [hpe]
                            have HX := Lib.hid (And.intro hb (And.intro hpe htk))
                            clear hb hpe htk hcell z1 z2 hbx hq
                            obtain ⟨t0, ht0⟩ : ∃ t0, t0 = tl (X k).lab ((placesL X (ad X base f) n).take j) (-1) := ⟨_, rfl⟩
                            rw [← ht0]
                            have HT := Lib.hid ht0
                            clear ht0
                            by_cases heq : q.1 = (X k).lab
                            · as_aux_lemma =>
                                have d3 := bl_true heq
                                have HQ := Lib.hid heq
                                clear heq
                                go_wp2_with fail
                                go_quiet (fail)
                                go_wp2_with fail
                                go_roundw
                                case rel => exact ⟨j + 1, by go_num, hjt, by rw [HX.out.2.2, if_pos HQ.out], below_drewN HX.out.1 nq⟩
                                case measure => simp [intOf]; omega
                            · as_aux_lemma =>
                                have d3 := bl_false heq
                                have HQ := Lib.hid heq
                                clear heq
                                go_wp2_with fail
                                go_quiet (fail)
                                go_wp2_with fail
                                go_roundw
                                case rel => exact ⟨j + 1, by go_num, hjt, by rw [HX.out.2.2, if_neg HQ.out, HT.out], below_drewN HX.out.1 nq⟩
                                case measure => simp [intOf]; omega
                        · as_aux_lemma =>
                            have hz : j = m := by omega
                            subst hz
                            have d2 : decide ((j : Int) < (j : Int)) = false := by simp
                            have hP : j = (placesL X (ad X base f) n).length := H.out.2.2.2.2.1
                            have hbx : Below w2.heap.size w2 wr := HB3.out.trans (hb.mono HB3.out.size)
                            obtain ⟨k0, k1, k2, k3, k4, k5, k6, k7⟩ := HN.out
                            replace k0 := (hb.cell (p := ⟨Q, 0, none⟩) (World.block_lt_of_cell? w3 _ k0)).trans k0
                            replace k1 := (hb.cell (p := ⟨Q, 1, none⟩) (World.block_lt_of_cell? w3 _ k1)).trans k1
                            replace k2 := (hb.cell (p := ⟨Q, 2, none⟩) (World.block_lt_of_cell? w3 _ k2)).trans k2
                            replace k3 := (hb.cell (p := ⟨Q, 3, none⟩) (World.block_lt_of_cell? w3 _ k3)).trans k3
                            replace k4 := (hb.cell (p := ⟨Q, 4, none⟩) (World.block_lt_of_cell? w3 _ k4)).trans k4
                            replace k5 := (hb.cell (p := ⟨Q, 5, none⟩) (World.block_lt_of_cell? w3 _ k5)).trans k5
                            replace k6 := (hb.cell (p := ⟨Q, 6, none⟩) (World.block_lt_of_cell? w3 _ k6)).trans k6
                            replace k7 := (hb.cell (p := ⟨Q, 7, none⟩) (World.block_lt_of_cell? w3 _ k7)).trans k7
                            obtain ⟨T, hT⟩ : ∃ T, T = tl (X k).lab ((placesL X (ad X base f) n).take j) (-1) := ⟨_, rfl⟩
                            rw [← hT]
                            have hT2 : T = match st X (X k).lab n with | some j => ad X base f j | none => -1 := by
                              rw [hT, hP, List.take_length]
                              exact tl_places (check_parts H.out.1).2.2.1
                            have HBx := Lib.hid hbx
                            have HOI := Lib.hid ((fun (hk : (X k).kind = 3 ∨ (X k).kind = 4) => ⟨H.out.2.2.2.2.2.2.keep (hbx.block _ H.out.2.2.2.2.2.2.lt.2), HE.out.below (HBB.out.trans (hbx.mono HBB.out.size)), H.out.2.1, H.out.1, fun i hi => (HI.out.word i hi).1, H.out.2.2.1, hlt, HOFF.out.1, HAN.out.1, st_to hk (check_parts H.out.1).2.2.2 hlt hT2⟩) : (X k).kind = 3 ∨ (X k).kind = 4 → OneIt wr BO O M n X base f k off a T)
                            clear hT hT2 hbx hP hb
                            by_cases hk3 : (X k).kind = 3
                            · as_aux_lemma =>
                                have q2 : ((X k).kind == 2) = false := by rw [hk3]; rfl
                                have q8 : ((X k).kind == 8) = false := by rw [hk3]; rfl
                                have q5 : ((X k).kind == 5) = false := by rw [hk3]; rfl
                                have q3 : ((X k).kind == 3) = true := by rw [hk3]; rfl
                                have q4 : ((X k).kind == 4) = false := by rw [hk3]; rfl
                                have hon := HSL.out.2
                                have hlo : ν ≤ M - off := by omega
                                have hone := (HOI.out (Or.inl hk3))
                                have hNz := HNU.out
                                have hn1 : 1 ≤ ν := by
                                  have := one_size (f := f) H.out.2.1.1.1 hlt (Or.inl hk3)
                                  omega
                                have hps := HSL.out.1 (by omega)
                                subst hps
                                have hM2' := hM2
                                have hcall := takes_item hone hk3 ν hNz (M - off) hlo (by omega)
                                have HC := Lib.hid hcall
                                have HK2 := Lib.hid (show (X k).kind ≠ 2 by omega)
                                clear hcall hNz hk3 hone
                                go_wp2_with fail
                                refine HC.out.mono ?_
                                rintro e w5 ⟨rfl, hb⟩
                                have HBz := Lib.hid (HBx.out.trans (hb.mono HBx.out.size))
                                clear hb
                                go_wp2_with fail
                                go_roundw
                                case rel => exact ⟨k + 1, by go_num, hlt, by (rw [HAN.out.2, ← HNU.out]; try rfl), by rw [placesL_stay HK2.out, HCN.out], HBz.out⟩
                                case measure => simp [intOf]; omega
                            · by_cases hk4 : (X k).kind = 4
                              · as_aux_lemma =>
                                  have q2 : ((X k).kind == 2) = false := by rw [hk4]; rfl
                                  have q8 : ((X k).kind == 8) = false := by rw [hk4]; rfl
                                  have q5 : ((X k).kind == 5) = false := by rw [hk4]; rfl
                                  have q3 : ((X k).kind == 3) = false := by rw [hk4]; rfl
                                  have q4 : ((X k).kind == 4) = true := by rw [hk4]; rfl
                                  have hone := (HOI.out (Or.inr hk4))
                                  have hNz := HNU.out
                                  have hn1 : ν = 1 ∨ ν = 3 := by
                                    have := jump_size (f := f) H.out.2.1.1.1 hlt hk4
                                    omega
                                  have hps := HSL.out.1 (by omega)
                                  subst hps
                                  have hcall := lands_item hone hk4 ν hNz (M - off)
                                  have HC := Lib.hid hcall
                                  have HK2 := Lib.hid (show (X k).kind ≠ 2 by omega)
                                  clear hcall hNz hk4 hone
                                  rcases hn1 with rfl | rfl
                                  · as_aux_lemma =>
                                      go_wp2_with fail
                                      refine HC.out.mono ?_
                                      rintro e w5 ⟨rfl, hb⟩
                                      have HBz := Lib.hid (HBx.out.trans (hb.mono HBx.out.size))
                                      have y0 := (hb.cell (p := ⟨Q, 0, none⟩) (World.block_lt_of_cell? wr _ k0)).trans k0
                                      clear hb k1 k2 k3 k4 k5 k6 k7
                                      go_wp2_with fail
                                      go_roundw
                                      case rel => exact ⟨k + 1, by go_num, hlt, by (rw [HAN.out.2, ← HNU.out]; try rfl), by rw [placesL_stay HK2.out, HCN.out], HBz.out⟩
                                      case measure => simp [intOf]; omega
                                  · as_aux_lemma =>
                                      go_wp2_with fail
                                      refine HC.out.mono ?_
                                      rintro e w5 ⟨rfl, hb⟩
                                      have HBz := Lib.hid (HBx.out.trans (hb.mono HBx.out.size))
                                      have y0 := (hb.cell (p := ⟨Q, 0, none⟩) (World.block_lt_of_cell? wr _ k0)).trans k0
                                      clear hb k1 k2 k3 k4 k5 k6 k7
                                      go_wp2_with fail
                                      go_roundw
                                      case rel => exact ⟨k + 1, by go_num, hlt, by (rw [HAN.out.2, ← HNU.out]; try rfl), by rw [placesL_stay HK2.out, HCN.out], HBz.out⟩
                                      case measure => simp [intOf]; omega
                              · as_aux_lemma =>
                                  have q3 : ((X k).kind == 3) = false := by simp; omega
                                  have q4 : ((X k).kind == 4) = false := by simp; omega
                                  have HK2 := Lib.hid hk2
                                  have HBz := HBx
                                  clear k1 k2 k3 k4 k5 k6 k7 hk3 hk4
                                  go_wp2_with fail
                                  go_roundw
                                  case rel => exact ⟨k + 1, by go_num, hlt, by (rw [HAN.out.2, ← HNU.out]; try rfl), by rw [placesL_stay HK2.out, HCN.out], HBz.out⟩
                                  case measure => simp [intOf]; omega
        · as_aux_lemma =>
            have hz : k = n := by omega
            subst hz
            have d1 : decide ((k : Int) < (k : Int)) = false := by simp
            have hab : 0 ≤ ad X base f k ∧ ad X base f k ≤ 67108864 := by have := H.out.2.2.1; omega
            have e2 : ad X base f k - base = (M : Int) := by omega
            have hcn : (placesL X (ad X base f) k).length = m := H.out.2.2.2.2.1.symm
            rw [hcn]
            have HBx := Lib.hid (HBB.out.trans (hb.mono HBB.out.size))
            clear hb hcn hwl
            go_wp2_with fail
            refine (awake_any _ (HE.out.below HBx.out)).mono ?_
            rintro e w3 ⟨rfl, hb⟩
            have HB3 := Lib.hid (HBx.out.trans (hb.mono HBx.out.size))
            clear hb
            go_wp2_with fail
            go_ret
            exact ⟨rfl, HB3.out⟩
end Go.Proofs.YticleblhmkikaaaDoor
