/- The walk of AsmLeast: no branch or jump is longer than it must be. Conditions: the items lie as told; the table of forms is as laid. -/
import Derived.Test.YticleblhmkikaaaDoorAsBf
namespace Go.Proofs.YticleblhmkikaaaDoor
open Go.RowKit Asm
set_option linter.unusedVariables false
set_option linter.unusedSimpArgs false

set_option maxRecDepth 100000 in
set_option maxHeartbeats 40000000 in
theorem least_any {w : World} {p : Option Addr} {n c : Nat} {X : Nat → It} (h : Items w p n c X) (hE : Env w) (base : Int) : Calls Tryd.prog 6 #[.slice p n c, .int .i64 base] w fun e w' => e = .returned (.bool true) ∧ Below w.heap.size w w' := by
  have hla := large_at h
  have HE := Lib.hid hE
  have HI := Lib.hid h
  clear h hE
  go_enter Tryd.func6, Tryd.ntmps6
  go_wp2_with fail
  refine hla.mono ?_
  rintro e w0 ⟨⟨b, rfl, hb⟩, rfl⟩
  clear hla
  cases b with
  | true =>
    clear hb
    go_wp2_with fail
    refine (awake_any _ HE.out).mono ?_
    rintro e w1 ⟨rfl, hb⟩
    have HB := Lib.hid hb
    clear hb
    go_wp2_with fail
    go_ret
    exact ⟨rfl, HB.out⟩
  | false =>
    have hn : n ≤ 60 := by rcases hb with h | h; cases h; exact h
    clear hb
    go_wp2_with fail
    refine (assemble_at HI.out HE.out hn base).mono ?_
    rintro e w1 ⟨ha0, hb⟩
    obtain ⟨wv, pv, c1, rfl, ha⟩ := assembled_split ha0
    clear ha0
    have HA := Lib.hid ha
    have HB := Lib.hid hb
    clear ha hb
    go_wp2_with fail
    refine (forms_at (HI.out.below HB.out) (HE.out.below HB.out) hn base).mono ?_
    rintro e w2 ⟨ha0, hb⟩
    obtain ⟨fv, c2, rfl, ha⟩ := forms_split ha0
    clear ha0
    have HB2 := Lib.hid hb
    clear hb
    rcases outcome_pair HA.out ha with ⟨k, hk, ⟨rfl, rfl, rfl⟩, ⟨rfl, rfl⟩⟩ | ⟨hc, f, f', hl, hff, hlong, ⟨rfl, O, rfl, hwd, hpl⟩, ⟨rfl, F, rfl, hF, hFb⟩⟩
    · as_aux_lemma =>
        have d0 : (c2 != 0) = true := by simp [hk]
        clear ha HA hk
        go_wp2_with fail
        refine (awake_any _ (HE.out.below (HB.out.trans (HB2.out.mono HB.out.size)))).mono ?_
        rintro e w3 ⟨rfl, hb⟩
        have HB3 := Lib.hid hb
        clear hb
        go_wp2_with fail
        go_ret
        exact ⟨rfl, (HB.out.trans (HB2.out.mono HB.out.size)).trans (HB3.out.mono (Nat.le_trans HB.out.size HB2.out.size))⟩
    · as_aux_lemma =>
        clear ha HA
        have HBB := Lib.hid (HB.out.trans (HB2.out.mono HB.out.size))
        have hI2 : Items w2 p n c X := HI.out.below HBB.out
        have hcf : ∀ i, i < n → w2.cell? ⟨F, i, none⟩ = some (.int .i64 (f i)) := fun i hi => by
          have := cellF hF i hi
          rw [this]
          show some (Value.int .i64 (f' i : Int)) = _
          rw [hff i hi]
        have hword := HI.out.word
        have hwl := wordsL_len hl.1.1 (fun i hi => (hword i hi).1) (kind_of hc) n (Nat.le_refl n) (base := base)
        have hbr := check_range hc
        obtain ⟨m, hm⟩ : ∃ m, m = (placesL X (ad X base f) n).length := ⟨_, rfl⟩
        have hm60 : m ≤ n := by rw [hm]; exact placesL_len _ _ _
        obtain ⟨pp, pc, rfl, hpp⟩ : ∃ pp pc, pv = .slice pp m pc ∧ (0 < m → ∃ g, pp = some ⟨g, 0, none⟩ ∧ ∀ j (hj : j < (placesL X (ad X base f) n).length), w2.cell? ⟨g, j * 2, none⟩ = some (.string (placesL X (ad X base f) n)[j].1) ∧ w2.cell? ⟨g, j * 2 + 1, none⟩ = some (.int .i64 (placesL X (ad X base f) n)[j].2)) := by
          have ho := own_below hpl HB2.out
          rcases hpl.2 with ⟨rfl, h0⟩ | ⟨g, cap, cur, rfl, hg, -⟩
          · exact ⟨none, 0, by rw [hm, h0], fun h => by omega⟩
          · refine ⟨some ⟨g, 0, none⟩, cap, by rw [hm], fun _ => ⟨g, rfl, fun j hj => ?_⟩⟩
            obtain ⟨g1, g2⟩ := rowP_get _ hj
            exact ⟨(ho.cellAt (j * 2) (by omega)).trans g1, (ho.cellAt (j * 2 + 1) (by omega)).trans g2⟩
        obtain ⟨M, hM⟩ : ∃ M, M = (wordsL X n base f n).length := ⟨_, rfl⟩
        rw [← hM] at hwl ⊢
        have hM2 : (M : Int) ≤ 67108864 := by omega
        have H := Lib.hid (And.intro hc (And.intro hl (And.intro hI2 (And.intro hcf (And.intro hm hpp)))))
        clear hM hc hl hI2 hcf hpp hF hFb hwd hpl hff hm hword
        go_wp2_with fail
        go_loopw [10, 11] (fun s10 s11 wr => ∃ k : Nat, s11 = .int .i64 k ∧ k ≤ n ∧ s10 = .int .i64 (ad X base f k) ∧ Below w2.heap.size w2 wr) (fun _ s11 _ => n - (intOf s11).toNat)
        case atStart => exact ⟨0, rfl, Nat.zero_le _, rfl, Below.refl _ _⟩
        case round =>
          as_aux_lemma =>
            obtain ⟨k, rfl, hk, rfl, hb⟩ := hrel
            have hwd : ∀ i, i < n → 0 ≤ (X i).word := fun i hi => (HI.out.word i hi).1
            by_cases hlt : k < n
            · as_aux_lemma =>
                have d1 : decide ((k : Int) < (n : Int)) = true := by simp; omega
                have ek : (k : Int) < (n : Int) := by omega
                obtain ⟨b, off, hp, k0, k1, k2, k3, k4, k5, k6, k7⟩ := (H.out.2.2.1.below hb).at hlt
                rw [hp]
                have hal := (Below.refl wr.heap.size wr).alloc (Nat.le_refl _) (.cells #[.int .i64 (X k).kind, .int .i64 (X k).op, .int .i64 (X k).d, .int .i64 (X k).a, .int .i64 (X k).b, .int .i64 (X k).imm, .string (X k).lab, .int .u32 (X k).word] 44)
                have hN := cells8 (heap_new wr (.cells #[.int .i64 (X k).kind, .int .i64 (X k).op, .int .i64 (X k).d, .int .i64 (X k).a, .int .i64 (X k).b, .int .i64 (X k).imm, .string (X k).lab, .int .u32 (X k).word] 44))
                obtain ⟨w3, hw3⟩ : ∃ w3, w3 = wr.alloc (.cells #[.int .i64 (X k).kind, .int .i64 (X k).op, .int .i64 (X k).d, .int .i64 (X k).a, .int .i64 (X k).b, .int .i64 (X k).imm, .string (X k).lab, .int .u32 (X k).word] 44) := ⟨_, rfl⟩
                obtain ⟨Q, hQ⟩ : ∃ Q, Q = wr.heap.size := ⟨_, rfl⟩
                rw [← hw3, ← hQ] at hN
                rw [← hw3] at hal
                have HB3 := Lib.hid (hb.trans (hal.mono hb.size))
                obtain ⟨wl, wu⟩ := HI.out.word k hlt
                have HP := Lib.hid hp
                clear hb hal hp
                go_upto_region 12 with fail
                rw [← hw3, ← hQ]
                clear hw3 hQ k0 k1 k2 k3 k4 k5 k6 k7
                obtain ⟨k0, k1, k2, k3, k4, k5, k6, k7⟩ := hN
                clear k1 k2 k3 k4 k5
                have cf := (HB3.out.cell (p := ⟨F, k, none⟩) (World.block_lt_of_cell? w2 _ (H.out.2.2.2.1 k hlt))).trans (H.out.2.2.2.1 k hlt)
                obtain ⟨a, ha⟩ : ∃ a, a = ad X base f k := ⟨_, rfl⟩
                obtain ⟨N, hN⟩ : ∃ N, N = isz (X k) (f k) := ⟨_, rfl⟩
                have hv := H.out.2.1.1.1 k hlt
                have e1 : ad X base f (k + 1) = a + N := by rw [ha, hN]; rfl
                have hm1 := ad_mono (X := X) (base := base) (f := f) (i := 0) (j := k) (fun i hi => hwd i (by omega)) (Nat.zero_le _)
                have hm2 := ad_mono (X := X) (base := base) (f := f) (i := k + 1) (j := n) hwd hlt
                have hN0 : 0 ≤ N := by rw [hN]; exact isz_nonneg wl
                have e0 : ad X base f 0 = base := rfl
                rw [e0, ← ha] at hm1
                rw [e1] at hm2
                rw [← ha]
                have HAN := Lib.hid (And.intro ha (And.intro hN e1))
                clear ha e1 e0
                go_upto_block 2 with fail
                go_cut [13] (fun c wx => wx = w3 ∧ c = .int .i64 N)
                case first =>
                  as_aux_lemma =>
                    clear hm1 hm2 hN0
                    by_cases hk3 : (X k).kind = 3
                    · as_aux_lemma =>
                        have hv3 : 1 ≤ f k ∧ f k ≤ 3 := by rw [if_pos hk3] at hv; exact hv
                        clear hv
                        rcases (show f k = 1 ∨ f k = 2 ∨ f k = 3 by omega) with hf | hf | hf
                        · as_aux_lemma =>
                            clear hv3
                            have q2 : ((X k).kind == 2) = false := by rw [hk3]; rfl
                            have q8 : ((X k).kind == 8) = false := by rw [hk3]; rfl
                            have q5 : ((X k).kind == 5) = false := by rw [hk3]; rfl
                            have q3 : ((X k).kind == 3) = true := by rw [hk3]; rfl
                            have q4 : ((X k).kind == 4) = false := by rw [hk3]; rfl
                            have cf2 : w3.cell? ⟨F, k, none⟩ = some (.int .i64 1) := by rw [cf, hf]; rfl
                            clear cf
                            have hV : N = 1 := by rw [HAN.out.2.1]; unfold isz; rw [hk3, hf]; rfl
                            have HV := Lib.hid hV
                            have HK := Lib.hid (And.intro hk3 hf)
                            clear hV hk3 hf
                            go_wp2_with fail
                            go_meet
                            case rel => exact ⟨rfl, by rw [HV.out]⟩
                        · as_aux_lemma =>
                            clear hv3
                            have q2 : ((X k).kind == 2) = false := by rw [hk3]; rfl
                            have q8 : ((X k).kind == 8) = false := by rw [hk3]; rfl
                            have q5 : ((X k).kind == 5) = false := by rw [hk3]; rfl
                            have q3 : ((X k).kind == 3) = true := by rw [hk3]; rfl
                            have q4 : ((X k).kind == 4) = false := by rw [hk3]; rfl
                            have cf2 : w3.cell? ⟨F, k, none⟩ = some (.int .i64 2) := by rw [cf, hf]; rfl
                            clear cf
                            have hV : N = 2 := by rw [HAN.out.2.1]; unfold isz; rw [hk3, hf]; rfl
                            have HV := Lib.hid hV
                            have HK := Lib.hid (And.intro hk3 hf)
                            clear hV hk3 hf
                            go_wp2_with fail
                            go_meet
                            case rel => exact ⟨rfl, by rw [HV.out]⟩
                        · as_aux_lemma =>
                            clear hv3
                            have q2 : ((X k).kind == 2) = false := by rw [hk3]; rfl
                            have q8 : ((X k).kind == 8) = false := by rw [hk3]; rfl
                            have q5 : ((X k).kind == 5) = false := by rw [hk3]; rfl
                            have q3 : ((X k).kind == 3) = true := by rw [hk3]; rfl
                            have q4 : ((X k).kind == 4) = false := by rw [hk3]; rfl
                            have cf2 : w3.cell? ⟨F, k, none⟩ = some (.int .i64 3) := by rw [cf, hf]; rfl
                            clear cf
                            have hV : N = 4 := by rw [HAN.out.2.1]; unfold isz; rw [hk3, hf]; rfl
                            have HV := Lib.hid hV
                            have HK := Lib.hid (And.intro hk3 hf)
                            clear hV hk3 hf
                            go_wp2_with fail
                            go_meet
                            case rel => exact ⟨rfl, by rw [HV.out]⟩
                    · as_aux_lemma =>
                        by_cases hk4 : (X k).kind = 4
                        · as_aux_lemma =>
                            have hv4 : 1 ≤ f k ∧ f k ≤ 2 := by rw [if_neg hk3, if_pos hk4] at hv; exact hv
                            clear hv hk3
                            rcases (show f k = 1 ∨ f k = 2 by omega) with hf | hf
                            · as_aux_lemma =>
                                clear hv4
                                have q2 : ((X k).kind == 2) = false := by rw [hk4]; rfl
                                have q8 : ((X k).kind == 8) = false := by rw [hk4]; rfl
                                have q5 : ((X k).kind == 5) = false := by rw [hk4]; rfl
                                have q3 : ((X k).kind == 3) = false := by rw [hk4]; rfl
                                have q4 : ((X k).kind == 4) = true := by rw [hk4]; rfl
                                have cf2 : w3.cell? ⟨F, k, none⟩ = some (.int .i64 1) := by rw [cf, hf]; rfl
                                clear cf
                                have hV : N = 1 := by rw [HAN.out.2.1]; unfold isz; rw [hk4, hf]; rfl
                                have HV := Lib.hid hV
                                have HK := Lib.hid (And.intro hk4 hf)
                                clear hV hk4 hf
                                go_wp2_with fail
                                go_meet
                                case rel => exact ⟨rfl, by rw [HV.out]⟩
                            · as_aux_lemma =>
                                clear hv4
                                have q2 : ((X k).kind == 2) = false := by rw [hk4]; rfl
                                have q8 : ((X k).kind == 8) = false := by rw [hk4]; rfl
                                have q5 : ((X k).kind == 5) = false := by rw [hk4]; rfl
                                have q3 : ((X k).kind == 3) = false := by rw [hk4]; rfl
                                have q4 : ((X k).kind == 4) = true := by rw [hk4]; rfl
                                have cf2 : w3.cell? ⟨F, k, none⟩ = some (.int .i64 2) := by rw [cf, hf]; rfl
                                clear cf
                                have hV : N = 3 := by rw [HAN.out.2.1]; unfold isz; rw [hk4, hf]; rfl
                                have HV := Lib.hid hV
                                have HK := Lib.hid (And.intro hk4 hf)
                                clear hV hk4 hf
                                go_wp2_with fail
                                go_meet
                                case rel => exact ⟨rfl, by rw [HV.out]⟩
                        · as_aux_lemma =>
                            clear hv
                            by_cases hk2 : (X k).kind = 2
                            · as_aux_lemma =>
                                clear hk3 hk4
                                have q2 : ((X k).kind == 2) = true := by rw [hk2]; rfl
                                have q8 : ((X k).kind == 8) = false := by rw [hk2]; rfl
                                have q5 : ((X k).kind == 5) = false := by rw [hk2]; rfl
                                have q3 : ((X k).kind == 3) = false := by rw [hk2]; rfl
                                have q4 : ((X k).kind == 4) = false := by rw [hk2]; rfl
                                clear cf
                                have hV : N = 0 := by rw [HAN.out.2.1]; unfold isz; rw [hk2]; rfl
                                have HV := Lib.hid hV
                                have HK := Lib.hid (And.intro hk2 True.intro)
                                clear hV hk2
                                go_wp2_with fail
                                go_meet
                                case rel => exact ⟨rfl, by rw [HV.out]⟩
                            · as_aux_lemma =>
                                by_cases hk8 : (X k).kind = 8
                                · as_aux_lemma =>
                                    clear hk3 hk4 hk2
                                    have q2 : ((X k).kind == 2) = false := by rw [hk8]; rfl
                                    have q8 : ((X k).kind == 8) = true := by rw [hk8]; rfl
                                    have q5 : ((X k).kind == 5) = false := by rw [hk8]; rfl
                                    have q3 : ((X k).kind == 3) = false := by rw [hk8]; rfl
                                    have q4 : ((X k).kind == 4) = false := by rw [hk8]; rfl
                                    clear cf
                                    have hV : N = (X k).word := by rw [HAN.out.2.1]; unfold isz; rw [hk8]; rfl
                                    have HV := Lib.hid hV
                                    have HK := Lib.hid (And.intro hk8 True.intro)
                                    clear hV hk8
                                    go_wp2_with fail
                                    go_meet
                                    case rel => exact ⟨rfl, by rw [HV.out]⟩
                                · as_aux_lemma =>
                                    by_cases hk5 : (X k).kind = 5
                                    · as_aux_lemma =>
                                        clear hk3 hk4 hk2 hk8
                                        have q2 : ((X k).kind == 2) = false := by rw [hk5]; rfl
                                        have q8 : ((X k).kind == 8) = false := by rw [hk5]; rfl
                                        have q5 : ((X k).kind == 5) = true := by rw [hk5]; rfl
                                        have q3 : ((X k).kind == 3) = false := by rw [hk5]; rfl
                                        have q4 : ((X k).kind == 4) = false := by rw [hk5]; rfl
                                        clear cf
                                        have hV : N = 2 := by rw [HAN.out.2.1]; unfold isz; rw [hk5]; rfl
                                        have HV := Lib.hid hV
                                        have HK := Lib.hid (And.intro hk5 True.intro)
                                        clear hV hk5
                                        go_wp2_with fail
                                        go_meet
                                        case rel => exact ⟨rfl, by rw [HV.out]⟩
                                    · as_aux_lemma =>
                                        have q2 : ((X k).kind == 2) = false := by simp; omega
                                        have q8 : ((X k).kind == 8) = false := by simp; omega
                                        have q5 : ((X k).kind == 5) = false := by simp; omega
                                        have q3 : ((X k).kind == 3) = false := by simp; omega
                                        have q4 : ((X k).kind == 4) = false := by simp; omega
                                        clear cf
                                        have hV : N = 1 := by rw [HAN.out.2.1]; unfold isz; rw [if_neg (by omega), if_neg (by omega), if_neg (by omega), if_neg (by omega), if_neg (by omega)]
                                        have HV := Lib.hid hV
                                        have HK := Lib.hid (And.intro True.intro True.intro)
                                        clear hV hk2 hk8 hk5 hk3 hk4
                                        go_wp2_with fail
                                        go_meet
                                        case rel => exact ⟨rfl, by rw [HV.out]⟩
                case rest =>
                  as_aux_lemma =>
                    obtain ⟨rfl, rfl⟩ := hcut
                    have HC2 := Lib.hid (And.intro hm1 (And.intro hm2 hN0))
                    have hal : 0 ≤ a ∧ a ≤ 67108864 := by omega
                    have hNl : 0 ≤ N ∧ N ≤ 67108864 := by omega
                    clear hm1 hm2 hN0 hv cf hN
                    go_wp2_with fail
                    go_loopw [14, 15] (fun s14 s15 wx => ∃ j : Nat, s15 = .int .i64 j ∧ j ≤ m ∧ s14 = .int .i64 (tl (X k).lab ((placesL X (ad X base f) n).take j) a) ∧ Below wc.heap.size wc wx) (fun _ s15 _ => m - (intOf s15).toNat)
                    case atStart => exact ⟨0, rfl, Nat.zero_le _, rfl, Below.refl _ _⟩
                    case round =>
                      as_aux_lemma =>
                        obtain ⟨j, rfl, hj, rfl, hb⟩ := hrel
                        by_cases hjt : j < m
                        · as_aux_lemma =>
                            have d2 : decide ((j : Int) < (m : Int)) = true := by simp; omega
                            have ej : (j : Int) < (m : Int) := by omega
                            have hjl : j < (placesL X (ad X base f) n).length := by rw [← H.out.2.2.2.2.1]; exact hjt
                            obtain ⟨g, hpe, hcell⟩ := H.out.2.2.2.2.2 (by omega)
                            obtain ⟨z1, z2⟩ := hcell j hjl
                            have hbx : Below w2.heap.size w2 wr := HB3.out.trans (hb.mono HB3.out.size)
                            have y1 := (hbx.cell (p := ⟨g, j * 2, none⟩) (World.block_lt_of_cell? w2 _ z1)).trans z1
                            have y2 := (hbx.cell (p := ⟨g, j * 2 + 1, none⟩) (World.block_lt_of_cell? w2 _ z2)).trans z2
                            have y6 := (hb.cell (p := ⟨Q, 6, none⟩) (World.block_lt_of_cell? wc _ k6)).trans k6
                            have htk := tl_take (X k).lab (placesL X (ad X base f) n) a hjl
                            obtain ⟨q, hq⟩ : ∃ q, q = (placesL X (ad X base f) n)[j] := ⟨_, rfl⟩
                            rw [← hq] at y1 y2 htk
                            rw [hpe]
                            have HX := Lib.hid (And.intro hb (And.intro hpe htk))
                            clear hb hpe htk hcell z1 z2 hbx hq k0 k6 k7
                            obtain ⟨t0, ht0⟩ : ∃ t0, t0 = tl (X k).lab ((placesL X (ad X base f) n).take j) a := ⟨_, rfl⟩
                            rw [← ht0]
                            have HT := Lib.hid ht0
                            clear ht0
                            by_cases heq : q.1 = (X k).lab
                            · as_aux_lemma =>
                                have d3 := bl_true heq
                                have HQ := Lib.hid heq
                                clear heq
                                go_wp2_with fail
                                go_quiet (fail)
                                go_wp2_with fail
                                go_roundw
                                case rel => exact ⟨j + 1, by go_num, hjt, by rw [HX.out.2.2, if_pos HQ.out], below_drewN HX.out.1 nq⟩
                                case measure => simp [intOf]; omega
                            · as_aux_lemma =>
                                have d3 := bl_false heq
                                have HQ := Lib.hid heq
                                clear heq
                                go_wp2_with fail
                                go_quiet (fail)
                                go_wp2_with fail
                                go_roundw
                                case rel => exact ⟨j + 1, by go_num, hjt, by rw [HX.out.2.2, if_neg HQ.out, HT.out], below_drewN HX.out.1 nq⟩
                                case measure => simp [intOf]; omega
                        · as_aux_lemma =>
                            have hz : j = m := by omega
                            subst hz
                            have d2 : decide ((j : Int) < (j : Int)) = false := by simp
                            have hP : j = (placesL X (ad X base f) n).length := H.out.2.2.2.2.1
                            have hbx : Below w2.heap.size w2 wr := HB3.out.trans (hb.mono HB3.out.size)
                            have y0 := (hb.cell (p := ⟨Q, 0, none⟩) (World.block_lt_of_cell? wc _ k0)).trans k0
                            have cf := (hbx.cell (p := ⟨F, k, none⟩) (World.block_lt_of_cell? w2 _ (H.out.2.2.2.1 k hlt))).trans (H.out.2.2.2.1 k hlt)
                            obtain ⟨T, hT⟩ : ∃ T, T = tl (X k).lab ((placesL X (ad X base f) n).take j) a := ⟨_, rfl⟩
                            rw [← hT]
                            have hT2 : T = match st X (X k).lab n with | some j => ad X base f j | none => a := by
                              rw [hT, hP, List.take_length]
                              exact tl_places (check_parts H.out.1).2.2.1
                            have hTb : 0 ≤ T ∧ T ≤ 67108864 := by
                              rw [hT2]
                              cases hst : st X (X k).lab n with
                              | none => exact hal
                              | some q =>
                                have hq := (st_lt hst).1
                                have m1 := ad_mono (X := X) (base := base) (f := f) (i := 0) (j := q) (fun i hi => hwd i (by omega)) (Nat.zero_le _)
                                have m2 := ad_mono (X := X) (base := base) (f := f) (i := q) (j := n) hwd (by omega)
                                have e0 : ad X base f 0 = base := rfl
                                show 0 ≤ ad X base f q ∧ ad X base f q ≤ 67108864
                                omega
                            obtain ⟨D, hD⟩ : ∃ D, D = if a < T then T - a - N else T - a - 1 := ⟨_, rfl⟩
                            have HV := Lib.hid (verdict H.out.2.1 H.out.1 hwd hlt HAN.out.1 HAN.out.2.1 hT2 hD)
                            have HD := Lib.hid hD
                            have HBx := Lib.hid hbx
                            clear hT hT2 hD hbx hb hP k0 k6 k7
                            go_upto_if 124 with fail
                            go_cut [16] (fun c wx => wx = wr ∧ c = .int .i64 D)
                            case first =>
                              as_aux_lemma =>
                                by_cases hg : a < T
                                · as_aux_lemma =>
                                    have g1 : decide (a < T) = true := by simp [hg]
                                    have g2 : decide (T > a) = true := by simp [hg]
                                    have HG := Lib.hid hg
                                    go_wp2_with fail
                                    go_meet
                                    case rel => exact ⟨rfl, by rw [HD.out, if_pos HG.out]⟩
                                · as_aux_lemma =>
                                    have g1 : decide (a < T) = false := by simp; omega
                                    have g2 : decide (T > a) = false := by simp; omega
                                    have HG := Lib.hid hg
                                    go_wp2_with fail
                                    go_meet
                                    case rel => exact ⟨rfl, by rw [HD.out, if_neg (by omega)]⟩
                            case rest =>
                              as_aux_lemma =>
                                obtain ⟨rfl, rfl⟩ := hcut
                                go_upto_region 33 with fail
                                go_cut [17] (fun c wx => wx = wc ∧ ∃ q : Bool, c = .bool q ∧ Hid (q = decide (-32768 ≤ D ∧ D ≤ 32767)))
                                case first =>
                                  as_aux_lemma =>
                                    rcases (show D < -32768 ∨ (-32768 ≤ D ∧ D ≤ 32767) ∨ 32767 < D by omega) with hr | hr | hr
                                    · as_aux_lemma =>
                                        have n1 : decide (D ≥ -32768) = false := by simp; omega
                                        have n1x : decide (-32768 ≤ D) = false := by simp; omega
                                        have n2 : decide (D ≤ 32767) = true := by simp; omega
                                        go_wp2_with fail
                                        go_meet
                                        case rel => exact ⟨rfl, _, rfl, (decide_eq_false (by omega)).symm⟩
                                    · as_aux_lemma =>
                                        have n1 : decide (D ≥ -32768) = true := by simp; omega
                                        have n1x : decide (-32768 ≤ D) = true := by simp; omega
                                        have n2 : decide (D ≤ 32767) = true := by simp; omega
                                        go_wp2_with fail
                                        go_meet
                                        case rel => exact ⟨rfl, _, rfl, (decide_eq_true (by omega)).symm⟩
                                    · as_aux_lemma =>
                                        have n1 : decide (D ≥ -32768) = true := by simp; omega
                                        have n1x : decide (-32768 ≤ D) = true := by simp; omega
                                        have n2 : decide (D ≤ 32767) = false := by simp; omega
                                        go_wp2_with fail
                                        go_meet
                                        case rel => exact ⟨rfl, _, rfl, (decide_eq_false (by omega)).symm⟩
                                case rest =>
                                  as_aux_lemma =>
                                    obtain ⟨rfl, q17, rfl, HQ7⟩ := hcut
                                    go_upto_region 34 with fail
                                    go_cut [18] (fun c wx => wx = wc ∧ ∃ q : Bool, c = .bool q ∧ Hid (q = decide (-1048576 ≤ D ∧ D ≤ 1048575)))
                                    case first =>
                                      as_aux_lemma =>
                                        rcases (show D < -1048576 ∨ (-1048576 ≤ D ∧ D ≤ 1048575) ∨ 1048575 < D by omega) with hr | hr | hr
                                        · as_aux_lemma =>
                                            have n1 : decide (D ≥ -1048576) = false := by simp; omega
                                            have n1x : decide (-1048576 ≤ D) = false := by simp; omega
                                            have n2 : decide (D ≤ 1048575) = true := by simp; omega
                                            go_wp2_with fail
                                            go_meet
                                            case rel => exact ⟨rfl, _, rfl, (decide_eq_false (by omega)).symm⟩
                                        · as_aux_lemma =>
                                            have n1 : decide (D ≥ -1048576) = true := by simp; omega
                                            have n1x : decide (-1048576 ≤ D) = true := by simp; omega
                                            have n2 : decide (D ≤ 1048575) = true := by simp; omega
                                            go_wp2_with fail
                                            go_meet
                                            case rel => exact ⟨rfl, _, rfl, (decide_eq_true (by omega)).symm⟩
                                        · as_aux_lemma =>
                                            have n1 : decide (D ≥ -1048576) = true := by simp; omega
                                            have n1x : decide (-1048576 ≤ D) = true := by simp; omega
                                            have n2 : decide (D ≤ 1048575) = false := by simp; omega
                                            go_wp2_with fail
                                            go_meet
                                            case rel => exact ⟨rfl, _, rfl, (decide_eq_false (by omega)).symm⟩
                                    case rest =>
                                      as_aux_lemma =>
                                        obtain ⟨rfl, q18, rfl, HQ8⟩ := hcut
                                        go_upto_region 35 with fail
                                        simp only [List.append_eq, List.cons_append, List.nil_append]
                                        by_cases hk3 : (X k).kind = 3
                                        · as_aux_lemma =>
                                            obtain ⟨hv3, hv2, hv1⟩ := HV.out.1 hk3
                                            rcases (show f k = 1 ∨ f k = 2 ∨ f k = 3 by omega) with hf | hf | hf
                                            · as_aux_lemma =>
                                                have q3 : ((X k).kind == 3) = true := by rw [hk3]; rfl
                                                have q4 : ((X k).kind == 4) = false := by rw [hk3]; rfl
                                                have cf2 : wc.cell? ⟨F, k, none⟩ = some (.int .i64 1) := by rw [cf, hf]; rfl
                                                clear hv1 hv2 hv3 hf hk3 cf
                                                go_wp2_with fail
                                                go_roundw
                                                case rel => exact ⟨k + 1, by go_num, hlt, by rw [HAN.out.2.2], HBx.out⟩
                                                case measure => simp [intOf]; omega
                                            · as_aux_lemma =>
                                                have q3 : ((X k).kind == 3) = true := by rw [hk3]; rfl
                                                have q4 : ((X k).kind == 4) = false := by rw [hk3]; rfl
                                                have cf2 : wc.cell? ⟨F, k, none⟩ = some (.int .i64 2) := by rw [cf, hf]; rfl
                                                obtain ⟨v1, v2⟩ := hv2 hf
                                                clear hv1 hv2 hv3 hf hk3 cf
                                                rcases (show a < T ∨ T ≤ a by omega) with hg | hg
                                                · as_aux_lemma =>
                                                    have g1 : decide (a < T) = true := by simp; omega
                                                    have g1x : decide (T > a) = true := by simp; omega
                                                    have g2 : decide (T ≤ a) = false := by simp; omega
                                                    have hq : q17 = false := by rw [HQ7.out]; exact decide_eq_false (by omega)
                                                    subst hq
                                                    have hr : 32767 < D := by omega
                                                    have n2 : decide (D ≤ 32767) = false := by simp; omega
                                                    go_wp2_with fail
                                                    go_roundw
                                                    case rel => exact ⟨k + 1, by go_num, hlt, by rw [HAN.out.2.2], HBx.out⟩
                                                    case measure => simp [intOf]; omega
                                                · as_aux_lemma =>
                                                    have g1 : decide (a < T) = false := by simp; omega
                                                    have g1x : decide (T > a) = false := by simp; omega
                                                    have g2 : decide (T ≤ a) = true := by simp; omega
                                                    have hq : q17 = false := by rw [HQ7.out]; exact decide_eq_false (by omega)
                                                    subst hq
                                                    go_wp2_with fail
                                                    go_roundw
                                                    case rel => exact ⟨k + 1, by go_num, hlt, by rw [HAN.out.2.2], HBx.out⟩
                                                    case measure => simp [intOf]; omega
                                            · as_aux_lemma =>
                                                have q3 : ((X k).kind == 3) = true := by rw [hk3]; rfl
                                                have q4 : ((X k).kind == 4) = false := by rw [hk3]; rfl
                                                have cf2 : wc.cell? ⟨F, k, none⟩ = some (.int .i64 3) := by rw [cf, hf]; rfl
                                                have v3 := hv1 hf
                                                clear hv1 hv2 hv3 hf hk3 cf
                                                rcases (show a < T ∨ T ≤ a by omega) with hg | hg
                                                · as_aux_lemma =>
                                                    have g1 : decide (a < T) = true := by simp; omega
                                                    have g1x : decide (T > a) = true := by simp; omega
                                                    have g2 : decide (T ≤ a) = false := by simp; omega
                                                    have hr : 1048575 < D := by omega
                                                    have n4 : decide (D ≤ 1048575) = false := by simp; omega
                                                    go_wp2_with fail
                                                    go_roundw
                                                    case rel => exact ⟨k + 1, by go_num, hlt, by rw [HAN.out.2.2], HBx.out⟩
                                                    case measure => simp [intOf]; omega
                                                · as_aux_lemma =>
                                                    have g1 : decide (a < T) = false := by simp; omega
                                                    have g1x : decide (T > a) = false := by simp; omega
                                                    have g2 : decide (T ≤ a) = true := by simp; omega
                                                    go_wp2_with fail
                                                    go_roundw
                                                    case rel => exact ⟨k + 1, by go_num, hlt, by rw [HAN.out.2.2], HBx.out⟩
                                                    case measure => simp [intOf]; omega
                                        · as_aux_lemma =>
                                            by_cases hk4 : (X k).kind = 4
                                            · as_aux_lemma =>
                                                obtain ⟨hv3, hv2⟩ := HV.out.2 hk4
                                                rcases (show f k = 1 ∨ f k = 2 by omega) with hf | hf
                                                · as_aux_lemma =>
                                                    have q3 : ((X k).kind == 3) = false := by rw [hk4]; rfl
                                                    have q4 : ((X k).kind == 4) = true := by rw [hk4]; rfl
                                                    have cf2 : wc.cell? ⟨F, k, none⟩ = some (.int .i64 1) := by rw [cf, hf]; rfl
                                                    clear hv2 hv3 hf hk4 hk3 cf
                                                    go_wp2_with fail
                                                    go_roundw
                                                    case rel => exact ⟨k + 1, by go_num, hlt, by rw [HAN.out.2.2], HBx.out⟩
                                                    case measure => simp [intOf]; omega
                                                · as_aux_lemma =>
                                                    have q3 : ((X k).kind == 3) = false := by rw [hk4]; rfl
                                                    have q4 : ((X k).kind == 4) = true := by rw [hk4]; rfl
                                                    have cf2 : wc.cell? ⟨F, k, none⟩ = some (.int .i64 2) := by rw [cf, hf]; rfl
                                                    have v1 := hv2 hf
                                                    clear hv2 hv3 hf hk4 hk3 cf
                                                    have hq : q18 = false := by rw [HQ8.out]; exact decide_eq_false (by omega)
                                                    subst hq
                                                    go_wp2_with fail
                                                    go_roundw
                                                    case rel => exact ⟨k + 1, by go_num, hlt, by rw [HAN.out.2.2], HBx.out⟩
                                                    case measure => simp [intOf]; omega
                                            · as_aux_lemma =>
                                                have q3 : ((X k).kind == 3) = false := by simp; omega
                                                have q4 : ((X k).kind == 4) = false := by simp; omega
                                                clear hk3 hk4
                                                go_wp2_with fail
                                                go_roundw
                                                case rel => exact ⟨k + 1, by go_num, hlt, by rw [HAN.out.2.2], HBx.out⟩
                                                case measure => simp [intOf]; omega
            · as_aux_lemma =>
                have hz : k = n := by omega
                subst hz
                have d1 : decide ((k : Int) < (k : Int)) = false := by simp
                have ea : ad X base f k = base + M := by omega
                rw [ea]
                have e2 : base + (M : Int) - base = M := by omega
                have HBx := Lib.hid (HBB.out.trans (hb.mono HBB.out.size))
                clear hb ea
                go_wp2_with fail
                refine (awake_any _ (HE.out.below HBx.out)).mono ?_
                rintro e w3 ⟨rfl, hb⟩
                have HB3 := Lib.hid (HBx.out.trans (hb.mono HBx.out.size))
                clear hb
                go_wp2_with fail
                go_ret
                exact ⟨rfl, HB3.out⟩
end Go.Proofs.YticleblhmkikaaaDoor
