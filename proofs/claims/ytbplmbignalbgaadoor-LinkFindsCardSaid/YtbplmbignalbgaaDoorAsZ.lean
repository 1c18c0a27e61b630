/- Contracts: the errors but the last one, by the document's answer. Conditions: the items lie as told. -/
import Derived.Test.YtbplmbignalbgaaDoorAsY
namespace Go.Proofs.YtbplmbignalbgaaDoor
open Go.RowKit Asm
set_option linter.unusedVariables false
set_option linter.unusedSimpArgs false

set_option maxRecDepth 100000 in
set_option maxHeartbeats 4000000 in
theorem rCheck_at {w : World} {p : Option Addr} {n c : Nat} {X : Nat → It} (h : Items w p n c X) (hn : n ≤ 480) (base : Int) :
    Calls Tryd.prog 38 #[.slice p n c, .int .i64 base] w fun e w' => e = .returned (.int .i64 (check X n base)) ∧ Below w.heap.size w w' := by
  have H := Lib.hid h
  clear h
  by_cases hr : base < 0 ∨ 67108864 < base
  · by_cases hb0 : base < 0
    · have d0 : decide (base < 0) = true := by simp [hb0]
      go_enter Tryd.func38, Tryd.ntmps38
      go_wp2_with fail
      go_ret
      exact ⟨by rw [ck_base hr]; rfl, Below.refl _ _⟩
    · have d0 : decide (base < 0) = false := by simp; omega
      have d1 : decide (67108864 < base) = true := by simp; omega
      go_enter Tryd.func38, Tryd.ntmps38
      go_wp2_with fail
      go_ret
      exact ⟨by rw [ck_base hr]; rfl, Below.refl _ _⟩
  · have d0 : decide (base < 0) = false := by simp; omega
    have d1 : decide (67108864 < base) = false := by simp; omega
    have HR := Lib.hid hr
    clear hr
    go_enter Tryd.func38, Tryd.ntmps38
    go_wp2_with fail
    clear d0 d1
    go_loopw [5] (fun i wr => ∃ k : Nat, i = .int .i64 k ∧ k ≤ n ∧ bad X k = 0 ∧ Below w.heap.size w wr) (fun i _ => n - (intOf i).toNat)
    case atStart => exact ⟨0, rfl, Nat.zero_le _, rfl, Below.refl _ _⟩
    case round =>
      obtain ⟨k, rfl, hk, hbad, hb⟩ := hrel
      by_cases hlt : k < n
      · have d1 : decide ((k : Int) < (n : Int)) = true := by simp; omega
        have ek : (k : Int) < (n : Int) := by omega
        obtain ⟨b, off, hp, k0, k1, k2, k3, k4, k5, k6, k7⟩ := (H.out.below hb).at hlt
        rw [hp]
        have HX := Lib.hid (And.intro hb (And.intro hbad hp))
        clear hb hbad hp
        go_wp2_with fail
        refine (rcheckItem_any (X k) wr).mono ?_
        rintro e w3 ⟨rfl, hb3⟩
        have HB3 := Lib.hid (HX.out.1.trans (hb3.mono HX.out.1.size))
        obtain ⟨ci, hci⟩ : ∃ ci, ci = citem (X k) := ⟨_, rfl⟩
        rw [← hci]
        have HC := Lib.hid hci
        clear hci hb3 k0 k1 k2 k3 k4 k5 k6 k7
        by_cases hz : ci = 0
        · subst hz
          go_wp2_with fail
          go_roundw
          case rel => exact ⟨k + 1, by go_num, hlt, bad_step HX.out.2.1 HC.out.symm, HB3.out⟩
          case measure => simp [intOf]; omega
        · have dz : (ci != 0) = true := by simp [hz]
          have HZ := Lib.hid hz
          clear hz
          go_wp2_with fail
          go_ret
          have hst := bad_stays HX.out.2.1 (by rw [← HC.out]; exact HZ.out) n hlt
          have hc0 : bad X n ≠ 0 := by rw [hst, ← HC.out]; exact HZ.out
          refine ⟨?_, HB3.out⟩
          rw [ck_bad HR.out hc0, hst, ← HC.out]; rfl
      · have hz : k = n := by omega
        subst hz
        have d1 : decide ((k : Int) < (k : Int)) = false := by simp
        have HX := Lib.hid (And.intro hb hbad)
        clear hb hbad
        go_wp2_with fail
        go_loopw [7] (fun i wr => ∃ q : Nat, i = .int .i64 q ∧ q ≤ k ∧ twice X q = false ∧ Below w.heap.size w wr) (fun i _ => k - (intOf i).toNat)
        case atStart => exact ⟨0, rfl, Nat.zero_le _, rfl, HX.out.1⟩
        case round =>
          obtain ⟨q, rfl, hq, htw, hb⟩ := hrel
          by_cases hlt : q < k
          · have d1 : decide ((q : Int) < (k : Int)) = true := by simp; omega
            have ek : (q : Int) < (k : Int) := by omega
            have hIr := H.out.below hb
            obtain ⟨b, off, hp, k0, k1, k2, k3, k4, k5, k6, k7⟩ := hIr.at hlt
            have hsa := rstands_at hIr hn (X q).lab
            rw [hp] at hsa ⊢
            have HB := Lib.hid (And.intro hb (And.intro htw hp))
            clear hb htw hp k1 k2 k3 k4 k5 k7 hIr
            by_cases hk2 : (X q).kind = 2
            · have d2 : ((X q).kind == 2) = true := by simp [hk2]
              have HK := Lib.hid hk2
              clear hk2
              cases hs : st X (X q).lab q with
              | none =>
                have hsi : stI X (X q).lab k = q := stI_some (st_stays (st_new HK.out hs) k hlt)
                rw [hsi] at hsa
                have HS := Lib.hid (And.intro hs hsi)
                clear hs hsi
                go_wp2_with (first
                  | (go_at_call 30; refine hsa.mono ?_; rintro e w' ⟨rfl, rfl⟩))
                go_roundw
                case rel => exact ⟨q + 1, by go_num, hlt, twice_step HB.out.2.1 (fun _ => by rw [HS.out.1]; rfl), HB.out.1⟩
                case measure => simp [intOf]; omega
              | some j =>
                have hsi : stI X (X q).lab k = j := stI_some (st_stays hs k (Nat.le_of_lt hlt))
                have hjq := (st_lt hs).1
                rw [hsi] at hsa
                have dj : ((j : Int) != (q : Int)) = true := by simp; omega
                have HS := Lib.hid (And.intro hs hsi)
                clear hs hsi
                go_wp2_with (first
                  | (go_at_call 30; refine hsa.mono ?_; rintro e w' ⟨rfl, rfl⟩))
                go_ret
                have ht := twice_stays (twice_hit HK.out (by rw [HS.out.1]; rfl)) k (show q + 1 ≤ k by omega)
                exact ⟨by rw [ck_twice HR.out HX.out.2 ht]; rfl, HB.out.1⟩
            · have d2 : ((X q).kind == 2) = false := by simp [hk2]
              have HK := Lib.hid hk2
              clear hk2
              go_wp2_with fail
              go_roundw
              case rel => exact ⟨q + 1, by go_num, hlt, twice_step HB.out.2.1 (fun h => absurd h HK.out), HB.out.1⟩
              case measure => simp [intOf]; omega
          · have hz : q = k := by omega
            subst hz
            have d1 : decide ((q : Int) < (q : Int)) = false := by simp
            have HY := Lib.hid (And.intro htw hb)
            clear htw hb
            go_wp2_with fail
            go_loopw [8] (fun i wr => ∃ r : Nat, i = .int .i64 r ∧ r ≤ q ∧ lost X q r = false ∧ Below w.heap.size w wr) (fun i _ => q - (intOf i).toNat)
            case atStart => exact ⟨0, rfl, Nat.zero_le _, rfl, HY.out.2⟩
            case round =>
              obtain ⟨r, rfl, hrq, hlo, hb⟩ := hrel
              by_cases hlt : r < q
              · have d1 : decide ((r : Int) < (q : Int)) = true := by simp; omega
                have ek : (r : Int) < (q : Int) := by omega
                have hIr := H.out.below hb
                obtain ⟨b, off, hp, k0, k1, k2, k3, k4, k5, k6, k7⟩ := hIr.at hlt
                have hrn := rnamed_any (X r) wr
                obtain ⟨bn, hbn⟩ : ∃ bn, bn = named (X r) := ⟨_, rfl⟩
                rw [← hbn] at hrn
                have HB := Lib.hid (And.intro hb (And.intro hlo (And.intro hp hbn)))
                rw [hp]
                clear hb hlo hbn
                go_wp2_with fail
                refine hrn.mono ?_
                rintro e w2 ⟨rfl, hb2⟩
                have hI2 := hIr.below hb2
                have hsa := rstands_at hI2 hn (X r).lab
                obtain ⟨b2, off2, hp2, -, -, -, -, -, -, m6, -⟩ := hI2.at hlt
                rw [hp] at hp2 hsa
                cases hp2
                have HW := Lib.hid (HB.out.1.trans (hb2.mono HB.out.1.size))
                clear k0 k1 k2 k3 k4 k5 k6 k7 hI2 hIr hb2 hrn hp
                cases bn
                · go_wp2_with fail
                  go_roundw
                  case rel =>
                    refine ⟨r + 1, by go_num, hlt, lost_step HB.out.2.1 ?_, HW.out⟩
                    rw [← HB.out.2.2.2]; rfl
                  case measure => simp [intOf]; omega
                · cases hs : st X (X r).lab q with
                  | none =>
                    have hsi := stI_none hs
                    rw [hsi] at hsa
                    have HS := Lib.hid hs
                    clear hs hsi
                    go_wp2_with (first
                      | (go_at_call 30; refine hsa.mono ?_; rintro e w' ⟨rfl, rfl⟩))
                    go_ret
                    have ht := lost_stays (lost_hit (X := X) (n := q) (k := r) (by rw [← HB.out.2.2.2, HS.out]; rfl)) q (show r + 1 ≤ q by omega)
                    exact ⟨by rw [ck_lost HR.out HX.out.2 HY.out.1 ht]; rfl, HW.out⟩
                  | some j =>
                    have hsi := stI_some hs
                    rw [hsi] at hsa
                    have dj : decide ((j : Int) < 0) = false := by simp
                    have HS := Lib.hid hs
                    clear hs hsi
                    go_wp2_with (first
                      | (go_at_call 30; refine hsa.mono ?_; rintro e w' ⟨rfl, rfl⟩))
                    go_roundw
                    case rel =>
                      refine ⟨r + 1, by go_num, hlt, lost_step HB.out.2.1 ?_, HW.out⟩
                      rw [HS.out]
                      simp
                    case measure => simp [intOf]; omega
              · have hz : r = q := by omega
                subst hz
                have d1 : decide ((r : Int) < (r : Int)) = false := by simp
                have HZ := Lib.hid (And.intro hlo hb)
                clear hlo hb
                go_wp2_with fail
                go_ret
                exact ⟨by rw [ck_good HR.out HX.out.2 HY.out.1 HZ.out.1]; rfl, HZ.out.2⟩
end Go.Proofs.YtbplmbignalbgaaDoor
