/- Contracts: a number for the document; the document's text. Conditions: the digits lie as told. -/
import Derived.Test.YtihgefllmkicaaaDoorRbJ
import Derived.Test.YtihgefllmkicaaaDoorBaH
namespace Go.Proofs.YtihgefllmkicaaaDoor
open Go.RowKit Bg
set_option linter.unusedVariables false
set_option linter.unusedSimpArgs false


open Lib (decDigits)
set_option maxRecDepth 100000 in
set_option maxHeartbeats 8000000 in
theorem of_num {w : World} {p : Option Addr} {c : Nat} {l : List Int} {s : Bool} {x : Int} (a : Nm w s p c l x) (hn : l.length ≤ 10000) :
    Calls Tryd.prog 12 #[.agg #[.bool s, .slice p l.length c]] w fun e w' => ∃ t q d D, e = .returned (.agg #[.bool t, .slice q D.length d]) ∧ Dn w' t q d D x ∧ D.length ≤ 7 * l.length ∧ Below w.heap.size w w' := by
  obtain ⟨W, hW⟩ : ∃ W, W = (w.alloc (.cells #[.bool s, .slice p l.length c] 24)).alloc (.cells #[.bool false, .slice none 0 0] 28) := ⟨_, rfl⟩
  have hB : Below w.heap.size w W := by rw [hW]; exact ((Below.refl _ _).alloc (Nat.le_refl _) _).alloc (by simp) _
  have x0 : Box W w.heap.size (.bool s) (.slice p l.length c) := by rw [hW]; exact (Box.fresh _ _ _ rfl).alloc _
  have x1 : Box W (w.heap.size + 1) (.bool false) (.slice none 0 0) := by rw [hW]; exact box_fresh 28 _ _ _ (by simp)
  have hS : W.heap.size = w.heap.size + 2 := by rw [hW]; simp
  have T := Lib.hid (rfrom_at (s := s) (a.arg.below hB) a.dig hn)
  rw [a.val] at T
  have c0 := x0.c0
  have c1 := x0.c1
  have H := Lib.hid (And.intro hB (And.intro x1 hS))
  clear a hB x0 x1 hS
  go_enter Tryd.func12, Tryd.ntmps12
  go_wp2_with fail
  rw [← hW]
  clear hW
  refine T.out.mono ?_
  rintro e w1 ⟨t, q, d, D, rfl, hD, hl, hq, B1⟩
  have hx := H.out.2.1.below B1
  have k7 := hx.first (.bool t)
  have k6 := (hx.store (.bool t) (.slice q D.length d)).2
  have hf0 := hx.f0
  have hf1 := hx.f1
  have hc0 := hx.c0
  have hc1 := hx.c1
  have H1 := Lib.hid (And.intro hD (And.intro hl (And.intro hq (H.out.1.trans (B1.mono H.out.1.size)))))
  clear hD hl hq B1 hx c0 c1
  go_wp2_with fail
  refine bodyPost_ret (v := .agg #[.bool t, .slice q D.length d]) (by simp [results, Tryd.results12, go_sem, k6, k7]) rfl ⟨t, q, d, D, rfl, ⟨?_, H1.out.1.can, H1.out.1.val⟩, H1.out.2.1, ?_⟩
  · refine H1.out.1.arg.put (fun g o he hg => ?_) _ _
    rcases H1.out.2.2.1 with h | ⟨g', h, hg'⟩
    · rw [h] at he; cases he
    · rw [h] at he; cases he
      have := H.out.2.2
      omega
  · exact box_kept H1.out.2.2.2 (by omega) _ _
/-- What is written when k digits are still to come. -/
def tens (s : Bool) (D : List Int) (k : Nat) : List UInt8 := (if s = true then [45] else []) ++ (if D.length ≤ k then [] else decDigits (Bg.val 10 (D.drop k)).toNat)
theorem byI_one (t : List UInt8) {d : Int} (h : 0 ≤ d ∧ d < 10) : byI t ++ [48 + d] = byI (t ++ [UInt8.ofNat (48 + d.toNat)]) := by
  rw [byI_app]
  congr 1
  unfold byI
  rw [List.map_cons, List.map_nil, byte_of (by omega)]
  congr 1
  omega
theorem tens_step {s : Bool} {D : List Int} (h : Dig 10 D) (t : Tidy D) {k : Nat} (hk : k < D.length) : byI (tens s D (k + 1)) ++ [48 + D.getD k 0] = byI (tens s D k) := by
  have hd := h.getD (by decide) k
  rw [byI_one _ hd]
  unfold tens
  rw [if_neg (show ¬ D.length ≤ k by omega), List.append_assoc]
  congr 2
  have hv := val_any (B := 10) D k hk
  by_cases h1 : D.length ≤ k + 1
  · rw [if_pos h1, List.nil_append, hv, List.drop_eq_nil_of_le h1]
    have h3 : Bg.val 10 [] = 0 := rfl
    rw [h3, Int.mul_zero, Int.add_zero, Lib.decDigits, dif_pos (by omega)]
  · rw [if_neg h1, hv]
    have hp := val_drop_pos (by decide) h t (i := k + 1) (by omega)
    rw [← dec_snoc (by omega) (by omega)]
    congr 1
    omega
theorem tens_len {s : Bool} {D : List Int} (h : Dig 10 D) (k : Nat) : (tens s D k).length ≤ D.length + 2 := by
  unfold tens
  rw [List.length_append]
  have h1 : (if s = true then [(45 : UInt8)] else []).length ≤ 1 := by split <;> simp
  have h2 : (if D.length ≤ k then [] else decDigits (Bg.val 10 (D.drop k)).toNat).length ≤ D.length := by
    split
    · simp
    · rename_i hk
      refine dec_len ?_ (by omega)
      have a1 := val_lt (show (0 : Int) < 10 by decide) (h.drop k)
      have a2 := pow_le (show (1 : Int) ≤ 10 by decide) (show (D.drop k).length ≤ D.length by rw [List.length_drop]; omega)
      have a3 := val_nonneg (show (0 : Int) ≤ 10 by decide) (h.drop k)
      have a4 : ((10 ^ D.length : Nat) : Int) = (10 : Int) ^ D.length := by simp
      omega
  omega
theorem tens_all {s : Bool} {D : List Int} {x : Int} (c : Bg.Can 10 s D) (hv : nv 10 s D = x) (h0 : 0 < D.length) : tens s D 0 = txt x := by
  have hp := val_drop_pos (by decide) c.dig c.tidy (i := 0) h0
  rw [List.drop_zero] at hp
  unfold tens txt
  rw [if_neg (show ¬ D.length ≤ 0 by omega), List.drop_zero, ← hv]
  unfold nv
  cases s
  · simp only [Bool.false_eq_true, if_false, List.nil_append]
    rw [if_neg (by omega)]
  · simp only [if_true]
    rw [if_pos (by omega), Int.neg_neg]
    rfl
set_option maxRecDepth 100000 in
set_option maxHeartbeats 20000000 in
theorem rtext_at {w : World} {p : Option Addr} {c : Nat} {l : List Int} {s : Bool} {x : Int} (a : Dn w s p c l x) (hn : l.length ≤ 1000000) :
    Calls Tryd.prog 16 #[.agg #[.bool s, .slice p l.length c]] w fun e w' => e = .returned (.string ⟨(txt x).toArray⟩) ∧ Below w.heap.size w w' := by
  obtain ⟨W, hW⟩ : ∃ W, W = w.alloc (.cells #[.bool s, .slice p l.length c] 28) := ⟨_, rfl⟩
  have hB : Below w.heap.size w W := by rw [hW]; exact (Below.refl _ _).alloc (Nat.le_refl _) _
  have x0 : Box W w.heap.size (.bool s) (.slice p l.length c) := by rw [hW]; exact box_fresh 28 _ _ _ rfl
  have c0 := x0.c0
  have c1 := x0.c1
  have H := Lib.hid (And.intro (a.arg.below hB) (And.intro a.can (And.intro hB (And.intro a.val x0))))
  have hmx := a.arg.max
  have hle := a.arg.le
  clear a hB x0
  go_enter Tryd.func16, Tryd.ntmps16
  by_cases h0 : l.length = 0
  · have q1 : decide ((l.length : Int) = 0) = true := by rw [decide_eq_true_eq]; omega
    have q2 : ((l.length : Int) == 0) = true := q1
    have hx : txt x = [48] := by
      rw [← H.out.2.2.2.1, List.length_eq_zero_iff.1 h0, nv_nil]
      exact dec_zero
    have HX := Lib.hid hx
    clear hx
    go_wp2_with fail
    go_ret
    rw [h0] at hW
    exact ⟨by rw [HX.out]; rfl, by rw [← hW]; exact H.out.2.2.1⟩
  · have q1 : decide ((l.length : Int) = 0) = false := by rw [decide_eq_false_iff_not]; omega
    have q2 : ((l.length : Int) == 0) = false := q1
    have HA := Lib.hid (tens_all H.out.2.1 H.out.2.2.2.1 (by omega))
    go_upto_region 4 with fail
    rw [← hW]
    clear hW q1 q2
    cases s
    · go_wp2_with fail
      clear c0 c1
      go_loopw [3, 4] (fun v t wr => ∃ k : Nat, t = .int .i64 ((k : Int) - 1) ∧ k ≤ l.length ∧ Hid (Own 5 .u8 W.heap.size wr v (byI (tens false l k)) ∧ Below W.heap.size W wr)) (fun _ t _ => (intOf t + 1).toNat)
      case atStart => exact ⟨l.length, rfl, Nat.le_refl _, by unfold tens; rw [if_pos (Nat.le_refl _)]; exact Own.nil _ _ _ _, Below.refl _ _⟩
      case round =>
        obtain ⟨k, rfl, hk, hS⟩ := hrel
        obtain ⟨v7, hv7⟩ : ∃ v7, v7 = u3 := ⟨_, rfl⟩
        rw [← hv7] at hS ⊢
        clear hv7
        have hx := H.out.2.2.2.2.below hS.out.2
        have g0 := hx.c0
        have g1 := hx.c1
        have HB := Lib.hid (H.out.2.2.1.trans (hS.out.2.mono H.out.2.2.1.size))
        clear hx
        cases k with
        | zero =>
          have d1 : decide (((0 : Nat) : Int) - 1 ≥ 0) = false := by decide
          rw [HA.out] at hS
          obtain ⟨p7, c7, rfl, a7, hp7⟩ := hS.out.1.arg
          have hne : ∃ g, p7 = some ⟨g, 0, none⟩ := by
            rcases hp7 with h | ⟨g, h, -⟩
            · exfalso
              have h1 := (a7.nil h).1
              rw [← HA.out] at h1
              have h2 : (byI (tens false l 0)).length = 0 := by rw [h1]; rfl
              rw [byI_len] at h2
              unfold tens at h2
              rw [if_neg (show ¬ l.length ≤ 0 by omega), List.length_append, Lib.decDigits_length] at h2
              have := Lib.nDigits_pos (Bg.val 10 (l.drop 0)).toNat
              omega
            · exact ⟨g, h⟩
          obtain ⟨g, rfl⟩ := hne
          have hcv := run_convert_bytes_arg (P := Tryd.prog) wr 67 5 Tryd.underlying67 Tryd.underlying5 g 0 (byI (txt x)).length c7 (byI (txt x)) rfl (fun i hi => by rw [Nat.zero_add]; have := a7.some_at i hi; rwa [Nat.zero_add] at this) 9 Tryd.underlying9
          rw [nums_byI] at hcv
          clear hS a7 hp7 hk
          go_wp2_with fail
          go_ret
          exact ⟨rfl, HB.out⟩
        | succ k =>
          have e6 : ((k + 1 : Nat) : Int) - 1 = k := by omega
          have d1 : decide ((k : Int) ≥ 0) = true := by rw [decide_eq_true_eq]; omega
          obtain ⟨b, off, rfl, hc⟩ := H.out.1.at (by omega)
          have ck := (H.out.1.below hS.out.2).some_at k (by omega)
          have hd := H.out.2.1.dig.getD (by decide) k
          have hst := tens_step (s := false) H.out.2.1.dig H.out.2.1.tidy (k := k) (by omega)
          have hln := tens_len (s := false) H.out.2.1.dig (k + 1)
          obtain ⟨d, hde⟩ : ∃ d, d = l.getD k 0 := ⟨_, rfl⟩
          rw [← hde] at ck hd hst
          obtain ⟨v8, w8, hr8, ho8, hb8⟩ := app_two kt8 (x := 48 + d) hS.out.1 (by rw [byI_len]; omega) hS.out.2.size
          rw [hst] at ho8
          have HR := Lib.hid (And.intro hr8 (And.intro ho8 (hS.out.2.trans hb8)))
          have f1 : (k : Int) < (l.length : Int) := by omega
          have m1 : wrap64 (48 + d) = 48 + d := by unfold wrap64; omega
          have m2 : (48 + d) % 256 = 48 + d := by omega
          have m3 : IntKind.u8.wrap (48 + d) = 48 + d := by rw [IntKind.wrap_u8]; omega
          clear hc hde hd hst hln hr8 ho8 hb8
          rw [e6]
          go_wp2_with (at_builtin; refine Lib.wpList_append_run _ rfl _ _ 67 67 rfl v7 (.slice (some ⟨wr.heap.size, 0, none⟩) 1 1) rfl rfl v8 w8 HR.out.1 ?_)
          go_roundw
          case rel => exact ⟨k, rfl, by omega, HR.out.2.1, HR.out.2.2⟩
          case measure => simp [intOf]
    · obtain ⟨v5, w5, hr5, ho5, hb5⟩ := app_two kt8 (x := 45) (Own.nil 5 .u8 W.heap.size W) (by simp) (Nat.le_refl _)
      have y0 := H.out.2.2.2.2.below hb5
      have z1 := y0.c1
      have HR5 := Lib.hid (And.intro hr5 (And.intro ho5 hb5))
      clear hr5 ho5 hb5 y0
      go_wp2_with (at_builtin; refine Lib.wpList_append_run _ rfl _ _ 67 67 rfl (.slice none 0 0) (.slice (some ⟨W.heap.size, 0, none⟩) 1 1) rfl rfl v5 w5 HR5.out.1 ?_)
      clear c0 c1 z1
      go_loopw [3, 4] (fun v t wr => ∃ k : Nat, t = .int .i64 ((k : Int) - 1) ∧ k ≤ l.length ∧ Hid (Own 5 .u8 W.heap.size wr v (byI (tens true l k)) ∧ Below W.heap.size W wr)) (fun _ t _ => (intOf t + 1).toNat)
      case atStart => exact ⟨l.length, rfl, Nat.le_refl _, by unfold tens; rw [if_pos (Nat.le_refl _)]; exact HR5.out.2.1, HR5.out.2.2⟩
      case round =>
        obtain ⟨k, rfl, hk, hS⟩ := hrel
        obtain ⟨v7, hv7⟩ : ∃ v7, v7 = u3 := ⟨_, rfl⟩
        rw [← hv7] at hS ⊢
        clear hv7
        have hx := H.out.2.2.2.2.below hS.out.2
        have g0 := hx.c0
        have g1 := hx.c1
        have HB := Lib.hid (H.out.2.2.1.trans (hS.out.2.mono H.out.2.2.1.size))
        clear hx
        cases k with
        | zero =>
          have d1 : decide (((0 : Nat) : Int) - 1 ≥ 0) = false := by decide
          rw [HA.out] at hS
          obtain ⟨p7, c7, rfl, a7, hp7⟩ := hS.out.1.arg
          have hne : ∃ g, p7 = some ⟨g, 0, none⟩ := by
            rcases hp7 with h | ⟨g, h, -⟩
            · exfalso
              have h1 := (a7.nil h).1
              rw [← HA.out] at h1
              have h2 : (byI (tens true l 0)).length = 0 := by rw [h1]; rfl
              rw [byI_len] at h2
              unfold tens at h2
              rw [if_neg (show ¬ l.length ≤ 0 by omega), List.length_append, Lib.decDigits_length] at h2
              have := Lib.nDigits_pos (Bg.val 10 (l.drop 0)).toNat
              omega
            · exact ⟨g, h⟩
          obtain ⟨g, rfl⟩ := hne
          have hcv := run_convert_bytes_arg (P := Tryd.prog) wr 67 5 Tryd.underlying67 Tryd.underlying5 g 0 (byI (txt x)).length c7 (byI (txt x)) rfl (fun i hi => by rw [Nat.zero_add]; have := a7.some_at i hi; rwa [Nat.zero_add] at this) 9 Tryd.underlying9
          rw [nums_byI] at hcv
          clear hS a7 hp7 hk
          go_wp2_with fail
          go_ret
          exact ⟨rfl, HB.out⟩
        | succ k =>
          have e6 : ((k + 1 : Nat) : Int) - 1 = k := by omega
          have d1 : decide ((k : Int) ≥ 0) = true := by rw [decide_eq_true_eq]; omega
          obtain ⟨b, off, rfl, hc⟩ := H.out.1.at (by omega)
          have ck := (H.out.1.below hS.out.2).some_at k (by omega)
          have hd := H.out.2.1.dig.getD (by decide) k
          have hst := tens_step (s := true) H.out.2.1.dig H.out.2.1.tidy (k := k) (by omega)
          have hln := tens_len (s := true) H.out.2.1.dig (k + 1)
          obtain ⟨d, hde⟩ : ∃ d, d = l.getD k 0 := ⟨_, rfl⟩
          rw [← hde] at ck hd hst
          obtain ⟨v8, w8, hr8, ho8, hb8⟩ := app_two kt8 (x := 48 + d) hS.out.1 (by rw [byI_len]; omega) hS.out.2.size
          rw [hst] at ho8
          have HR := Lib.hid (And.intro hr8 (And.intro ho8 (hS.out.2.trans hb8)))
          have f1 : (k : Int) < (l.length : Int) := by omega
          have m1 : wrap64 (48 + d) = 48 + d := by unfold wrap64; omega
          have m2 : (48 + d) % 256 = 48 + d := by omega
          have m3 : IntKind.u8.wrap (48 + d) = 48 + d := by rw [IntKind.wrap_u8]; omega
          clear hc hde hd hst hln hr8 ho8 hb8
          rw [e6]
          go_wp2_with (at_builtin; refine Lib.wpList_append_run _ rfl _ _ 67 67 rfl v7 (.slice (some ⟨wr.heap.size, 0, none⟩) 1 1) rfl rfl v8 w8 HR.out.1 ?_)
          go_roundw
          case rel => exact ⟨k, rfl, by omega, HR.out.2.1, HR.out.2.2⟩
          case measure => simp [intOf]
end Go.Proofs.YtihgefllmkicaaaDoor
