/- Contracts: a number's text. Conditions: the digits lie as told; the table lies. -/
import Derived.Test.YtihgefllmkicaaaDoorBaG
import Derived.Test.YtihgefllmkicaaaDoorBaC
import Derived.Test.YtihgefllmkicaaaDoorBgV
import Derived.Lib.AppendZeros
namespace Go.Proofs.YtihgefllmkicaaaDoor
open Go.RowKit Bg
set_option linter.unusedVariables false
set_option linter.unusedSimpArgs false


open Lib (decDigits)
theorem app_four {w : World} {B : Nat} {v : Value} {l : List Int} {a b c d : Int} (h : Own 5 .u8 B w v l) (hm : l.length + 4 ≤ 1000000000) (hB : B ≤ w.heap.size) :
    ∃ v' w', (Builtin.append_ #[67, 67] 67 #[v, .slice (some ⟨w.heap.size, 0, none⟩) 4 4]).run Tryd.prog (w.alloc (.cells #[.int .u8 a, .int .u8 b, .int .u8 c, .int .u8 d] 5)) = .ok v' w' ∧ Own 5 .u8 B w' v' (l ++ [a, b, c, d]) ∧ Below B w w' := by
  have hb : Below B w (w.alloc (.cells #[.int .u8 a, .int .u8 b, .int .u8 c, .int .u8 d] 5)) := (Below.refl _ _).alloc hB _
  obtain ⟨v', w', hr, h1, h2, h3⟩ := app_row kt8 (h.alloc (.cells #[.int .u8 a, .int .u8 b, .int .u8 c, .int .u8 d] 5)) (m := [a, b, c, d]) (p := some ⟨w.heap.size, 0, none⟩) (c := 4) ⟨fun h => (by cases h), Nat.le_refl _, by decide, fun i hi => ⟨w.heap.size, 0, rfl, by
    have e := heap_new w (.cells #[.int .u8 a, .int .u8 b, .int .u8 c, .int .u8 d] 5)
    unfold World.cell?
    rw [e]
    have hi' : i < 4 := hi
    rcases (show i = 0 ∨ i = 1 ∨ i = 2 ∨ i = 3 by omega) with rfl | rfl | rfl | rfl <;> rfl⟩⟩ hm (by simp; omega)
  exact ⟨v', w', hr, h1, hb.trans h3⟩
theorem byI_four (t : List UInt8) {d : Int} (h : 0 ≤ d ∧ d < 10000) : byI t ++ [48 + d / 1000, 48 + d / 100 % 10, 48 + d / 10 % 10, 48 + d % 10] = byI (t ++ [UInt8.ofNat (48 + d.toNat / 1000), UInt8.ofNat (48 + d.toNat / 100 % 10), UInt8.ofNat (48 + d.toNat / 10 % 10), UInt8.ofNat (48 + d.toNat % 10)]) := by
  rw [byI_app]
  congr 1
  unfold byI
  simp only [List.map_cons, List.map_nil]
  rw [byte_of (by omega), byte_of (by omega), byte_of (by omega), byte_of (by omega)]
  congr 1
  · omega
  congr 1
  · omega
  congr 1
  · omega
  congr 1
  omega
/-- What is written when i groups are still to come. -/
def half (s : Bool) (E : List Int) (i : Nat) : List UInt8 := (if s = true then [45] else []) ++ decDigits (val 10000 (E.drop i)).toNat
theorem half_group {s : Bool} {E : List Int} (h : Dig 10000 E) (t : Tidy E) {i : Nat} (hi : i + 1 < E.length) : byI (half s E (i + 1)) ++ [48 + E.getD i 0 / 1000, 48 + E.getD i 0 / 100 % 10, 48 + E.getD i 0 / 10 % 10, 48 + E.getD i 0 % 10] = byI (half s E i) := by
  rw [byI_four _ (h.getD (by decide) i)]
  unfold half
  rw [dec_group h t hi, List.append_assoc]
theorem half_len {s : Bool} {E : List Int} (h : Dig 10000 E) (i : Nat) (hE : 0 < E.length) : (half s E i).length ≤ 4 * E.length + 1 := by
  have h1 := val_lt (show (0 : Int) < 10000 by decide) (h.drop i)
  have h2 : (val 10000 (E.drop i)).toNat < 10 ^ (4 * E.length) := by
    have h3 := pow_le (show (1 : Int) ≤ 10000 by decide) (show (E.drop i).length ≤ E.length by rw [List.length_drop]; omega)
    have h0 := val_nonneg (show (0 : Int) ≤ 10000 by decide) (h.drop i)
    have h4 : ((10 : Int) ^ (4 * E.length)) = 10000 ^ E.length := by rw [Int.pow_mul]; rfl
    have h5 : ((10 ^ (4 * E.length) : Nat) : Int) = (10 : Int) ^ (4 * E.length) := by simp
    omega
  have h6 := dec_len h2 (by omega)
  unfold half
  rw [List.length_append]
  split <;> simp <;> omega
theorem half_all {s : Bool} {E : List Int} (h : Dig 10000 E) (t : Tidy E) (hE : 0 < E.length) : half s E 0 = txt (if s = true then - val 10000 E else val 10000 E) := by
  have hp := val_drop_pos (by decide) h t (i := 0) hE
  rw [List.drop_zero] at hp
  unfold half txt
  rw [List.drop_zero]
  cases s
  · simp only [Bool.false_eq_true, if_false, List.nil_append]
    rw [if_neg (by omega)]
  · simp only [if_true]
    rw [if_pos (by omega), Int.neg_neg]
    rfl
theorem pow_mono {a b : Int} (ha : 0 ≤ a) (h : a ≤ b) : ∀ n : Nat, a ^ n ≤ b ^ n
  | 0 => by simp
  | n + 1 => by
    rw [Int.pow_succ, Int.pow_succ]
    exact Int.mul_le_mul (pow_mono ha h n) h ha (Int.pow_nonneg (by omega))
theorem len_any {E : List Int} (h : Dig 10000 E) (t : Tidy E) {n : Nat} (hv : val 10000 E < 65536 ^ n) : E.length ≤ 2 * n := by
  by_cases h0 : E = []
  · rw [h0]; exact Nat.zero_le _
  have h1 := val_ge (by decide) h t h0
  rcases Nat.lt_or_ge (2 * n) E.length with h3 | h3
  · exfalso
    have h4 := pow_le (show (1 : Int) ≤ 10000 by decide) (show 2 * n ≤ E.length - 1 by omega)
    have h5 : (65536 : Int) ^ n ≤ 10000 ^ (2 * n) := by
      rw [Int.pow_mul]
      exact pow_mono (by decide) (by decide) n
    omega
  · exact h3

set_option maxRecDepth 100000 in
set_option maxHeartbeats 20000000 in
theorem text_at {w : World} {p : Option Addr} {c : Nat} {l : List Int} (s : Bool) (a1 : Arg .u16 w p c l) (d1 : Dig 65536 l) (n1 : l.length ≤ 300) (ht : Tab w) :
    Calls Tryd.prog 15 #[.agg #[.bool s, .slice p l.length c]] w fun e w' => e = .returned (.string ⟨(txt (nv 65536 s l)).toArray⟩) ∧ Below w.heap.size w w' := by
  obtain ⟨W, hW⟩ : ∃ W, W = w.alloc (.cells #[.bool s, .slice p l.length c] 24) := ⟨_, rfl⟩
  have hB : Below w.heap.size w W := by rw [hW]; exact (Below.refl _ _).alloc (Nat.le_refl _) _
  have hx : Box W w.heap.size (.bool s) (.slice p l.length c) := by rw [hW]; exact Box.fresh _ _ _ rfl
  have hS : W.heap.size = w.heap.size + 1 := by rw [hW]; simp
  have T1 := Lib.hid (tidied_at s (a1.below hB))
  have htc := tidy_can s d1
  obtain ⟨nx, hnx⟩ : ∃ nx, nx = nv 65536 s l := ⟨_, rfl⟩
  rw [← hnx] at htc ⊢
  clear hnx
  have hl := tdig_len l
  have hl2 := trimN_le l l.length
  have hc0 := hx.c0
  have hc1 := hx.c1
  have HH := Lib.hid (And.intro hB (And.intro (a1.below hB) (And.intro htc (And.intro (show (tdig l).length ≤ 300 by omega) (ht.below (hB.mono (Nat.le_refl _)))))))
  clear a1 d1 n1 ht hB hx hS hl hl2 htc
  go_enter Tryd.func15, Tryd.ntmps15
  go_wp2_with fail
  rw [← hW]
  clear hW
  refine T1.out.mono ?_
  rintro e w1 ⟨rfl, B1⟩
  obtain ⟨ts, hts⟩ : ∃ ts, ts = tneg s l := ⟨_, rfl⟩
  obtain ⟨D, hD⟩ : ∃ D, D = tdig l := ⟨_, rfl⟩
  have HC := HH.out.2.2.1
  have aD : Arg .u16 w1 p c (tdig l) := (HH.out.2.1.below B1).take _
  have nD := HH.out.2.2.2.1
  rw [← hts, ← hD] at HC
  rw [← hD] at aD nD
  rw [← hts, ← hD]
  have tb1 := HH.out.2.2.2.2.below B1
  have hy := Box.fresh w1 (.bool ts) (.slice p D.length c) (n := w1.heap.size) rfl
  have b1 : Below w.heap.size w (w1.alloc (.cells #[.bool ts, .slice p D.length c] 24)) := (HH.out.1.trans (B1.mono HH.out.1.size)).alloc (Nat.le_trans HH.out.1.size B1.size) _
  have hf0 := hy.c0
  have hf1 := hy.c1
  obtain ⟨W2, hW2⟩ : ∃ W2, W2 = w1.alloc (.cells #[.bool ts, .slice p D.length c] 24) := ⟨_, rfl⟩
  have HY := Lib.hid (And.intro (aD.alloc (.cells #[.bool ts, .slice p D.length c] 24)) (And.intro HC (And.intro nD (And.intro (tb1.alloc (.cells #[.bool ts, .slice p D.length c] 24)) (And.intro hy b1)))))
  rw [← hW2] at HY hf0 hf1
  clear HC aD nD tb1 hy b1 hts hD HH T1 B1 hc0 hc1
  by_cases h0 : D.length = 0
  · have q1 : decide ((D.length : Int) = 0) = true := by rw [decide_eq_true_eq]; omega
    have q2 : ((D.length : Int) == 0) = true := q1
    go_wp2_with fail
    go_ret
    obtain ⟨-, ⟨hC, hv⟩, -, -, -, hb⟩ := HY.out
    have hD0 : D = [] := List.length_eq_zero_iff.1 h0
    rw [hD0, nv_nil] at hv
    rw [h0] at hW2
    refine ⟨?_, by rw [← hW2]; exact hb⟩
    rw [← hv, show txt 0 = [48] from dec_zero]
    rfl
  · have q1 : decide ((D.length : Int) = 0) = false := by rw [decide_eq_false_iff_not]; omega
    have q2 : ((D.length : Int) == 0) = false := q1
    go_wp2_with fail
    rw [← hW2]
    clear hW2
    obtain ⟨β, hβ⟩ : ∃ β, β = w1.heap.size := ⟨_, rfl⟩
    rw [← hβ] at HY hf0 hf1 ⊢
    clear hβ
    refine (rebased_at HY.out.1 HY.out.2.1.1.dig (F := 65536) (R := 10000) (by decide) (by decide) (by omega) HY.out.2.2.1).mono ?_
    rintro e w4 ⟨v4, E, rfl, oE, dE, tE, vE, B4⟩
    obtain ⟨p4, c4, rfl, a4, -⟩ := oE.arg
    have hE0 : 0 < E.length := by
      rcases Nat.eq_zero_or_pos E.length with h | h
      · exfalso
        rw [List.length_eq_zero_iff.1 h] at vE
        have h1 := val_ge (by decide) HY.out.2.1.1.dig HY.out.2.1.1.tidy (fun e => h0 (by rw [e]; rfl))
        have h2 := pow_pos' (show (0 : Int) < 65536 by decide) (D.length - 1)
        have h3 : val 10000 [] = 0 := rfl
        omega
      · exact h
    have hE6 : E.length ≤ 600 := by
      have h1 := val_lt (show (0 : Int) < 65536 by decide) HY.out.2.1.1.dig
      rw [← vE] at h1
      have := len_any dE tE h1
      have := HY.out.2.2.1
      omega
    have hx4 := HY.out.2.2.2.2.1.below B4
    have hb4 : Below w.heap.size w w4 := HY.out.2.2.2.2.2.trans (B4.mono HY.out.2.2.2.2.2.size)
    have htb := HY.out.2.2.2.1.below B4
    have hg0 := hx4.c0
    have hg1 := hx4.c1
    obtain ⟨m, hm⟩ : ∃ m, E.length = m + 1 := ⟨E.length - 1, by omega⟩
    have hnt : half ts E 0 = txt nx := by rw [half_all dE tE hE0, ← HY.out.2.1.2, vE]; rfl
    obtain ⟨b, off, rfl, hc4⟩ := a4.at hE0
    have HE := Lib.hid (And.intro a4 (And.intro dE (And.intro tE (And.intro hnt (And.intro htb (And.intro hb4 (And.intro hE0 hE6)))))))
    rw [hm]
    rw [hm] at hc4
    have HM := Lib.hid hm
    have hm6 : m ≤ 600 := by omega
    clear oE a4 dE tE vE B4 hx4 hb4 htb hf0 hf1 HY q1 q2 h0 hm hE0 hnt
    have cm := hc4 m (by omega)
    have hd := HE.out.2.1.getD (by decide) m
    obtain ⟨d, hde⟩ : ∃ d, d = E.getD m 0 := ⟨_, rfl⟩
    rw [← hde] at cm hd
    have HDE := Lib.hid hde
    clear hde hc4
    obtain ⟨dn, rfl⟩ : ∃ dn : Nat, d = dn := ⟨d.toNat, by omega⟩
    have f1 : (m : Int) < ((m + 1 : Nat) : Int) := by omega
    have f2 : ((m + 1 : Nat) : Int) - 1 = m := by omega
    have f3 : ((m : Nat) : Int) + 1 - 1 = m := by omega
    have f4 : wrap64 (m : Int) = m := by unfold wrap64; omega
    cases ts
    · go_wp2_with fail
      refine (appendUint_at (t := []) (by exact Own.nil _ _ _ _) (Nat.le_refl _) (by decide) dn (by omega) HE.out.2.2.2.2.1).mono ?_
      rintro e w6 ⟨v6, rfl, ho6, hb6⟩
      have ho6' : Own 5 .u8 w4.heap.size w6 v6 (byI (half false E m)) := by
        unfold half
        rw [dec_top HE.out.2.1 HM.out.symm, ← HDE.out, Int.toNat_natCast]
        exact ho6
      have HT := Lib.hid (And.intro ho6' hb6)
      clear ho6 ho6' hb6 cm
      go_wp2_with fail
      go_loopw [5, 7, 8, 34] (fun v s7 s8 t wr => ∃ k : Nat, t = .int .i64 k ∧ k ≤ m ∧ Hid (Own 5 .u8 w4.heap.size wr v (byI (half false E (m - k))) ∧ Below w4.heap.size w4 wr)) (fun _ _ _ t _ => m - (intOf t).toNat)
      case atStart => exact ⟨0, rfl, Nat.zero_le _, HT.out.1, HT.out.2⟩
      case round =>
        obtain ⟨k, rfl, hk, hS⟩ := hrel
        obtain ⟨v7, hv7⟩ : ∃ v7, v7 = u5 := ⟨_, rfl⟩
        rw [← hv7] at hS ⊢
        clear hv7
        by_cases hlt : k < m
        · have ck := (HE.out.1.below hS.out.2).some_at (m - 1 - k) (by rw [HM.out]; omega)
          have hdk := HE.out.2.1.getD (by decide) (m - 1 - k)
          have hhg := half_group (s := false) HE.out.2.1 HE.out.2.2.1 (i := m - 1 - k) (by rw [HM.out]; omega)
          rw [show m - 1 - k + 1 = m - k by omega] at hhg
          have hhl := half_len (s := false) HE.out.2.1 (m - k) HE.out.2.2.2.2.2.2.1
          obtain ⟨d, hd⟩ : ∃ d, d = E.getD (m - 1 - k) 0 := ⟨_, rfl⟩
          rw [← hd] at ck hdk hhg
          clear hd
          obtain ⟨v8, w8, hr8, ho8, hb8⟩ := app_four (a := 48 + d / 1000) (b := 48 + d / 100 % 10) (c := 48 + d / 10 % 10) (d := 48 + d % 10) hS.out.1 (by rw [byI_len]; have := HE.out.2.2.2.2.2.2.2; omega) hS.out.2.size
          rw [hhg] at ho8
          have HR := Lib.hid (And.intro hr8 (And.intro ho8 (hS.out.2.trans hb8)))
          have q1 : decide ((k : Int) < (m : Int)) = true := by rw [decide_eq_true_eq]; omega
          have g1 : wrap64 ((m : Int) - 1) = ((m - 1 : Nat) : Int) := by unfold wrap64; omega
          have g2 : wrap64 (((m - 1 : Nat) : Int) - k) = ((m - 1 - k : Nat) : Int) := by unfold wrap64; omega
          have g3 : ((m - 1 - k : Nat) : Int) < ((m + 1 : Nat) : Int) := by omega
          have k1 : IntKind.u16.wrap (d.tdiv 1000) = d / 1000 := by rw [Int.tdiv_eq_ediv_of_nonneg hdk.1, IntKind.wrap_u16]; omega
          have k2 : IntKind.u16.wrap (48 + d / 1000) = 48 + d / 1000 := by rw [IntKind.wrap_u16]; omega
          have k3 : (48 + d / 1000) % 256 = 48 + d / 1000 := by omega
          have l1 : IntKind.u16.wrap (d.tdiv 100) = d / 100 := by rw [Int.tdiv_eq_ediv_of_nonneg hdk.1, IntKind.wrap_u16]; omega
          have l2 : (d / 100).tmod 10 = d / 100 % 10 := Int.tmod_eq_emod_of_nonneg (by omega)
          have l3 : IntKind.u16.wrap (48 + d / 100 % 10) = 48 + d / 100 % 10 := by rw [IntKind.wrap_u16]; omega
          have l4 : (48 + d / 100 % 10) % 256 = 48 + d / 100 % 10 := by omega
          have m1 : IntKind.u16.wrap (d.tdiv 10) = d / 10 := by rw [Int.tdiv_eq_ediv_of_nonneg hdk.1, IntKind.wrap_u16]; omega
          have m2 : (d / 10).tmod 10 = d / 10 % 10 := Int.tmod_eq_emod_of_nonneg (by omega)
          have m3 : IntKind.u16.wrap (48 + d / 10 % 10) = 48 + d / 10 % 10 := by rw [IntKind.wrap_u16]; omega
          have m4 : (48 + d / 10 % 10) % 256 = 48 + d / 10 % 10 := by omega
          have n1 : d.tmod 10 = d % 10 := Int.tmod_eq_emod_of_nonneg (by omega)
          have n3 : IntKind.u16.wrap (48 + d % 10) = 48 + d % 10 := by rw [IntKind.wrap_u16]; omega
          have n4 : (48 + d % 10) % 256 = 48 + d % 10 := by omega
          have r1 : (d % 10) % 65536 = d % 10 := by omega
          clear hr8 ho8 hb8 hhg hhl hk hdk
          go_wp2_with (at_builtin; refine Lib.wpList_append_run _ rfl _ _ 67 67 rfl v7 (.slice (some ⟨wr.heap.size, 0, none⟩) 4 4) rfl rfl v8 w8 HR.out.1 ?_)
          go_roundw
          case rel => exact ⟨k + 1, by go_num, hlt, by rw [show m - (k + 1) = m - 1 - k by omega]; exact HR.out.2.1, HR.out.2.2⟩
          case measure => simp [intOf]; omega
        · have hz : k = m := by omega
          subst hz
          have q1 : decide ((k : Int) < (k : Int)) = false := by simp
          rw [Nat.sub_self, HE.out.2.2.2.1] at hS
          obtain ⟨p7, c7, rfl, a7, hp7⟩ := hS.out.1.arg
          have hne : ∃ g, p7 = some ⟨g, 0, none⟩ := by
            rcases hp7 with h | ⟨g, h, -⟩
            · exfalso
              have := (a7.nil h).1
              have h2 : (byI (txt nx)).length = 0 := by rw [this]; rfl
              rw [byI_len] at h2
              have h3 := congrArg List.length HE.out.2.2.2.1
              rw [h2] at h3
              unfold half at h3
              rw [List.length_append, Lib.decDigits_length] at h3
              have := Lib.nDigits_pos (val 10000 (E.drop 0)).toNat
              omega
            · exact ⟨g, h⟩
          obtain ⟨g, rfl⟩ := hne
          have hcv := run_convert_bytes_arg (P := Tryd.prog) wr 67 5 Tryd.underlying67 Tryd.underlying5 g 0 (byI (txt nx)).length c7 (byI (txt nx)) rfl (fun i hi => by rw [Nat.zero_add]; have := a7.some_at i hi; rwa [Nat.zero_add] at this) 9 Tryd.underlying9
          rw [nums_byI] at hcv
          have HB := Lib.hid (HE.out.2.2.2.2.2.1.trans (hS.out.2.mono HE.out.2.2.2.2.2.1.size))
          clear hS a7 hp7 hk
          go_wp2_with fail
          go_ret
          exact ⟨rfl, HB.out⟩
    · obtain ⟨v5, w5, hr5, ho5, hb5⟩ := app_two kt8 (x := 45) (Own.nil 5 .u8 w4.heap.size w4) (by simp) (Nat.le_refl _)
      have cm5 := (hb5.cell (p := ⟨b, off + m, none⟩) (World.block_lt_of_cell? w4 _ cm)).trans cm
      have HR5 := Lib.hid hr5
      clear hr5 cm
      go_wp2_with (at_builtin; refine Lib.wpList_append_run _ rfl _ _ 67 67 rfl (.slice none 0 0) (.slice (some ⟨w4.heap.size, 0, none⟩) 1 1) rfl rfl v5 w5 HR5.out ?_)
      refine (appendUint_at (t := [45]) (by exact ho5) hb5.size (by decide) dn (by omega) (HE.out.2.2.2.2.1.below (hb5.mono (Nat.le_refl _)))).mono ?_
      rintro e w6 ⟨v6, rfl, ho6, hb6⟩
      have ho6' : Own 5 .u8 w4.heap.size w6 v6 (byI (half true E m)) := by
        unfold half
        rw [dec_top HE.out.2.1 HM.out.symm, ← HDE.out, Int.toNat_natCast]
        exact ho6
      have HT := Lib.hid (And.intro ho6' (hb5.trans hb6))
      clear ho6 ho6' hb6 cm5 ho5 hb5
      go_wp2_with fail
      go_loopw [5, 7, 8, 34] (fun v s7 s8 t wr => ∃ k : Nat, t = .int .i64 k ∧ k ≤ m ∧ Hid (Own 5 .u8 w4.heap.size wr v (byI (half true E (m - k))) ∧ Below w4.heap.size w4 wr)) (fun _ _ _ t _ => m - (intOf t).toNat)
      case atStart => exact ⟨0, rfl, Nat.zero_le _, HT.out.1, HT.out.2⟩
      case round =>
        obtain ⟨k, rfl, hk, hS⟩ := hrel
        obtain ⟨v7, hv7⟩ : ∃ v7, v7 = u5 := ⟨_, rfl⟩
        rw [← hv7] at hS ⊢
        clear hv7
        by_cases hlt : k < m
        · have ck := (HE.out.1.below hS.out.2).some_at (m - 1 - k) (by rw [HM.out]; omega)
          have hdk := HE.out.2.1.getD (by decide) (m - 1 - k)
          have hhg := half_group (s := true) HE.out.2.1 HE.out.2.2.1 (i := m - 1 - k) (by rw [HM.out]; omega)
          rw [show m - 1 - k + 1 = m - k by omega] at hhg
          have hhl := half_len (s := true) HE.out.2.1 (m - k) HE.out.2.2.2.2.2.2.1
          obtain ⟨d, hd⟩ : ∃ d, d = E.getD (m - 1 - k) 0 := ⟨_, rfl⟩
          rw [← hd] at ck hdk hhg
          clear hd
          obtain ⟨v8, w8, hr8, ho8, hb8⟩ := app_four (a := 48 + d / 1000) (b := 48 + d / 100 % 10) (c := 48 + d / 10 % 10) (d := 48 + d % 10) hS.out.1 (by rw [byI_len]; have := HE.out.2.2.2.2.2.2.2; omega) hS.out.2.size
          rw [hhg] at ho8
          have HR := Lib.hid (And.intro hr8 (And.intro ho8 (hS.out.2.trans hb8)))
          have q1 : decide ((k : Int) < (m : Int)) = true := by rw [decide_eq_true_eq]; omega
          have g1 : wrap64 ((m : Int) - 1) = ((m - 1 : Nat) : Int) := by unfold wrap64; omega
          have g2 : wrap64 (((m - 1 : Nat) : Int) - k) = ((m - 1 - k : Nat) : Int) := by unfold wrap64; omega
          have g3 : ((m - 1 - k : Nat) : Int) < ((m + 1 : Nat) : Int) := by omega
          have k1 : IntKind.u16.wrap (d.tdiv 1000) = d / 1000 := by rw [Int.tdiv_eq_ediv_of_nonneg hdk.1, IntKind.wrap_u16]; omega
          have k2 : IntKind.u16.wrap (48 + d / 1000) = 48 + d / 1000 := by rw [IntKind.wrap_u16]; omega
          have k3 : (48 + d / 1000) % 256 = 48 + d / 1000 := by omega
          have l1 : IntKind.u16.wrap (d.tdiv 100) = d / 100 := by rw [Int.tdiv_eq_ediv_of_nonneg hdk.1, IntKind.wrap_u16]; omega
          have l2 : (d / 100).tmod 10 = d / 100 % 10 := Int.tmod_eq_emod_of_nonneg (by omega)
          have l3 : IntKind.u16.wrap (48 + d / 100 % 10) = 48 + d / 100 % 10 := by rw [IntKind.wrap_u16]; omega
          have l4 : (48 + d / 100 % 10) % 256 = 48 + d / 100 % 10 := by omega
          have m1 : IntKind.u16.wrap (d.tdiv 10) = d / 10 := by rw [Int.tdiv_eq_ediv_of_nonneg hdk.1, IntKind.wrap_u16]; omega
          have m2 : (d / 10).tmod 10 = d / 10 % 10 := Int.tmod_eq_emod_of_nonneg (by omega)
          have m3 : IntKind.u16.wrap (48 + d / 10 % 10) = 48 + d / 10 % 10 := by rw [IntKind.wrap_u16]; omega
          have m4 : (48 + d / 10 % 10) % 256 = 48 + d / 10 % 10 := by omega
          have n1 : d.tmod 10 = d % 10 := Int.tmod_eq_emod_of_nonneg (by omega)
          have n3 : IntKind.u16.wrap (48 + d % 10) = 48 + d % 10 := by rw [IntKind.wrap_u16]; omega
          have n4 : (48 + d % 10) % 256 = 48 + d % 10 := by omega
          have r1 : (d % 10) % 65536 = d % 10 := by omega
          clear hr8 ho8 hb8 hhg hhl hk hdk
          go_wp2_with (at_builtin; refine Lib.wpList_append_run _ rfl _ _ 67 67 rfl v7 (.slice (some ⟨wr.heap.size, 0, none⟩) 4 4) rfl rfl v8 w8 HR.out.1 ?_)
          go_roundw
          case rel => exact ⟨k + 1, by go_num, hlt, by rw [show m - (k + 1) = m - 1 - k by omega]; exact HR.out.2.1, HR.out.2.2⟩
          case measure => simp [intOf]; omega
        · have hz : k = m := by omega
          subst hz
          have q1 : decide ((k : Int) < (k : Int)) = false := by simp
          rw [Nat.sub_self, HE.out.2.2.2.1] at hS
          obtain ⟨p7, c7, rfl, a7, hp7⟩ := hS.out.1.arg
          have hne : ∃ g, p7 = some ⟨g, 0, none⟩ := by
            rcases hp7 with h | ⟨g, h, -⟩
            · exfalso
              have := (a7.nil h).1
              have h2 : (byI (txt nx)).length = 0 := by rw [this]; rfl
              rw [byI_len] at h2
              have h3 := congrArg List.length HE.out.2.2.2.1
              rw [h2] at h3
              unfold half at h3
              rw [List.length_append, Lib.decDigits_length] at h3
              have := Lib.nDigits_pos (val 10000 (E.drop 0)).toNat
              omega
            · exact ⟨g, h⟩
          obtain ⟨g, rfl⟩ := hne
          have hcv := run_convert_bytes_arg (P := Tryd.prog) wr 67 5 Tryd.underlying67 Tryd.underlying5 g 0 (byI (txt nx)).length c7 (byI (txt nx)) rfl (fun i hi => by rw [Nat.zero_add]; have := a7.some_at i hi; rwa [Nat.zero_add] at this) 9 Tryd.underlying9
          rw [nums_byI] at hcv
          have HB := Lib.hid (HE.out.2.2.2.2.2.1.trans (hS.out.2.mono HE.out.2.2.2.2.2.1.size))
          clear hS a7 hp7 hk
          go_wp2_with fail
          go_ret
          exact ⟨rfl, HB.out⟩
end Go.Proofs.YtihgefllmkicaaaDoor
