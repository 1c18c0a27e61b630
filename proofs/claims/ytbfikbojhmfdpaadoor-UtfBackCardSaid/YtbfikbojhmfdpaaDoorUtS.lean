/- What is put is got, walked. Conditions: the tables of Go's library lie. -/
import Derived.Test.YtbfikbojhmfdpaaDoorUtN
import Derived.Lib.AppendStr
namespace Go.Proofs.YtbfikbojhmfdpaaDoor
open Go.RowKit Bg
set_option linter.unusedVariables false
set_option linter.unusedSimpArgs false


theorem app_str {w : World} {B : Nat} {v : Value} {l m : List Int} (hm : Byts m) (h : Own 5 .u8 B w v l) (hl : l.length + m.length ≤ 1000000) (hB : B ≤ w.heap.size) :
    ∃ v' w', (Builtin.append_ #[22, 9] 22 #[v, .string (strOfNums m)]).run Tryd.prog w = .ok v' w' ∧ Own 5 .u8 B w' v' (l ++ m) ∧ Below B w w' := by
  obtain ⟨i0, hi, hz0, hz1, hz2⟩ := kt8.info
  obtain ⟨v', w', hr, h1, h2, -⟩ := Lib.run_append_own_string (P := Tryd.prog) w B 22 9 22 5 i0 Tryd.underlying22 Tryd.underlying9 hi hz0 hz1 hz2 v l.length _ h (strOfNums m) (by rw [str_size]; unfold maxLen; omega) (by rw [str_size]; omega) hB
  refine ⟨v', w', hr, ?_, (Below.refl _ _).grown h2 hB (fun q hq => (World.ownsRow.lt h q hq).1)⟩
  unfold Own
  rw [List.length_append, List.map_append]
  have e : Lib.strCells (strOfNums m) = m.map (Value.int .u8) := by
    have := byL_str hm
    conv => rhs; rw [← this]
    unfold byL Lib.strCells
    rw [List.map_map]
    rfl
  rw [e, str_size] at h1
  exact h1
theorem own_empty (w : World) : Own 5 .u8 w.heap.size (w.alloc (.cells #[] 5)) (.slice (some ⟨w.heap.size, 0, none⟩) 0 0) [] :=
  ⟨rfl, Or.inr ⟨w.heap.size, 0, #[], rfl, Nat.le_refl _, heap_new w _, Nat.le_refl _, Nat.zero_le _, rfl, rfl⟩⟩
theorem ext_to (l : List Int) (n : Nat) : (strOfNums l).extract 0 n = strOfNums (l.take n) := by
  apply ByteArray.ext
  apply Array.toList_inj.1
  rw [ByteArray.data_extract, Array.toList_extract, strOfNums_data, strOfNums_data, List.map_take]
  unfold List.extract
  simp
set_option maxRecDepth 100000 in
set_option maxHeartbeats 20000000 in
theorem back_any {w : World} {p q : Option Addr} {cp cq : Nat} {l r : List Int} (c : Int) (a : Arg .u8 w p cp l) (hb : Byts l) (a' : Arg .u8 w q cq r) (hb' : Byts r) (ht : Tab w) :
    Calls Tryd.prog 5 #[.int .i64 c, .slice p l.length cp, .slice q r.length cq] w fun e w' => e = .returned (.bool true) ∧ Below w.heap.size w w' := by
  have T1 := Lib.hid (cut_at a)
  have T2 := Lib.hid (cut_at a')
  obtain ⟨A, hA⟩ : ∃ m, m = l.take 2000 := ⟨_, rfl⟩
  obtain ⟨B, hB⟩ : ∃ m, m = r.take 2000 := ⟨_, rfl⟩
  have hAl : A.length ≤ 2000 := by rw [hA, List.length_take]; omega
  have hBl : B.length ≤ 2000 := by rw [hB, List.length_take]; omega
  have H0 := Lib.hid (And.intro (hA ▸ a.take 2000 : Arg .u8 w p cp A) (And.intro (hA ▸ hb.take 2000 : Byts A) (And.intro (hB ▸ a'.take 2000 : Arg .u8 w q cq B) (And.intro (hB ▸ hb'.take 2000 : Byts B) (And.intro ht (And.intro hAl hBl))))))
  rw [← hA] at T1
  rw [← hB] at T2
  clear hA hB a a' hb hb' ht
  cases hI : isC c with
  | false =>
    have P1 : Hid (∀ w, Calls Tryd.prog 10 #[.int .i64 c] w fun e w' => e = .returned (.tuple #[.string { data := #[] }, .int .i64 2]) ∧ w = w') := Lib.hid fun w => by
      have := put_at c w
      unfold pst pe at this
      rw [hI] at this
      exact this
    have P2 : Hid (∀ w, Calls Tryd.prog 14 #[.int .i64 c] w fun e w' => e = .returned (.bool false) ∧ w = w') := Lib.hid fun w => by
      have := is_at c w
      rwa [hI] at this
    clear hI
    go_enter Tryd.func5, Tryd.ntmps5
    go_wp2_with fail
    refine T1.out.mono ?_
    rintro e w' ⟨rfl, rfl⟩
    go_wp2_with fail
    refine T2.out.mono ?_
    rintro e w' ⟨rfl, rfl⟩
    go_wp2_with fail
    refine (P1.out _).mono ?_
    rintro e w' ⟨rfl, rfl⟩
    go_wp2_with fail
    refine (P2.out _).mono ?_
    rintro e w' ⟨rfl, rfl⟩
    go_wp2_with (go_at_call 16; refine (works_at H0.out.2.2.2.2.1).mono ?_; rintro e w2 ⟨rfl, bb⟩; replace bb := Lib.hid bb)
    all_goals go_ret
    all_goals exact ⟨rfl, bb.out⟩
  | true =>
    have P1 : Hid (∀ w, Calls Tryd.prog 10 #[.int .i64 c] w fun e w' => e = .returned (.tuple #[.string (strOfNums (enc c)), .int .i64 0]) ∧ w = w') := Lib.hid fun w => by
      have := put_at c w
      unfold pst pe at this
      rw [hI] at this
      exact this
    have P2 : Hid (∀ w, Calls Tryd.prog 14 #[.int .i64 c] w fun e w' => e = .returned (.bool true) ∧ w = w') := Lib.hid fun w => by
      have := is_at c w
      rwa [hI] at this
    have hel := enc_len c
    have hbn : Below w.heap.size w (w.alloc (.cells #[] 5)) := (Below.refl _ _).alloc (Nat.le_refl _) _
    obtain ⟨v1, w1, hr1, ho1, -, hb1⟩ := app_row kt8 (own_empty w) (H0.out.1.below hbn) (by rw [List.length_nil]; omega) hbn.size
    have hB1 := hbn.trans hb1
    obtain ⟨v2, w2, hr2, ho2, hb2⟩ := app_str (Byts.enc c) ho1 (by rw [List.nil_append]; omega) hB1.size
    have hB2 := hB1.trans hb2
    obtain ⟨v3, w3, hr3, ho3, -, hb3⟩ := app_row kt8 ho2 (H0.out.2.2.1.below hB2) (by rw [List.nil_append, List.length_append]; omega) hB2.size
    have hB3 := hB2.trans hb3
    rw [List.nil_append] at ho3
    obtain ⟨q3, c3, rfl, a3, -⟩ := ho3.arg
    have hby : Byts (A ++ enc c ++ B) := (H0.out.2.1.app (Byts.enc c)).app H0.out.2.2.2.1
    have hNl : (A ++ enc c ++ B).length ≤ 10000 := by rw [List.length_append, List.length_append]; omega
    have hch : chr ((A ++ enc c ++ B).drop A.length) = some (c, (enc c).length) := by
      rw [List.append_assoc, List.drop_left' rfl]
      exact chr_enc hI B
    obtain ⟨g1, g2, g3⟩ := g_some (l := A ++ enc c ++ B) (k := A.length) (by rw [List.length_append, List.length_append]; omega) hch
    have TG := get_at a3 hby (by omega) (H0.out.2.2.2.2.1.below hB3) (A.length : Int)
    rw [g1, g2, g3] at TG
    have hE0 : gE ((enc c).take ((enc c).length - 1)) 0 ≠ 0 := by
      by_cases h1 : (enc c).length = 1
      · rw [h1, Nat.sub_self, List.take_zero]; decide
      · have hk : 0 < ((enc c).take ((enc c).length - 1)).length := by rw [List.length_take]; omega
        obtain ⟨-, -, e⟩ := g_none (k := 0) hk (by rw [List.drop_zero]; exact chr_cut hI (by omega))
        intro h
        have e' : gE ((enc c).take ((enc c).length - 1)) 0 = 4 := e
        rw [e'] at h
        cases h
    have hsz : (strOfNums (enc c)).size = (enc c).length := str_size _
    have hex := ext_to (enc c) ((enc c).length - 1)
    have hbt := (Byts.enc c).take ((enc c).length - 1)
    have hlt : ((enc c).take ((enc c).length - 1)).length ≤ 4 := by rw [List.length_take]; omega
    obtain ⟨N, hN⟩ : ∃ N, N = (A ++ enc c ++ B).length := ⟨_, rfl⟩
    obtain ⟨K, hK⟩ : ∃ K, K = (enc c).length := ⟨_, rfl⟩
    obtain ⟨D, hD⟩ : ∃ D, D = (enc c).take ((enc c).length - 1) := ⟨_, rfl⟩
    rw [← hD] at hE0 hex hbt hlt
    rw [← hN] at TG hr3 hNl
    rw [← hK] at TG hsz hex hel
    obtain ⟨s, hs⟩ : ∃ s, s = strOfNums (enc c) := ⟨_, rfl⟩
    rw [← hs] at P1 hr2 hsz hex
    obtain ⟨E0, hE⟩ : ∃ e, e = gE D 0 := ⟨_, rfl⟩
    rw [← hE] at hE0
    have HR := Lib.hid (And.intro hr1 (And.intro hr2 (And.intro hr3 (And.intro hB3 (And.intro hbt (And.intro hlt hE))))))
    have HT := Lib.hid TG
    have e1 : (E0 != 0) = true := by simp [hE0]
    have hd1 : decide ((s.size : Int) < 1) = false := by rw [decide_eq_false_iff_not]; omega
    have hd2 : ¬ (s.size : Int) < 1 := by omega
    have hd3 : ((K : Int) != (s.size : Int)) = false := by simp [hsz]
    have hd4 : IntKind.i64.wrap ((s.size : Int) - 1) = (s.size : Int) - 1 := by rw [wrap_small _ (by omega) (by omega)]
    have hd5 : ((s.size : Int) - 1).toNat = K - 1 := by omega
    have hd6 : 0 ≤ (s.size : Int) - 1 := by omega
    have hd7 : (s.size : Int) - 1 ≤ (s.size : Int) := by omega
    subst hsz
    clear hr1 hr2 hr3 hB3 hb1 hb2 hb3 ho1 ho2 ho3 a3 hby hch g1 g2 g3 TG hbt hN hK hD hs hE hB1 hB2 hbn hI
    go_enter Tryd.func5, Tryd.ntmps5
    go_wp2_with fail
    refine T1.out.mono ?_
    rintro e w' ⟨rfl, rfl⟩
    go_wp2_with fail
    refine T2.out.mono ?_
    rintro e w' ⟨rfl, rfl⟩
    go_wp2_with fail
    refine (P1.out _).mono ?_
    rintro e w' ⟨rfl, rfl⟩
    go_wp2_with (first
      | (at_builtin; refine Lib.wpList_append_run _ rfl _ _ 22 22 rfl (.slice (some ⟨w.heap.size, 0, none⟩) 0 0) (.slice p A.length cp) rfl rfl v1 w1 HR.out.1 ?_)
      | (at_builtin; refine Lib.wpList_append_run _ rfl _ _ 22 9 rfl v1 (.string s) rfl rfl v2 w2 HR.out.2.1 ?_)
      | (at_builtin; refine Lib.wpList_append_run _ rfl _ _ 22 22 rfl v2 (.slice q B.length cq) rfl rfl (.slice q3 N c3) w3 HR.out.2.2.1 ?_))
    refine HT.out.mono ?_
    rintro e w4 ⟨rfl, b4⟩
    have hB4 := HR.out.2.2.2.1.trans (b4.mono HR.out.2.2.2.1.size)
    obtain ⟨cD, w5, hcv, aD, bD⟩ := conv_str HR.out.2.2.2.2.1 (by omega) w4
    have hB5 := hB4.trans (bD.mono hB4.size)
    have TD := get_at aD HR.out.2.2.2.2.1 (by omega) (H0.out.2.2.2.2.1.below hB5) 0
    rw [← HR.out.2.2.2.2.2.2] at TD
    have HD := Lib.hid (And.intro TD hB5)
    clear TD hB4 hB5 aD bD b4
    obtain ⟨M, hM⟩ : ∃ M, M = D.length := ⟨_, rfl⟩
    rw [← hM] at hcv HD
    clear hM
    go_wp2_with fail
    refine HD.out.1.mono ?_
    rintro e w6 ⟨rfl, b6⟩
    replace b6 := Lib.hid (HD.out.2.trans (b6.mono HD.out.2.size))
    go_wp2_with fail
    refine (P2.out _).mono ?_
    rintro e w' ⟨rfl, rfl⟩
    go_wp2_with (go_at_call 16; refine (works_at (H0.out.2.2.2.2.1.below b6.out)).mono ?_; rintro e w7 ⟨rfl, bb⟩; replace bb := Lib.hid (b6.out.trans (bb.mono b6.out.size)))
    all_goals go_ret
    all_goals exact ⟨rfl, bb.out⟩
end Go.Proofs.YtbfikbojhmfdpaaDoor
