/- Contracts: LexPlaces. Conditions: none. -/
import Derived.Test.YtgnnkfdpfmlajaaDoorLxBr
namespace Go.Proofs.YtgnnkfdpfmlajaaDoor
open Go.RowKit Bg Lx
set_option linter.unusedVariables false
set_option linter.unusedSimpArgs false

theorem lex_count : ∀ (n : Nat) (p : Int) (r : List Int), Byts r → r.length ≤ n → (lex p r).1.length ≤ r.length
  | 0, p, r, hb, h => by
    have : r = [] := List.length_eq_zero_iff.1 (by omega)
    rw [this, lex_nil]; exact Nat.le_refl _
  | n + 1, p, r, hb, h => by
    by_cases h0 : r = []
    · rw [h0, lex_nil]; exact Nat.le_refl _
    have hp := List.length_pos_iff.2 h0
    rw [lex, dif_neg h0]
    cases e : one r p with
    | err x y => exact Nat.zero_le _
    | skip m =>
      have h1 := one_skip_pos hb h0 e
      simp only []
      have := lex_count n (p + m) (r.drop (m - 1 + 1)) (hb.drop _) (by rw [List.length_drop]; omega)
      rw [List.length_drop] at this
      omega
    | tok t m lo =>
      have h1 := one_tok_pos hb h0 e
      simp only []
      split
      · exact Nat.zero_le _
      · have := lex_count n (p + m) (r.drop (m - 1 + 1)) (hb.drop _) (by rw [List.length_drop]; omega)
        rw [List.length_drop] at this
        generalize lex (p + m) (r.drop (m - 1 + 1)) = z at this ⊢
        obtain ⟨us, a, q⟩ := z
        simp only [] at this ⊢
        split
        · simp only [List.length_cons]; omega
        · exact Nat.zero_le _
theorem TR.one_at {B : Nat} {w : World} {v : Value} {ts : List Tk} (h : TR B w v ts) {i : Nat} (hi : i < ts.length) : ∃ g c, v = .slice (some ⟨g, 0, none⟩) ts.length c ∧ w.cell? ⟨g, i * 7, none⟩ = some (.int .i64 (ts[i]).kind) ∧ w.cell? ⟨g, i * 7 + 1, none⟩ = some (.int .i64 (ts[i]).pos) ∧ w.cell? ⟨g, i * 7 + 2, none⟩ = some (.int .i64 (ts[i]).dk) ∧ w.cell? ⟨g, i * 7 + 3, none⟩ = some (.int .i64 (ts[i]).n) ∧ w.cell? ⟨g, i * 7 + 4, none⟩ = some (.string (strOfNums (ts[i]).text)) ∧ w.cell? ⟨g, i * 7 + 5, none⟩ = some (.slice none 0 0) ∧ w.cell? ⟨g, i * 7 + 6, none⟩ = some (.int .i64 (dpos ts[i])) := by
  obtain ⟨g, c, rfl, -, -⟩ := h.some_at (by omega)
  exact ⟨g, c, rfl, row_cells h i (i * 7) hi rfl⟩
set_option maxRecDepth 100000 in
set_option maxHeartbeats 16000000 in
theorem places_any {w : World} {p : Option Addr} {c : Nat} {l : List Int} (a : Arg .u8 w p c l) (hb : Byts l) (ht : Tab w) :
    Calls Tryd.prog 5 #[.slice p l.length c] w fun e w' => e = .returned (.bool true) ∧ Below w.heap.size w w' := by
  by_cases hbig : 20000 < l.length
  · have d1 : decide ((20000 : Int) < (l.length : Int)) = true := by rw [decide_eq_true_eq]; omega
    have d2 : (20000 : Int) < (l.length : Int) := by omega
    have T := Lib.hid (awake_at ht)
    clear a hb ht hbig
    go_enter Tryd.func5, Tryd.ntmps5
    go_wp2_with (go_at_call 8; refine T.out.mono ?_; rintro e w' ⟨rfl, hb⟩; replace hb := Lib.hid hb)
    go_ret
    exact ⟨rfl, hb.out⟩
  have T := plex_at a hb (by omega) ht
  have hP := lex_places 0 l hb
  have hnorm := lex_norm 0 l
  have hcnt := lex_count _ 0 l hb (Nat.le_refl _)
  unfold LexIs at T
  obtain ⟨ts, hts⟩ : ∃ ts, ts = (lex 0 l).1 := ⟨_, rfl⟩
  obtain ⟨x, hx⟩ : ∃ x, x = (lex 0 l).2.1 := ⟨_, rfl⟩
  obtain ⟨y, hy⟩ : ∃ y, y = (lex 0 l).2.2 := ⟨_, rfl⟩
  rw [← hts, ← hx, ← hy] at T hP hnorm
  rw [← hts] at hcnt
  obtain ⟨L, hL⟩ : ∃ L, L = l.length := ⟨_, rfl⟩
  rw [← hL] at T hP hbig hcnt ⊢
  have d1 : decide ((20000 : Int) < (L : Int)) = false := by rw [decide_eq_false_iff_not]; omega
  have d2 : ¬ (20000 : Int) < (L : Int) := by omega
  have HT := Lib.hid ht
  replace T := Lib.hid T
  clear a hb ht hts hy hL
  by_cases h0 : x = 0
  · have hy0 := hnorm.1 h0
    subst h0
    subst hy0
    have HP := Lib.hid (hP.1 rfl)
    clear hnorm hx hP
    go_enter Tryd.func5, Tryd.ntmps5
    go_wp2_with fail
    refine T.out.mono ?_
    rintro e w2 ⟨⟨v, rfl, hr⟩, hb2⟩
    obtain ⟨q, c2, rfl, -⟩ := hr.shape
    obtain ⟨w3, hw3⟩ : ∃ w3, w3 = w2.alloc (.cells #[.int .i64 0, .int .i64 0] 27) := ⟨_, rfl⟩
    have b3 : Below w2.heap.size w2 w3 := by rw [hw3]; exact (Below.refl _ _).alloc (Nat.le_refl _) _
    have HR := Lib.hid (And.intro (hr.below b3) (hb2.trans (b3.mono hb2.size)))
    clear hr hb2 b3
    go_upto_region 6 with fail
    rw [← hw3]
    clear hw3
    go_wp2_with fail
    go_loopw [5, 6] (fun u v wr => ∃ (i : Nat) (la : Int), u = .int .i64 la ∧ v = .int .i64 i ∧ i ≤ ts.length ∧ Hid ((∀ (h : i < ts.length), la < (ts[i]).pos) ∧ Below w3.heap.size w3 wr)) (fun _ v _ => ts.length - (intOf v).toNat)
    case atStart => exact ⟨0, -1, rfl, rfl, Nat.zero_le _, Lib.hid ⟨fun h => by have := HP.out.1 (ts[0]) (List.getElem_mem h); omega, Below.refl _ _⟩⟩
    case round =>
      obtain ⟨i, la, rfl, rfl, hi, HK⟩ := hrel
      by_cases hlt : i < ts.length
      · have f1 : (i : Int) < (ts.length : Int) := by omega
        have e1 : decide ((i : Int) < (ts.length : Int)) = true := by rw [decide_eq_true_eq]; exact f1
        obtain ⟨g, c3, hv, k0, k1, k2, k3, k4, k5, k6⟩ := (HR.out.1.below HK.out.2).one_at hlt
        have hp0 := HP.out.1 (ts[i]) (List.getElem_mem hlt)
        have hp1 := HK.out.1 hlt
        cases hv
        obtain ⟨P, hPe⟩ : ∃ P, P = (ts[i]).pos := ⟨_, rfl⟩
        have hdp : dpos ts[i] = if (ts[i]).kind = 7 then P else 0 := by rw [hPe]; rfl
        obtain ⟨K, hK⟩ : ∃ K, K = (ts[i]).kind := ⟨_, rfl⟩
        rw [hdp] at k6
        rw [← hPe] at k1 hp0 hp1
        rw [← hK] at k0 k6
        have e2 : decide (P ≤ la) = false := by rw [decide_eq_false_iff_not]; omega
        have e3 : decide ((L : Int) ≤ P) = false := by rw [decide_eq_false_iff_not]; omega
        have e4 : ¬ P ≤ la := by omega
        have e5 : ¬ (L : Int) ≤ P := by omega
        have hws : IntKind.i64.wrap ((i : Int) + 1) = (i : Int) + 1 := by rw [wrap_small _ (by omega) (by omega)]
        have HPe := Lib.hid hPe
        clear hdp k2 k3 k4 k5 hp0 hp1 hPe hK
        by_cases h7 : K = 7
        · subst h7
          rw [if_pos rfl] at k6
          go_upto_region 10 with fail
          go_quiet (fail)
          obtain ⟨W1, hW1⟩ : ∃ W, W = wr.drewN nq := ⟨_, rfl⟩
          have D1 : Below w3.heap.size w3 W1 := by rw [hW1]; exact below_drewN HK.out.2 nq
          have k1' : W1.cell? ⟨g, i * 7 + 1, none⟩ = some (.int .i64 P) := by rw [hW1]; exact k1
          rw [← hW1]
          have HD1 := Lib.hid D1
          clear hW1 D1 k0 k1 k6
          go_wp2_with fail
          go_roundw
          case rel =>
            refine ⟨i + 1, P, rfl, rfl, by omega, Lib.hid ⟨fun h => ?_, HD1.out⟩⟩
            rw [HPe.out]
            exact List.pairwise_iff_getElem.1 HP.out.2 i (i + 1) hlt h (Nat.lt_succ_self _)
          case measure => (simp only [intOf]; omega)
        · rw [if_neg h7] at k6
          have e7 : (K == 7) = false := by rw [beq_eq_false_iff_ne]; exact h7
          go_upto_region 10 with fail
          go_quiet (fail)
          obtain ⟨W1, hW1⟩ : ∃ W, W = wr.drewN nq := ⟨_, rfl⟩
          have D1 : Below w3.heap.size w3 W1 := by rw [hW1]; exact below_drewN HK.out.2 nq
          have k1' : W1.cell? ⟨g, i * 7 + 1, none⟩ = some (.int .i64 P) := by rw [hW1]; exact k1
          rw [← hW1]
          have HD1 := Lib.hid D1
          clear hW1 D1 k0 k1 k6
          go_wp2_with fail
          go_roundw
          case rel =>
            refine ⟨i + 1, P, rfl, rfl, by omega, Lib.hid ⟨fun h => ?_, HD1.out⟩⟩
            rw [HPe.out]
            exact List.pairwise_iff_getElem.1 HP.out.2 i (i + 1) hlt h (Nat.lt_succ_self _)
          case measure => (simp only [intOf]; omega)
      · have f1 : ¬ (i : Int) < (ts.length : Int) := by omega
        have e1 : decide ((i : Int) < (ts.length : Int)) = false := by rw [decide_eq_false_iff_not]; exact f1
        have B := HR.out.2.trans (HK.out.2.mono HR.out.2.size)
        have T9 := Lib.hid (awake_at (HT.out.below B))
        have HB := Lib.hid B
        clear B
        go_wp2_with fail
        refine T9.out.mono ?_
        rintro e w9 ⟨rfl, hb9⟩
        have H9 := Lib.hid (HB.out.trans (hb9.mono HB.out.size))
        clear hb9
        go_wp2_with fail
        go_ret
        exact ⟨rfl, H9.out⟩
  · have hts0 := hnorm.2 h0
    have g1 : (x == 0) = false := by rw [beq_eq_false_iff_ne]; exact h0
    have hx2 := (hP.2 h0).2
    have e2 : 0 ≤ y := by omega
    have e3 : y < (L : Int) := by omega
    have e4 : decide (0 ≤ y) = true := by rw [decide_eq_true_eq]; exact e2
    have e5 : decide (y < (L : Int)) = true := by rw [decide_eq_true_eq]; exact e3
    have hx4 := hx2.1
    subst hts0
    clear hnorm hx hP hx2
    go_enter Tryd.func5, Tryd.ntmps5
    go_wp2_with fail
    refine T.out.mono ?_
    rintro e w2 ⟨⟨v, rfl, hr⟩, hb2⟩
    obtain ⟨q, c2, rfl, -⟩ := hr.shape
    have hx0 := hb2.size
    have B3 : Below w.heap.size w (w2.alloc (.cells #[.int .i64 x, .int .i64 y] 27)) := hb2.alloc hb2.size _
    have T9 := Lib.hid (fun W (h : Below w.heap.size w W) => awake_at (HT.out.below h))
    have HB := Lib.hid B3
    clear hr hb2 B3
    rcases hx4 with rfl | rfl
    · go_wp2_with fail
      refine (T9.out _ HB.out).mono ?_
      rintro e w9 ⟨rfl, hb9⟩
      have H9 := Lib.hid (HB.out.trans (hb9.mono HB.out.size))
      clear hb9
      go_wp2_with fail
      go_ret
      exact ⟨retB (by simp), H9.out⟩
    · go_wp2_with fail
      refine (T9.out _ HB.out).mono ?_
      rintro e w9 ⟨rfl, hb9⟩
      have H9 := Lib.hid (HB.out.trans (hb9.mono HB.out.size))
      clear hb9
      go_wp2_with fail
      go_ret
      exact ⟨retB (by simp), H9.out⟩
end Go.Proofs.YtgnnkfdpfmlajaaDoor
