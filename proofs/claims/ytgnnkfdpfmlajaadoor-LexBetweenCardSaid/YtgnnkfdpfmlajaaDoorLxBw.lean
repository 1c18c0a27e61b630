/- Contracts: LexBetween. Conditions: none. -/
import Derived.Test.YtgnnkfdpfmlajaaDoorLxBx
import Derived.Test.YtgnnkfdpfmlajaaDoorLxZa
import Derived.Lib.AppendStr
import Derived.Lib.AppendZeros
import Derived.Deep.CutBlock
namespace Go.Proofs.YtgnnkfdpfmlajaaDoor
open Go.RowKit Bg Lx
set_option linter.unusedVariables false
set_option linter.unusedSimpArgs false

theorem app_str {w : World} {B : Nat} {v : Value} {l m : List Int} (h : Own 5 .u8 B w v l) (hb : Byts m) (hm : l.length + m.length ≤ 1000000000) (hB : B ≤ w.heap.size) :
    ∃ v' w', (Builtin.append_ #[22, 9] 22 #[v, .string (strOfNums m)]).run Tryd.prog w = .ok v' w' ∧ Own 5 .u8 B w' v' (l ++ m) ∧ Below B w w' := by
  obtain ⟨i0, hi, hz0, hz1, hz2⟩ := kt8.info
  obtain ⟨v', w', hr, h1, h2, -⟩ := Lib.run_append_own_string (P := Tryd.prog) w B 22 9 22 5 i0 Tryd.underlying22 Tryd.underlying9 hi hz0 hz1 hz2 v l.length (l.map (Value.int .u8)) h (strOfNums m) (by rw [str_size]; unfold maxLen; omega) (by rw [str_size]; omega) hB
  refine ⟨v', w', hr, ?_, (Below.refl _ _).grown h2 hB (fun q hq => (World.ownsRow.lt h q hq).1)⟩
  unfold Own
  have e : Lib.strCells (strOfNums m) = m.map (Value.int .u8) := by
    have := byL_str hb
    unfold byL at this
    unfold Lib.strCells
    conv => rhs; rw [← this]
    rw [List.map_map]
    rfl
  rw [str_size, e] at h1
  rw [List.length_append, List.map_append]
  exact h1
theorem keepB {w w' : World} (hb : Below w.heap.size w w') {a : Addr} {v : Value} (h : w.cell? a = some v) : w'.cell? a = some v := (hb.cell (show a.block < w.heap.size from World.block_lt_of_cell? w _ h)).trans h
/-- What stands between. -/
def sepOf (n : Int) : List Int := if n % 3 = 1 then [32, 59, 32, 40, 34, 10] else if n % 3 = 2 then [32, 35, 124, 59, 35, 124, 34, 124, 35, 124, 35, 32] else [32]
theorem sepOf_mem (n : Int) : sepOf n ∈ seps := by
  unfold sepOf seps
  split
  · simp
  · split <;> simp
theorem sepOf_byts (n : Int) : Byts (sepOf n) := by
  unfold sepOf
  split
  · exact lit_byts (by decide)
  · split
    · exact lit_byts (by decide)
    · exact lit_byts (by decide)
theorem sepOf_len (n : Int) : (sepOf n).length ≤ 12 := by
  unfold sepOf
  split
  · decide
  · split <;> decide
theorem sep_one {n : Int} (h : n % 3 = 1) : strOfNums (sepOf n) = ({ data := #[32, 59, 32, 40, 34, 10] } : ByteArray) := by unfold sepOf; rw [if_pos h]; rfl
theorem sep_two {n : Int} (h : n % 3 = 2) : strOfNums (sepOf n) = ({ data := #[32, 35, 124, 59, 35, 124, 34, 124, 35, 124, 35, 32] } : ByteArray) := by unfold sepOf; rw [if_neg (by omega), if_pos h]; rfl
theorem sep_none {n : Int} (h1 : ¬ n % 3 = 1) (h2 : ¬ n % 3 = 2) : strOfNums (sepOf n) = ({ data := #[32] } : ByteArray) := by unfold sepOf; rw [if_neg h1, if_neg h2]; rfl
set_option maxRecDepth 100000 in
set_option maxHeartbeats 32000000 in
theorem between_any {w : World} {p q : Option Addr} {c d : Nat} {a b : List Int} {n : Int} (ha : Arg .u8 w p c a) (hba : Byts a) (hb : Arg .u8 w q d b) (hbb : Byts b) (hn : 0 ≤ n ∧ n < 256) (ht : Tab w) :
    Calls Tryd.prog 6 #[.slice p a.length c, .slice q b.length d, .int .u8 n] w fun e w' => e = .returned (.bool true) ∧ Below w.heap.size w w' := by
  by_cases hbig : 5000 < a.length ∨ 5000 < b.length
  · have T := Lib.hid (awake_at ht)
    by_cases h1 : 5000 < a.length
    · have d1 : decide ((5000 : Int) < (a.length : Int)) = true := by rw [decide_eq_true_eq]; omega
      have d2 : (5000 : Int) < (a.length : Int) := by omega
      clear ha hb ht hbig
      go_enter Tryd.func6, Tryd.ntmps6
      go_wp2_with (go_at_call 8; refine T.out.mono ?_; rintro e w' ⟨rfl, hb⟩; replace hb := Lib.hid hb)
      go_ret
      exact ⟨rfl, hb.out⟩
    · have d1 : decide ((5000 : Int) < (a.length : Int)) = false := by rw [decide_eq_false_iff_not]; omega
      have d2 : ¬ (5000 : Int) < (a.length : Int) := by omega
      have d3 : decide ((5000 : Int) < (b.length : Int)) = true := by rw [decide_eq_true_eq]; omega
      have d4 : (5000 : Int) < (b.length : Int) := by omega
      clear ha hb ht hbig
      go_enter Tryd.func6, Tryd.ntmps6
      go_wp2_with (go_at_call 8; refine T.out.mono ?_; rintro e w' ⟨rfl, hb⟩; replace hb := Lib.hid hb)
      go_ret
      exact ⟨rfl, hb.out⟩
  have T1 := plex_at ha hba (by omega) ht
  have T2 := fun W (h : Below w.heap.size w W) => plex_at (hb.below h) hbb (by omega) (ht.below h)
  have TC := fun W (h : Below w.heap.size w W) => comment_of (ha.below h) hba (by omega)
  have na := fun h => ((lex_places 0 a hba).1 h).1
  have nb := fun h => ((lex_places 0 b hbb).1 h).1
  have ca := lex_count _ 0 a hba (Nat.le_refl _)
  have cb := lex_count _ 0 b hbb (Nat.le_refl _)
  have hbet := fun h1 h2 h3 => @lex_between a b (sepOf n) (sepOf_mem n) hba (nc_of h3) h1 h2
  unfold LexIs at T1 T2
  obtain ⟨xs, hxs⟩ : ∃ ts, ts = (lex 0 a).1 := ⟨_, rfl⟩
  obtain ⟨x1, hx1⟩ : ∃ x, x = (lex 0 a).2.1 := ⟨_, rfl⟩
  obtain ⟨x2, hx2⟩ : ∃ y, y = (lex 0 a).2.2 := ⟨_, rfl⟩
  obtain ⟨ys, hys⟩ : ∃ ts, ts = (lex 0 b).1 := ⟨_, rfl⟩
  obtain ⟨y1, hy1⟩ : ∃ x, x = (lex 0 b).2.1 := ⟨_, rfl⟩
  obtain ⟨y2, hy2⟩ : ∃ y, y = (lex 0 b).2.2 := ⟨_, rfl⟩
  rw [← hxs, ← hx1, ← hx2] at T1
  rw [← hys, ← hy1, ← hy2] at T2
  rw [← hxs] at ca
  rw [← hys] at cb
  rw [← hxs, ← hx1] at na
  rw [← hys, ← hy1] at nb
  rw [← hx1, ← hy1, ← hxs, ← hys] at hbet
  obtain ⟨oa, hoa⟩ : ∃ o, o = openLine a := ⟨_, rfl⟩
  rw [← hoa] at TC hbet
  obtain ⟨A, hA⟩ : ∃ A, A = a.length := ⟨_, rfl⟩
  obtain ⟨B, hB⟩ : ∃ B, B = b.length := ⟨_, rfl⟩
  have ho0 := fun W => own_lit W [] (by decide)
  simp only [List.map_nil, List.length_nil] at ho0
  have HALL := Lib.hid (And.intro ht (And.intro ha (And.intro hba (And.intro hb (And.intro hbb (And.intro hA (And.intro hB (And.intro ho0 (And.intro hbet (And.intro na nb))))))))))
  rw [← hA] at T1 TC hbig ca ⊢
  rw [← hB] at T2 hbig cb ⊢
  have d1 : decide ((5000 : Int) < (A : Int)) = false := by rw [decide_eq_false_iff_not]; omega
  have d2 : ¬ (5000 : Int) < (A : Int) := by omega
  have d3 : decide ((5000 : Int) < (B : Int)) = false := by rw [decide_eq_false_iff_not]; omega
  have d4 : ¬ (5000 : Int) < (B : Int) := by omega
  replace T1 := Lib.hid T1
  replace T2 := Lib.hid T2
  replace TC := Lib.hid TC
  obtain ⟨S, hS⟩ : ∃ S, S = strOfNums (sepOf n) := ⟨_, rfl⟩
  have HS := Lib.hid hS
  clear hS
  clear ht ha hba hb hbb hA hB na nb hbet hxs hx1 hx2 hys hy1 hy2 hoa ho0
  go_enter Tryd.func6, Tryd.ntmps6
  go_wp2_with fail
  refine T1.out.mono ?_
  rintro e w1 ⟨⟨v1, rfl, r1⟩, b1⟩
  obtain ⟨q1, c1, rfl, -⟩ := r1.shape
  go_upto_region 4 with fail
  obtain ⟨W1, hW1⟩ : ∃ W, W = w1.alloc (.cells #[.int .i64 x1, .int .i64 x2] 27) := ⟨_, rfl⟩
  obtain ⟨N1, hN1⟩ : ∃ N, N = w1.heap.size := ⟨_, rfl⟩
  have HB1 := Lib.hid (show TR w.heap.size W1 (.slice q1 xs.length c1) xs ∧ Below w.heap.size w W1 ∧ W1.heap[N1]? = some (.cells #[.int .i64 x1, .int .i64 x2] 27) by
    have bb : Below w1.heap.size w1 W1 := by rw [hW1]; exact (Below.refl _ _).alloc (Nat.le_refl _) _
    exact ⟨r1.below bb, b1.trans (bb.mono b1.size), by rw [hW1, hN1]; exact heap_new _ _⟩)
  rw [← hW1, ← hN1]
  clear hW1 hN1 r1 b1
  go_wp2_with fail
  refine (T2.out _ HB1.out.2.1).mono ?_
  rintro e w2 ⟨⟨v2, rfl, r2⟩, b2⟩
  obtain ⟨q2, c2, rfl, -⟩ := r2.shape
  go_upto_region 5 with fail
  obtain ⟨W2, hW2⟩ : ∃ W, W = w2.alloc (.cells #[.int .i64 y1, .int .i64 y2] 27) := ⟨_, rfl⟩
  obtain ⟨N2, hN2⟩ : ∃ N, N = w2.heap.size := ⟨_, rfl⟩
  have HB2 := Lib.hid (show TR w.heap.size W2 (.slice q1 xs.length c1) xs ∧ TR w.heap.size W2 (.slice q2 ys.length c2) ys ∧ Below w.heap.size w W2 ∧ W2.heap[N1]? = some (.cells #[.int .i64 x1, .int .i64 x2] 27) ∧ W2.heap[N2]? = some (.cells #[.int .i64 y1, .int .i64 y2] 27) by
    have bb : Below w2.heap.size w2 W2 := by rw [hW2]; exact (Below.refl _ _).alloc (Nat.le_refl _) _
    have b3 : Below W1.heap.size W1 W2 := b2.trans (bb.mono b2.size)
    exact ⟨HB1.out.1.below b3, (r2.below bb).base HB1.out.2.1.size, HB1.out.2.1.trans (b3.mono HB1.out.2.1.size), (b3.block _ (lt_block HB1.out.2.2)).trans HB1.out.2.2, by rw [hW2, hN2]; exact heap_new _ _⟩)
  rw [← hW2, ← hN2]
  clear hW2 hN2 r2 b2
  go_upto_block 0 with fail
  go_cut [11, 38] from 39 to 42 (fun s _ wx => s = .string S ∧ W2 = wx)
  case first =>
    by_cases n1 : n % 3 = 1
    · have g1 : (n % 3 == 1) = true := by rw [beq_iff_eq]; exact n1
      have e := Lib.hid (HS.out.trans (sep_one n1))
      clear n1
      go_wp2_with fail
      go_meet
      exact ⟨by rw [e.out], rfl⟩
    · have g1 : (n % 3 == 1) = false := by rw [beq_eq_false_iff_ne]; exact n1
      by_cases n2 : n % 3 = 2
      · have g2 : (n % 3 == 2) = true := by rw [beq_iff_eq]; exact n2
        have e := Lib.hid (HS.out.trans (sep_two n2))
        clear n1 n2
        go_wp2_with fail
        go_meet
        exact ⟨by rw [e.out], rfl⟩
      · have g2 : (n % 3 == 2) = false := by rw [beq_eq_false_iff_ne]; exact n2
        have e := Lib.hid (HS.out.trans (sep_none n1 n2))
        clear n1 n2
        go_wp2_with fail
        go_meet
        exact ⟨by rw [e.out], rfl⟩
  case rest =>
    obtain ⟨rfl, hw⟩ := hcut
    subst hw
    have v0 := blk_cell HB2.out.2.2.2.1 0
    have u0 := blk_cell HB2.out.2.2.2.2 0
    simp only [List.getElem?_toArray, List.getElem?_cons_zero] at v0 u0
    have T9 := Lib.hid (awake_at (HALL.out.1.below HB2.out.2.2.1))
    by_cases hx : x1 = 0
    · subst hx
      by_cases hy : y1 = 0
      · subst hy
        cases oa with
        | true =>
          go_wp2_with (first | (go_at_call 16; refine (TC.out _ HB2.out.2.2.1).mono ?_; rintro e w' ⟨rfl, rfl⟩) | (go_at_call 8; refine T9.out.mono ?_; rintro e w' ⟨rfl, hb⟩; replace hb := Lib.hid hb))
          go_ret
          exact ⟨rfl, HB2.out.2.2.1.trans (hb.out.mono HB2.out.2.2.1.size)⟩
        | false =>
          go_upto_region 13 with (go_at_call 16; refine (TC.out _ HB2.out.2.2.1).mono ?_; rintro e w' ⟨rfl, rfl⟩)
          have hE := HALL.out.2.2.2.2.2.2.2.2.1 trivial trivial trivial
          have hpx := HALL.out.2.2.2.2.2.2.2.2.2.1 trivial
          have hpy := HALL.out.2.2.2.2.2.2.2.2.2.2 trivial
          have hA := HALL.out.2.2.2.2.2.1
          have hB := HALL.out.2.2.2.2.2.2.1
          have hsl := sepOf_len n
          have bw := HB2.out.2.2.1
          have o0 := HALL.out.2.2.2.2.2.2.2.1 W2
          have bw3 : Below w.heap.size w (W2.alloc (.cells #[] 5)) := bw.alloc bw.size _
          have bz : W2.heap.size ≤ (W2.alloc (.cells #[] 5)).heap.size := ((Below.refl W2.heap.size W2).alloc (Nat.le_refl _) (.cells #[] 5)).size
          obtain ⟨s1, V1, hr1, o1, -, b1⟩ := app_row kt8 o0 (HALL.out.2.1.below bw3) (by simp; omega) bz
          rw [List.nil_append] at o1
          have z1 : W2.heap.size ≤ V1.heap.size := Nat.le_trans bz b1.size
          obtain ⟨s2, V2, hr2, o2, b2⟩ := app_str o1 (sepOf_byts n) (by omega) z1
          have z2 : W2.heap.size ≤ V2.heap.size := Nat.le_trans z1 b2.size
          have bb2 : Below W2.heap.size W2 V2 := (((Below.refl W2.heap.size W2).alloc (Nat.le_refl _) (.cells #[] 5)).trans b1).trans b2
          obtain ⟨s3, V3, hr3, o3, -, b3⟩ := app_row kt8 o2 (HALL.out.2.2.2.1.below (bw.trans (bb2.mono bw.size))) (by rw [List.length_append]; omega) z2
          have bb3 : Below W2.heap.size W2 V3 := bb2.trans b3
          obtain ⟨r3, c3, hs3, arg3, -⟩ := o3.arg
          subst hs3
          have byt3 : Byts (a ++ sepOf n ++ b) := (HALL.out.2.2.1.app (sepOf_byts n)).app HALL.out.2.2.2.2.1
          have T3 := plex_at arg3 byt3 (by rw [List.length_append, List.length_append]; omega) (HALL.out.1.below (bw.trans (bb3.mono bw.size)))
          unfold LexIs at T3
          rw [hE] at T3
          rw [← hA] at hr1 T3 hpx
          rw [← hB] at hr3 hpy
          rw [← HS.out] at hr2
          obtain ⟨K, hK⟩ : ∃ K, K = (a ++ sepOf n ++ b).length := ⟨_, rfl⟩
          rw [← hK] at T3 hr3
          have hSz : S.size = (sepOf n).length := by rw [HS.out, str_size]
          rw [← hSz] at T3
          have hSz2 : S.size ≤ 12 := by omega
          obtain ⟨Z, hZ⟩ : ∃ Z, Z = xs ++ ys.map (mvT ((A : Int) + (S.size : Int))) := ⟨_, rfl⟩
          rw [← hZ] at T3
          have hM1 : Z.length ≤ xs.length + ys.length := by rw [hZ]; simp
          have hM2 : xs.length + ys.length ≤ Z.length := by rw [hZ]; simp
          have zl : ∀ (i : Nat) (h : i < xs.length) (h' : i < Z.length), Z[i] = xs[i] := fun i h h' => by subst hZ; rw [List.getElem_append_left h]
          have zr : ∀ (i : Nat) (h : ¬ i < xs.length) (h' : i < Z.length) (h2 : i - xs.length < ys.length), Z[i] = mvT ((A : Int) + (S.size : Int)) ys[i - xs.length] := fun i h h' h2 => by subst hZ; rw [List.getElem_append_right (by omega), List.getElem_map]
          have HZ := Lib.hid (And.intro zl (And.intro zr (And.intro hpx hpy)))
          have HB3 := Lib.hid (And.intro (HB2.out.1.below bb3) (And.intro (HB2.out.2.1.below bb3) (bw.trans (bb3.mono bw.size))))
          have HR1 := Lib.hid hr1
          have HR2 := Lib.hid hr2
          have HR3 := Lib.hid hr3
          have HT3 := Lib.hid T3
          clear hE hpx hpy hA hB hsl bw o0 bw3 bz hr1 o1 b1 z1 hr2 o2 b2 z2 bb2 hr3 o3 b3 bb3 arg3 byt3 T3 hK hSz hZ zl zr
          go_upto_region 14 with (at_builtin; first | (refine Lib.wpList_append_run _ rfl _ _ 22 22 rfl (.slice (some ⟨W2.heap.size, 0, none⟩) 0 0) (.slice p A c) rfl rfl s1 V1 HR1.out ?_) | (refine Lib.wpList_append_run _ rfl _ _ 22 9 rfl s1 (.string S) rfl rfl s2 V2 HR2.out ?_) | (refine Lib.wpList_append_run _ rfl _ _ 22 22 rfl s2 (.slice q B d) rfl rfl _ V3 HR3.out ?_))
          go_wp2_with fail
          refine HT3.out.mono ?_
          rintro e w5 ⟨⟨v5, rfl, r5⟩, b5⟩
          obtain ⟨q5, c5, rfl, -⟩ := r5.shape
          go_upto_region 15 with fail
          obtain ⟨W5, hW5⟩ : ∃ W, W = w5.alloc (.cells #[.int .i64 0, .int .i64 0] 27) := ⟨_, rfl⟩
          obtain ⟨N5, hN5⟩ : ∃ N, N = w5.heap.size := ⟨_, rfl⟩
          have HB5 := Lib.hid (show TR w.heap.size W5 (.slice q1 xs.length c1) xs ∧ TR w.heap.size W5 (.slice q2 ys.length c2) ys ∧ TR w.heap.size W5 (.slice q5 Z.length c5) Z ∧ Below w.heap.size w W5 ∧ W5.heap[N5]? = some (.cells #[.int .i64 0, .int .i64 0] 27) by
            have bb : Below w5.heap.size w5 W5 := by rw [hW5]; exact (Below.refl _ _).alloc (Nat.le_refl _) _
            have b6 : Below V3.heap.size V3 W5 := b5.trans (bb.mono b5.size)
            exact ⟨HB3.out.1.below b6, HB3.out.2.1.below b6, (r5.below bb).base HB3.out.2.2.size, HB3.out.2.2.trans (b6.mono HB3.out.2.2.size), by rw [hW5, hN5]; exact heap_new _ _⟩)
          rw [← hW5, ← hN5]
          clear hW5 hN5 r5 b5 v0 u0
          have y0 := blk_cell HB5.out.2.2.2.2 0
          simp only [List.getElem?_toArray, List.getElem?_cons_zero] at y0
          have hwr : IntKind.i64.wrap ((xs.length : Int) + (ys.length : Int)) = (xs.length : Int) + (ys.length : Int) := by rw [wrap_small _ (by omega) (by omega)]
          have hne : ((Z.length : Int) != (xs.length : Int) + (ys.length : Int)) = false := by rw [bne_eq_false_iff_eq]; omega
          go_upto_region 17 with fail
          clear y0 hwr hne
          go_wp2_with fail
          go_loopw [15, 16, 17] (fun v _ _ wr => ∃ i : Nat, v = .int .i64 i ∧ i ≤ Z.length ∧ Hid (Below W5.heap.size W5 wr)) (fun v _ _ _ => Z.length - (intOf v).toNat)
          case atStart => exact ⟨0, rfl, Nat.zero_le _, Lib.hid (Below.refl _ _)⟩
          case round =>
            obtain ⟨i, rfl, hi, HK⟩ := hrel
            by_cases hlt : i < Z.length
            · have f1 : (i : Int) < (Z.length : Int) := by omega
              have e1 : decide ((i : Int) < (Z.length : Int)) = true := by rw [decide_eq_true_eq]; exact f1
              have hws : IntKind.i64.wrap ((i : Int) + 1) = (i : Int) + 1 := by rw [wrap_small _ (by omega) (by omega)]
              obtain ⟨g5, d5, hv5, k0, k1, k2, k3, k4, k5, k6⟩ := (HB5.out.2.2.1.below HK.out).one_at hlt
              cases hv5
              by_cases hix : i < xs.length
              · have f2 : (i : Int) < (xs.length : Int) := by omega
                have e2 : decide ((i : Int) < (xs.length : Int)) = true := by rw [decide_eq_true_eq]; exact f2
                rw [HZ.out.1 i hix hlt] at k0 k1 k2 k3 k4 k6
                have hpos := HZ.out.2.2.1 _ (List.getElem_mem hix)
                obtain ⟨g1, d1', hv1, l0, l1, l2, l3, l4, l5, l6⟩ := (HB5.out.1.below (HK.out.alloc HK.out.size (.cells #[.int .i64 0, .int .i64 0, .int .i64 0, .int .i64 0, .string { data := #[] }, .slice none 0 0, .int .i64 0] 37))).one_at hix
                cases hv1
                obtain ⟨t, ht⟩ : ∃ t, t = xs[i] := ⟨_, rfl⟩
                rw [← ht] at k0 k1 k2 k3 k4 k6 l0 l1 l2 l3 l4 l6 hpos
                clear ht
                obtain ⟨kd, hkd⟩ : ∃ x, x = t.kind := ⟨_, rfl⟩
                obtain ⟨P, hP⟩ : ∃ x, x = t.pos := ⟨_, rfl⟩
                obtain ⟨dk, hdk⟩ : ∃ x, x = t.dk := ⟨_, rfl⟩
                obtain ⟨m, hm⟩ : ∃ x, x = t.n := ⟨_, rfl⟩
                obtain ⟨T, hT⟩ : ∃ x, x = strOfNums t.text := ⟨_, rfl⟩
                obtain ⟨D, hD⟩ : ∃ x, x = dpos t := ⟨_, rfl⟩
                rw [← hkd] at k0 l0
                rw [← hP] at k1 l1 hpos
                rw [← hdk] at k2 l2
                rw [← hm] at k3 l3
                rw [← hT] at k4 l4
                rw [← hD] at k6 l6
                clear hkd hP hdk hm hT hD k5 k6
                have HK5 := Lib.hid (And.intro k0 (And.intro k1 (And.intro k2 (And.intro k3 k4))))
                clear k0 k1 k2 k3 k4
                have hwp : IntKind.i64.wrap P = P := by rw [wrap_small _ (by omega) (by omega)]
                go_upto_region 25 with fail
                clear l0 l1 l2 l3 l4 l5 l6
                obtain ⟨W6, hW6⟩ : ∃ W, W = wr.alloc (.cells #[.int .i64 kd, .int .i64 P, .int .i64 dk, .int .i64 m, .string T, .slice none 0 0, .int .i64 D] 37) := ⟨_, rfl⟩
                obtain ⟨N6, hN6⟩ : ∃ N, N = wr.heap.size := ⟨_, rfl⟩
                rw [← hW6, ← hN6]
                have hx6 : W6.heap[N6]? = some (.cells #[.int .i64 kd, .int .i64 P, .int .i64 dk, .int .i64 m, .string T, .slice none 0 0, .int .i64 D] 37) := by rw [hW6, hN6]; exact heap_new _ _
                have v0 := blk_cell hx6 0
                have v1 := blk_cell hx6 1
                have v2 := blk_cell hx6 2
                have v3 := blk_cell hx6 3
                have v4 := blk_cell hx6 4
                simp only [List.getElem?_toArray, List.getElem?_cons_succ, List.getElem?_cons_zero] at v0 v1 v2 v3 v4
                have b6 : Below wr.heap.size wr W6 := by rw [hW6]; exact (Below.refl _ _).alloc (Nat.le_refl _) _
                have k0 := keepB b6 HK5.out.1
                have k1 := keepB b6 HK5.out.2.1
                have k2 := keepB b6 HK5.out.2.2.1
                have k3 := keepB b6 HK5.out.2.2.2.1
                have k4 := keepB b6 HK5.out.2.2.2.2
                have H6 := Lib.hid (HK.out.trans (b6.mono HK.out.size))
                clear hW6 hN6 hx6 b6 HK5
                go_quiet (fail)
                obtain ⟨W7, hW7⟩ : ∃ W, W = W6.drewN nq := ⟨_, rfl⟩
                have D7 : Below W5.heap.size W5 W7 := by rw [hW7]; exact below_drewN H6.out nq
                rw [← hW7]
                have H7 := Lib.hid D7
                clear hW7 D7 k0 k1 k2 k3 k4 v0 v1 v2 v3 v4
                go_wp2_with fail
                go_roundw
                case rel => exact ⟨i + 1, rfl, by omega, H7⟩
                case measure => (simp only [intOf]; omega)
              · have f2 : ¬ (i : Int) < (xs.length : Int) := by omega
                have e2 : decide ((i : Int) < (xs.length : Int)) = false := by rw [decide_eq_false_iff_not]; exact f2
                obtain ⟨j, hj⟩ : ∃ j, j = i - xs.length := ⟨_, rfl⟩
                have hjy : j < ys.length := by omega
                have hjc : ((j : Nat) : Int) < (ys.length : Int) := by omega
                have hzj : Z[i] = mvT ((A : Int) + (S.size : Int)) ys[j] := by subst hj; exact HZ.out.2.1 i hix hlt hjy
                rw [hzj] at k0 k1 k2 k3 k4
                have hpos := HZ.out.2.2.2 _ (List.getElem_mem hjy)
                have hwj : IntKind.i64.wrap ((i : Int) - (xs.length : Int)) = (j : Int) := by rw [wrap_small _ (by omega) (by omega)]; omega
                have hwm : IntKind.i64.wrap ((A : Int) + (S.size : Int)) = (A : Int) + (S.size : Int) := by rw [wrap_small _ (by omega) (by omega)]
                clear hj hzj
                obtain ⟨g1, d1', hv1, l0, l1, l2, l3, l4, l5, l6⟩ := (HB5.out.2.1.below (HK.out.alloc HK.out.size (.cells #[.int .i64 0, .int .i64 0, .int .i64 0, .int .i64 0, .string { data := #[] }, .slice none 0 0, .int .i64 0] 37))).one_at hjy
                cases hv1
                obtain ⟨t, ht⟩ : ∃ t, t = ys[j] := ⟨_, rfl⟩
                rw [← ht] at k0 k1 k2 k3 k4 l0 l1 l2 l3 l4 l6 hpos
                clear ht
                replace k0 : wr.cell? ⟨g5, i * 7, none⟩ = some (.int .i64 t.kind) := k0
                replace k1 : wr.cell? ⟨g5, i * 7 + 1, none⟩ = some (.int .i64 (t.pos + ((A : Int) + (S.size : Int)))) := k1
                replace k2 : wr.cell? ⟨g5, i * 7 + 2, none⟩ = some (.int .i64 t.dk) := k2
                replace k3 : wr.cell? ⟨g5, i * 7 + 3, none⟩ = some (.int .i64 t.n) := k3
                replace k4 : wr.cell? ⟨g5, i * 7 + 4, none⟩ = some (.string (strOfNums t.text)) := k4
                obtain ⟨kd, hkd⟩ : ∃ x, x = t.kind := ⟨_, rfl⟩
                obtain ⟨P, hP⟩ : ∃ x, x = t.pos := ⟨_, rfl⟩
                obtain ⟨dk, hdk⟩ : ∃ x, x = t.dk := ⟨_, rfl⟩
                obtain ⟨m, hm⟩ : ∃ x, x = t.n := ⟨_, rfl⟩
                obtain ⟨T, hT⟩ : ∃ x, x = strOfNums t.text := ⟨_, rfl⟩
                obtain ⟨D, hD⟩ : ∃ x, x = dpos t := ⟨_, rfl⟩
                rw [← hkd] at k0 l0
                rw [← hP] at k1 l1 hpos
                rw [← hdk] at k2 l2
                rw [← hm] at k3 l3
                rw [← hT] at k4 l4
                rw [← hD] at l6
                clear hkd hP hdk hm hT hD k5 k6
                have HK5 := Lib.hid (And.intro k0 (And.intro k1 (And.intro k2 (And.intro k3 k4))))
                clear k0 k1 k2 k3 k4
                have hwp : IntKind.i64.wrap (P + ((A : Int) + (S.size : Int))) = P + ((A : Int) + (S.size : Int)) := by rw [wrap_small _ (by omega) (by omega)]
                go_upto_region 25 with fail
                clear l0 l1 l2 l3 l4 l5 l6
                obtain ⟨W6, hW6⟩ : ∃ W, W = wr.alloc (.cells #[.int .i64 kd, .int .i64 P, .int .i64 dk, .int .i64 m, .string T, .slice none 0 0, .int .i64 D] 37) := ⟨_, rfl⟩
                obtain ⟨N6, hN6⟩ : ∃ N, N = wr.heap.size := ⟨_, rfl⟩
                rw [← hW6, ← hN6]
                have hx6 : W6.heap[N6]? = some (.cells #[.int .i64 kd, .int .i64 P, .int .i64 dk, .int .i64 m, .string T, .slice none 0 0, .int .i64 D] 37) := by rw [hW6, hN6]; exact heap_new _ _
                have v0 := blk_cell hx6 0
                have v1 := blk_cell hx6 1
                have v2 := blk_cell hx6 2
                have v3 := blk_cell hx6 3
                have v4 := blk_cell hx6 4
                simp only [List.getElem?_toArray, List.getElem?_cons_succ, List.getElem?_cons_zero] at v0 v1 v2 v3 v4
                have b6 : Below wr.heap.size wr W6 := by rw [hW6]; exact (Below.refl _ _).alloc (Nat.le_refl _) _
                have k0 := keepB b6 HK5.out.1
                have k1 := keepB b6 HK5.out.2.1
                have k2 := keepB b6 HK5.out.2.2.1
                have k3 := keepB b6 HK5.out.2.2.2.1
                have k4 := keepB b6 HK5.out.2.2.2.2
                have H6 := Lib.hid (HK.out.trans (b6.mono HK.out.size))
                clear hW6 hN6 hx6 b6 HK5
                go_quiet (fail)
                obtain ⟨W7, hW7⟩ : ∃ W, W = W6.drewN nq := ⟨_, rfl⟩
                have D7 : Below W5.heap.size W5 W7 := by rw [hW7]; exact below_drewN H6.out nq
                rw [← hW7]
                have H7 := Lib.hid D7
                clear hW7 D7 k0 k1 k2 k3 k4 v0 v1 v2 v3 v4
                go_wp2_with fail
                go_roundw
                case rel => exact ⟨i + 1, rfl, by omega, H7⟩
                case measure => (simp only [intOf]; omega)
            · have f1 : ¬ (i : Int) < (Z.length : Int) := by omega
              have e1 : decide ((i : Int) < (Z.length : Int)) = false := by rw [decide_eq_false_iff_not]; exact f1
              have T8 := Lib.hid (awake_at (HALL.out.1.below (HB5.out.2.2.2.1.trans (HK.out.mono HB5.out.2.2.2.1.size))))
              have HB := Lib.hid (HB5.out.2.2.2.1.trans (HK.out.mono HB5.out.2.2.2.1.size))
              go_wp2_with fail
              refine T8.out.mono ?_
              rintro e w9 ⟨rfl, hb9⟩
              have H9 := Lib.hid (HB.out.trans (hb9.mono HB.out.size))
              clear hb9
              go_wp2_with fail
              go_ret
              exact ⟨rfl, H9.out⟩
      · have gy : (y1 != 0) = true := by rw [bne_iff_ne]; exact hy
        go_wp2_with (first | (go_at_call 16; refine (TC.out _ HB2.out.2.2.1).mono ?_; rintro e w' ⟨rfl, rfl⟩) | (go_at_call 8; refine T9.out.mono ?_; rintro e w' ⟨rfl, hb⟩; replace hb := Lib.hid hb))
        go_ret
        exact ⟨rfl, HB2.out.2.2.1.trans (hb.out.mono HB2.out.2.2.1.size)⟩
    · have gx : (x1 != 0) = true := by rw [bne_iff_ne]; exact hx
      go_wp2_with (first | (go_at_call 16; refine (TC.out _ HB2.out.2.2.1).mono ?_; rintro e w' ⟨rfl, rfl⟩) | (go_at_call 8; refine T9.out.mono ?_; rintro e w' ⟨rfl, hb⟩; replace hb := Lib.hid hb))
      go_ret
      exact ⟨rfl, HB2.out.2.2.1.trans (hb.out.mono HB2.out.2.2.1.size)⟩
end Go.Proofs.YtgnnkfdpfmlajaaDoor
