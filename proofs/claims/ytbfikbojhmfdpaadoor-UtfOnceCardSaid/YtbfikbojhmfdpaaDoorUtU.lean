/- What is read of any bytes is put as just those bytes, walked. Conditions: the tables of Go's library lie. -/
import Derived.Test.YtbfikbojhmfdpaaDoorUtN
namespace Go.Proofs.YtbfikbojhmfdpaaDoor
open Go.RowKit Bg
set_option linter.unusedVariables false
set_option linter.unusedSimpArgs false


theorem ext_sub (l : List Int) (k n : Nat) : (strOfNums l).extract k (k + n) = strOfNums ((l.drop k).take n) := by
  apply ByteArray.ext
  apply Array.toList_inj.1
  rw [ByteArray.data_extract, Array.toList_extract, strOfNums_data, strOfNums_data, List.map_take, List.map_drop]
  unfold List.extract
  rw [Nat.add_sub_cancel_left]
set_option maxRecDepth 100000 in
set_option maxHeartbeats 20000000 in
theorem once_any {w : World} {p : Option Addr} {cp : Nat} {b : List Int} (a : Arg .u8 w p cp b) (hb : Byts b) (ht : Tab w) :
    Calls Tryd.prog 6 #[.slice p b.length cp] w fun e w' => e = .returned (.bool true) ∧ Below w.heap.size w w' := by
  have T1 := Lib.hid (cut_at a)
  obtain ⟨l, hl⟩ : ∃ m, m = b.take 2000 := ⟨_, rfl⟩
  have hll : l.length ≤ 2000 := by rw [hl, List.length_take]; omega
  have aa : Arg .u8 w p cp l := hl ▸ a.take 2000
  have hle := aa.le
  have hmx := aa.max
  have H0 := Lib.hid (And.intro aa (And.intro (hl ▸ hb.take 2000 : Byts l) (And.intro ht hll)))
  rw [← hl] at T1
  clear hl a hb ht aa
  go_enter Tryd.func6, Tryd.ntmps6
  go_wp2_with fail
  refine T1.out.mono ?_
  rintro e w' ⟨rfl, rfl⟩
  go_wp2_with fail
  refine (all_at H0.out.1 H0.out.2.1 H0.out.2.2.2).mono ?_
  rintro e w1 ⟨v1, x1, y1, rfl, ⟨cs, rest, hsp, rfl, rfl, hr1⟩, b1⟩
  have hT1 := H0.out.2.2.1.below b1
  obtain ⟨p1, k1, rfl⟩ := hr1.shape
  by_cases h0 : rest = []
  · subst h0
    have ha : aE [] = 0 := by simp [aE]
    have hp : aP l [] = 0 := by simp [aP]
    have hq : aL cs [] = cs := by simp [aL]
    rw [hq] at hr1 ⊢
    rw [ha, hp]
    have hfl : l = flat cs := by have := hsp.eq; rwa [List.append_nil] at this
    have HS := Lib.hid (And.intro hsp (And.intro b1 (And.intro hr1 (And.intro hT1 hfl))))
    obtain ⟨n, hn⟩ : ∃ n, n = cs.length := ⟨_, rfl⟩
    have hn2 : n ≤ 2000 := by have := split_len hsp; omega
    rw [← hn]
    have HN := Lib.hid hn
    clear hn ha hp hq hr1 b1 hT1 hsp hfl
    go_wp2_with fail
    obtain ⟨w2, hw2⟩ : ∃ x, x = w1.alloc (.cells #[.int .i64 0, .int .i64 0] 39) := ⟨_, rfl⟩
    have c0 : w2.cell? ⟨w1.heap.size, 0, none⟩ = some (.int .i64 0) := by rw [hw2]; unfold World.cell?; rw [heap_new]; rfl
    have b2 : Below w1.heap.size w1 w2 := by rw [hw2]; exact (Below.refl _ _).alloc (Nat.le_refl _) _
    have H2 := Lib.hid (And.intro (HS.out.2.1.trans (b2.mono HS.out.2.1.size)) (HS.out.2.2.1.below b2))
    have H2' := Lib.hid (And.intro (HS.out.2.2.2.1.below b2) b2)
    have hat := Lib.hid (fun h => (HS.out.2.2.1.below b2).at h)
    rw [← HN.out] at hat
    rw [← hw2]
    clear hw2 c0 b2
    obtain ⟨L, hL⟩ : ∃ L, L = l.length := ⟨_, rfl⟩
    have HL := Lib.hid hL
    rw [← hL] at hle hll ⊢
    clear hL
    go_loopw [10, 11, 12] (fun x v t wr => ∃ i : Nat, t = .int .i64 i ∧ i ≤ n ∧ x = .int .i64 ((flat (cs.take i)).length : Int) ∧ Hid (Below w2.heap.size w2 wr ∧ Own 3 .i64 w2.heap.size wr v (cs.take i))) (fun _ _ t _ => n - (intOf t).toNat)
    case atStart => exact ⟨0, rfl, Nat.zero_le _, rfl, Lib.hid ⟨Below.refl _ _, Own.nil _ _ _ _⟩⟩
    case round =>
      obtain ⟨i, rfl, hi, rfl, HI⟩ := hrel
      have BI := H2.out.1.trans (HI.out.1.mono H2.out.1.size)
      have hfl := HS.out.2.2.2.2
      by_cases hlt : i < n
      · have d1 : decide ((i : Int) < (n : Int)) = true := by rw [decide_eq_true_eq]; omega
        have f1 : (i : Int) < (n : Int) := by omega
        have hiC : i < cs.length := by have := HN.out; omega
        obtain ⟨hn1, g1, hp1, hk1, hm1, hc1⟩ := hat.out (by omega)
        subst hp1
        have x1 := (hc1 i hlt).1
        have x2 := (hc1 i hlt).2
        replace x1 := (HI.out.1.cell (World.block_lt_of_cell? w2 _ x1)).trans x1
        replace x2 := (HI.out.1.cell (World.block_lt_of_cell? w2 _ x2)).trans x2
        have hcI : isC (cs.getD i 0) = true := HS.out.1.all _ (by rw [List.getD_eq_getElem?_getD, List.getElem?_eq_getElem hiC]; exact List.getElem_mem hiC)
        have htk := take_snoc cs i hiC
        have hspl : flat cs = flat (cs.take i) ++ (enc (cs.getD i 0) ++ flat (cs.drop (i + 1))) := by
          conv => lhs; rw [← List.take_append_drop (i + 1) cs, htk]
          unfold flat
          rw [List.flatMap_append, List.flatMap_append, List.append_assoc]
          simp
        obtain ⟨c, hc⟩ : ∃ c, c = cs.getD i 0 := ⟨_, rfl⟩
        rw [← hc] at x1 hcI htk hspl
        have hfi : (flat (cs.take (i + 1))).length = (flat (cs.take i)).length + (enc c).length := by rw [htk, flat_snoc, List.length_append]
        obtain ⟨k, hk⟩ : ∃ k, k = (flat (cs.take i)).length := ⟨_, rfl⟩
        have hdr : (l.drop k).take (enc c).length = enc c := by
          rw [hfl, hspl, hk, List.drop_left' rfl]
          exact List.take_left' rfl
        have hkL : k + (enc c).length ≤ L := by rw [HL.out, hfl, hspl, hk, List.length_append, List.length_append]; omega
        have hel := enc_len c
        have P1 : Hid (∀ w, Calls Tryd.prog 10 #[.int .i64 c] w fun e w' => e = .returned (.tuple #[.string (strOfNums (enc c)), .int .i64 0]) ∧ w = w') := Lib.hid fun w => by
          have := put_at c w
          unfold pst pe at this
          rw [hcI] at this
          exact this
        have hsz : (strOfNums (enc c)).size = (enc c).length := str_size _
        have aI := H0.out.1.below BI
        obtain ⟨g, off, rfl, -⟩ := aI.at (by have := HL.out; omega)
        have aK : Arg .u8 wr (some ⟨g, off + k, none⟩) (cp - k) (enc c) := by
          have h1 := (aI.drop (n := k) (by have := HL.out; omega)).take (enc c).length
          rw [hdr] at h1
          have e : (Option.map (fun x : Addr => x.add k) (some ⟨g, off, none⟩)) = some ⟨g, off + k, none⟩ := congrArg some (add_at g off k)
          rw [← e]
          exact h1
        have hcv := conv_arg aK
        rw [← hsz] at hcv hkL hel hfi
        obtain ⟨s, hs⟩ : ∃ s, s = strOfNums (enc c) := ⟨_, rfl⟩
        rw [← hs] at hcv hkL hel hfi P1
        rw [← hk] at x2 hfi ⊢
        obtain ⟨v2, w3, hr2, ho2, hb2⟩ := app_two ktI (x := c) HI.out.2 (by rw [List.length_take]; omega) HI.out.1.size
        have HR := Lib.hid (And.intro hr2 (And.intro (htk ▸ ho2 : Own 3 .i64 w2.heap.size w3 v2 (cs.take (i + 1))) (And.intro (HI.out.1.trans hb2) hfi)))
        clear hr2 ho2 hb2 aK aI hsz hs hdr hspl htk hk hc hcI hc1 hn1 hiC BI hfl hfi
        have f2 : (k : Int) + (s.size : Int) ≤ (L : Int) := by omega
        have f3 : ¬ cp = k := by omega
        have f4 : (k : Int) + (s.size : Int) ≤ (cp : Int) := by omega
        have f5 : ¬ (L : Int) < (k : Int) + (s.size : Int) := by omega
        have f6 : (k : Int) ≤ (k : Int) + (s.size : Int) := by omega
        go_wp2_with fail
        refine (P1.out _).mono ?_
        rintro e w' ⟨rfl, rfl⟩
        go_wp2_with (at_builtin; refine Lib.wpList_append_run _ rfl _ _ 36 36 rfl u11 (.slice (some ⟨wr.heap.size, 0, none⟩) 1 1) rfl rfl v2 w3 HR.out.1 ?_)
        go_roundw
        case rel =>
          refine ⟨i + 1, rfl, by omega, ?_, Lib.hid ⟨HR.out.2.2.1, HR.out.2.1⟩⟩
          rw [HR.out.2.2.2]
          rfl
        case measure => simp only [intOf]; omega
      · have d1 : decide ((i : Int) < (n : Int)) = false := by rw [decide_eq_false_iff_not]; omega
        have f1 : ¬ (i : Int) < (n : Int) := by omega
        have hin : cs.take i = cs := List.take_of_length_le (by have := HN.out; omega)
        rw [hin] at HI ⊢
        have hk : (flat cs).length = L := by rw [HL.out, hfl]
        rw [hk]
        obtain ⟨q5, k5, rfl, a5, -⟩ := HI.out.2.arg
        have hcl : cs.length ≤ 2000 := by have := HN.out; omega
        have TT := text_at a5 hcl
        have htg := t_good HS.out.1.all
        rw [htg.1, htg.2, ← hfl] at TT
        obtain ⟨S, hS⟩ : ∃ S, S = strOfNums l := ⟨_, rfl⟩
        rw [← hS] at TT
        have H5 := Lib.hid (And.intro BI (And.intro (a5.below (Below.refl _ _)) (And.intro TT hS)))
        rw [← HN.out] at H5 ⊢
        clear TT htg a5 hS hin hk BI hfl hcl
        go_wp2_with fail
        refine H5.out.2.2.1.mono ?_
        rintro e w5 ⟨rfl, b5⟩
        have B5 := H5.out.1.trans (b5.mono H5.out.1.size)
        have hcv := conv_arg (H0.out.1.below B5)
        rw [← H5.out.2.2.2, ← HL.out] at hcv
        have TC := codes_at H0.out.2.1 H0.out.2.2.2 w5
        rw [← H5.out.2.2.2] at TC
        have H6 := Lib.hid (And.intro B5 (And.intro (H5.out.2.1.below b5) TC))
        clear B5 b5 TC
        go_wp2_with fail
        refine H6.out.2.2.mono ?_
        rintro e w6 ⟨v6, x6, rfl, ⟨ds, dr, hd, rfl, ho6⟩, b6⟩
        obtain ⟨rfl, rfl⟩ := hd.unique HS.out.1
        have ha : aE [] = 0 := by simp [aE]
        have hq : aL ds [] = ds := by simp [aL]
        rw [hq] at ho6
        rw [ha]
        obtain ⟨q6, k6, rfl, a6, -⟩ := ho6.arg
        have B6 := H6.out.1.trans (b6.mono H6.out.1.size)
        have hcv6 := conv_arg (H0.out.1.below B6)
        rw [← H5.out.2.2.2, ← HL.out] at hcv6
        have TS := same_at a6 (H6.out.2.1.below b6) (by have := HN.out; omega) (by have := HN.out; omega)
        rw [decide_eq_true rfl, ← HN.out] at TS
        have H7 := Lib.hid (And.intro B6 TS)
        rw [← HN.out]
        clear B6 b6 a6 ho6 hd TS hcv ha hq
        go_wp2_with (first
          | (go_at_call 23; refine H7.out.2.mono ?_; rintro e w7 ⟨rfl, b7⟩; have H8 := Lib.hid (H7.out.1.trans (b7.mono H7.out.1.size)); clear b7)
          | (go_at_call 16; refine (works_at (H0.out.2.2.1.below H8.out)).mono ?_; rintro e w8 ⟨rfl, bb⟩; replace bb := Lib.hid (H8.out.trans (bb.mono H8.out.size))))
        all_goals go_ret
        all_goals exact ⟨rfl, bb.out⟩
  · have hq : aL cs rest = [] := by simp [aL, h0]
    have ha : aE rest = 4 := by simp [aE, h0]
    obtain ⟨k, hk⟩ : ∃ k, k = (flat cs).length := ⟨_, rfl⟩
    have hrl : 0 < rest.length := by
      rcases Nat.eq_zero_or_pos rest.length with h | h
      · exact absurd (List.length_eq_zero_iff.1 h) h0
      · exact h
    have hlen : l.length = k + rest.length := by rw [hk, hsp.eq, List.length_append]
    have hp : aP l rest = (k : Int) := by
      unfold aP
      rw [if_neg h0]
      omega
    have hdr : l.drop k = rest := by rw [hsp.eq, hk]; exact List.drop_left' rfl
    have htk : l.take k = flat cs := by rw [hsp.eq, hk]; exact List.take_left' rfl
    rw [hq] at hr1 ⊢
    rw [ha, hp]
    have hkl : k < l.length := by omega
    obtain ⟨g1, g2, g3⟩ := g_none (l := l) (k := k) hkl (by rw [hdr]; exact hsp.none)
    have HS := Lib.hid (And.intro hsp (And.intro b1 (And.intro hT1 (And.intro htk (And.intro g1 (And.intro g2 g3))))))
    obtain ⟨L, hL⟩ : ∃ L, L = l.length := ⟨_, rfl⟩
    have HL := Lib.hid hL
    rw [← hL] at hle hkl hll ⊢
    clear hq ha hp hdr htk hr1 b1 hT1 hsp hk hrl hlen g1 g2 g3 hL
    have f1 : (k : Int) < (L : Int) := by omega
    have f2 : (k : Int) ≤ (L : Int) := by omega
    have f3 : (k : Int) ≤ (cp : Int) := by omega
    have d1 : decide ((k : Int) < 0) = false := by rw [decide_eq_false_iff_not]; omega
    have d2 : decide ((L : Int) ≤ (k : Int)) = false := by rw [decide_eq_false_iff_not]; omega
    go_wp2_with fail
    obtain ⟨w2, hw2⟩ : ∃ x, x = w1.alloc (.cells #[.int .i64 4, .int .i64 k] 39) := ⟨_, rfl⟩
    have c0 : w2.cell? ⟨w1.heap.size, 0, none⟩ = some (.int .i64 4) := by rw [hw2]; unfold World.cell?; rw [heap_new]; rfl
    have c1 : w2.cell? ⟨w1.heap.size, 1, none⟩ = some (.int .i64 k) := by rw [hw2]; unfold World.cell?; rw [heap_new]; rfl
    have b2 : Below w1.heap.size w1 w2 := by rw [hw2]; exact (Below.refl _ _).alloc (Nat.le_refl _) _
    have B2 := HS.out.2.1.trans (b2.mono HS.out.2.1.size)
    have TG := get_at (H0.out.1.below B2) H0.out.2.1 (by have := H0.out.2.2.2; omega) (H0.out.2.2.1.below B2) (k : Int)
    rw [HS.out.2.2.2.2.1, HS.out.2.2.2.2.2.1, HS.out.2.2.2.2.2.2, ← HL.out] at TG
    obtain ⟨F, hF⟩ : ∃ F, F = w1.heap.size := ⟨_, rfl⟩
    rw [← hw2]
    rw [← hF] at c0 c1 ⊢
    have H2 := Lib.hid (And.intro B2 (And.intro TG (And.intro c0 c1)))
    clear hw2 b2 B2 TG c0 c1 hF
    refine H2.out.2.1.mono ?_
    rintro e w3 ⟨rfl, b3⟩
    have B3 := H2.out.1.trans (b3.mono H2.out.1.size)
    have c1 := (b3.cell (p := ⟨F, 1, none⟩) (World.block_lt_of_cell? w2 _ H2.out.2.2.2)).trans H2.out.2.2.2
    have hkk : (l.take k).length = k := by rw [List.length_take, ← HL.out]; omega
    have TA := all_at ((H0.out.1.below B3).take k) (H0.out.2.1.take k) (by rw [hkk]; omega)
    rw [hkk] at TA
    have H3 := Lib.hid (And.intro B3 TA)
    clear B3 b3 hkk TA
    go_wp2_with fail
    refine H3.out.2.mono ?_
    rintro e w4 ⟨v4, x4, y4, rfl, ⟨ds, dr, hd, rfl, rfl, hr4⟩, b4⟩
    have hfs : Split (l.take k) cs [] := ⟨HS.out.1.all, by rw [HS.out.2.2.2.1, List.append_nil], chr_nil⟩
    obtain ⟨rfl, rfl⟩ := hd.unique hfs
    have ha : aE [] = 0 := by simp [aE]
    have hp : aP (l.take k) [] = 0 := by simp [aP]
    rw [ha, hp]
    have H4 := Lib.hid (H3.out.1.trans (b4.mono H3.out.1.size))
    clear ha hp hfs hd hr4 b4
    have bz := (Below.refl w4.heap.size w4).alloc (Nat.le_refl _) (.cells #[.int .i64 0, .int .i64 0] 39)
    have HZ := Lib.hid (H4.out.trans (bz.mono H4.out.size))
    clear bz
    go_wp2_with (go_at_call 16; refine (works_at (H0.out.2.2.1.below HZ.out)).mono ?_; rintro e w5 ⟨rfl, bb⟩; replace bb := Lib.hid (HZ.out.trans (bb.mono HZ.out.size)))
    all_goals go_ret
    all_goals exact ⟨rfl, bb.out⟩
end Go.Proofs.YtbfikbojhmfdpaaDoor
