/- The chars of bytes and the bytes of chars, walked. Conditions: the tables of Go's library lie. -/
import Derived.Test.YtbfikbojhmfdpaaDoorUtN
import Derived.Deep.RegionHeld3
namespace Go.Proofs.YtbfikbojhmfdpaaDoor
open Go.RowKit Bg
set_option linter.unusedVariables false
set_option linter.unusedSimpArgs false


theorem aE_cases (rest : List Int) : aE rest = 0 ∨ aE rest = 4 := by
  unfold aE
  split
  · exact Or.inl rfl
  · exact Or.inr rfl
set_option maxRecDepth 100000 in
set_option maxHeartbeats 20000000 in
theorem texts_any {w : World} {p q : Option Addr} {cp cq : Nat} {b r : List Int} (a : Arg .u8 w p cp b) (hb : Byts b) (a' : Arg .i64 w q cq r) (ht : Tab w) :
    Calls Tryd.prog 4 #[.slice p b.length cp, .slice q r.length cq] w fun e w' => e = .returned (.bool true) ∧ Below w.heap.size w w' := by
  have T1 := Lib.hid (cut_at a)
  have hle' := a'.le
  have hmx' := a'.max
  obtain ⟨l, hl⟩ : ∃ m, m = b.take 2000 := ⟨_, rfl⟩
  obtain ⟨m, hm⟩ : ∃ m, m = r.take 2000 := ⟨_, rfl⟩
  have hll : l.length ≤ 2000 := by rw [hl, List.length_take]; omega
  have hml : m.length ≤ 2000 := by rw [hm, List.length_take]; omega
  have hmr : m.length ≤ r.length := by rw [hm, List.length_take]; omega
  have hmin : min (r.length : Int) 2000 = (m.length : Int) := by rw [hm, List.length_take]; omega
  have H0 := Lib.hid (And.intro (hl ▸ a.take 2000 : Arg .u8 w p cp l) (And.intro (hl ▸ hb.take 2000 : Byts l) (And.intro (hm ▸ a'.take 2000 : Arg .i64 w q cq m) (And.intro ht (And.intro hll hml)))))
  rw [← hl] at T1
  clear hl hm a a' hb ht
  have hf1 : (m.length : Int) ≤ (cq : Int) := by omega
  go_enter Tryd.func4, Tryd.ntmps4
  go_wp2_with fail
  refine T1.out.mono ?_
  rintro e w' ⟨rfl, rfl⟩
  go_wp2_with fail
  refine (all_at H0.out.1 H0.out.2.1 H0.out.2.2.2.2.1).mono ?_
  rintro e w1 ⟨v1, x1, y1, rfl, ⟨cs, rest, hsp, rfl, rfl, hr1⟩, b1⟩
  have HS := Lib.hid (And.intro hsp (And.intro b1 hr1))
  obtain ⟨E, hE⟩ : ∃ E, E = aE rest := ⟨_, rfl⟩
  obtain ⟨P, hP⟩ : ∃ P, P = aP l rest := ⟨_, rfl⟩
  rw [← hE, ← hP]
  have HE := Lib.hid (And.intro hE hP)
  clear hE hP hr1 b1 hsp
  go_wp2_with fail
  obtain ⟨w2, hw2⟩ : ∃ x, x = w1.alloc (.cells #[.int .i64 E, .int .i64 P] 39) := ⟨_, rfl⟩
  have c0 : w2.cell? ⟨w1.heap.size, 0, none⟩ = some (.int .i64 E) := by rw [hw2]; unfold World.cell?; rw [heap_new]; rfl
  have c1 : w2.cell? ⟨w1.heap.size, 1, none⟩ = some (.int .i64 P) := by rw [hw2]; unfold World.cell?; rw [heap_new]; rfl
  have b2 : Below w1.heap.size w1 w2 := by rw [hw2]; exact (Below.refl _ _).alloc (Nat.le_refl _) _
  obtain ⟨F, hF⟩ : ∃ F, F = w1.heap.size := ⟨_, rfl⟩
  rw [← hw2]
  rw [← hF] at c0 c1 ⊢
  have B2 := HS.out.2.1.trans (b2.mono HS.out.2.1.size)
  have H2 := Lib.hid (And.intro B2 (And.intro (HS.out.2.2.below b2) (And.intro c0 c1)))
  clear hw2 b2 B2 c0 c1 hF
  refine (rall_at (H0.out.1.below H2.out.1) H0.out.2.1 H0.out.2.2.2.2.1).mono ?_
  rintro e w3 ⟨v3, x3, y3, rfl, ⟨cs', rest', hsp', rfl, rfl, hr3⟩, b3⟩
  obtain ⟨rfl, rfl⟩ := hsp'.unique HS.out.1
  rw [← HE.out.1, ← HE.out.2]
  have B3 := H2.out.1.trans (b3.mono H2.out.1.size)
  have hr1' := H2.out.2.1.below b3
  have c0 := (b3.cell (p := ⟨F, 0, none⟩) (World.block_lt_of_cell? w2 _ H2.out.2.2.1)).trans H2.out.2.2.1
  have c1 := (b3.cell (p := ⟨F, 1, none⟩) (World.block_lt_of_cell? w2 _ H2.out.2.2.2)).trans H2.out.2.2.2
  obtain ⟨p1, k1, rfl⟩ := hr1'.shape
  obtain ⟨p3, k3, rfl⟩ := hr3.shape
  obtain ⟨C, hC⟩ : ∃ C, C = aL cs' rest' := ⟨_, rfl⟩
  rw [← hC] at hr1' hr3 ⊢
  have H3 := Lib.hid (And.intro B3 (And.intro hr1' (And.intro (hr3.below (Below.refl _ _)) hC)))
  clear B3 hr1' hr3 hC b3 hsp'
  obtain ⟨n, hn⟩ : ∃ n, n = C.length := ⟨_, rfl⟩
  rw [← hn]
  have HN := Lib.hid hn
  clear hn
  have hn2 : n ≤ 2000 := by
    have h1 : n ≤ cs'.length := by
      rw [HN.out, H3.out.2.2.2]
      unfold aL
      split
      · exact Nat.le_refl _
      · exact Nat.zero_le _
    have h2 := split_len HS.out.1
    have h3 := H0.out.2.2.2.2.1
    omega
  go_wp2_with fail
  go_loopw [10] (fun t wr => ∃ i : Nat, t = .int .i64 i ∧ i ≤ n ∧ Hid (Below w3.heap.size w3 wr)) (fun t _ => n - (intOf t).toNat)
  case atStart => exact ⟨0, rfl, Nat.zero_le _, Lib.hid (Below.refl _ _)⟩
  case round =>
    obtain ⟨i, rfl, hi, HI⟩ := hrel
    by_cases hlt : i < n
    · have d1 : decide ((i : Int) < (n : Int)) = true := by rw [decide_eq_true_eq]; omega
      have f1 : (i : Int) < (n : Int) := by omega
      have hiC : i < C.length := by have := HN.out; omega
      obtain ⟨hn1, g1, hp1, hk1, hm1, hc1⟩ := H3.out.2.1.at (by omega)
      obtain ⟨hn3, g3, hp3, hk3, hm3, hc3⟩ := H3.out.2.2.1.at (by omega)
      rw [← HN.out] at hk1 hk3
      subst hp1
      subst hp3
      have x1 := (hc1 i hiC).1
      have x2 := (hc1 i hiC).2
      have x3 := (hc3 i hiC).1
      have x4 := (hc3 i hiC).2
      replace x1 := (HI.out.cell (World.block_lt_of_cell? w3 _ x1)).trans x1
      replace x2 := (HI.out.cell (World.block_lt_of_cell? w3 _ x2)).trans x2
      replace x3 := (HI.out.cell (World.block_lt_of_cell? w3 _ x3)).trans x3
      replace x4 := (HI.out.cell (World.block_lt_of_cell? w3 _ x4)).trans x4
      obtain ⟨y1, hy1⟩ : ∃ y, y = C.getD i 0 := ⟨_, rfl⟩
      obtain ⟨y2, hy2⟩ : ∃ y, y = ((flat (C.take i)).length : Int) := ⟨_, rfl⟩
      rw [← hy1] at x1 x3
      rw [← hy2] at x2 x4
      clear hy1 hy2 hn1 hn3 hc1 hc3 hiC
      go_wp2_with fail
      go_quiet (fail)
      go_wp2_with fail
      go_roundw
      case rel => exact ⟨i + 1, rfl, by omega, Lib.hid (below_drewN HI.out _)⟩
      case measure => simp only [intOf]; omega
    · have d1 : decide ((i : Int) < (n : Int)) = false := by rw [decide_eq_false_iff_not]; omega
      have f1 : ¬ (i : Int) < (n : Int) := by omega
      have B4 := H3.out.1.trans (HI.out.mono H3.out.1.size)
      have hcv := conv_arg (H0.out.1.below B4)
      have H4 := Lib.hid B4
      clear B4
      obtain ⟨S, hS⟩ : ∃ S, S = strOfNums l := ⟨_, rfl⟩
      rw [← hS] at hcv
      have HS' := Lib.hid hS
      clear hS
      go_wp2_with fail
      have TC := codes_at H0.out.2.1 H0.out.2.2.2.2.1 wr
      rw [← HS'.out] at TC
      refine TC.mono ?_
      clear TC
      rintro e w5 ⟨v5, x5, rfl, ⟨ds, dr, hd, rfl, ho5⟩, b5⟩
      obtain ⟨rfl, rfl⟩ := hd.unique HS.out.1
      obtain ⟨p5, k5, rfl, a5, -⟩ := ho5.arg
      rw [← HE.out.1]
      have B5 := H4.out.trans (b5.mono H4.out.size)
      have hcv5 := conv_arg (H0.out.1.below B5)
      rw [← HS'.out] at hcv5
      have H5 := Lib.hid (And.intro B5 (And.intro (a5.below (Below.refl _ _)) hd))
      clear B5 a5 ho5 b5 hd hcv
      obtain ⟨N5, hN5⟩ : ∃ N, N = (aL ds dr).length := ⟨_, rfl⟩
      rw [← hN5]
      have HN5 := Lib.hid hN5
      clear hN5
      go_wp2_with fail
      have TC := rcodes_at H0.out.2.1 H0.out.2.2.2.2.1 w5
      rw [← HS'.out] at TC
      refine TC.mono ?_
      clear TC hcv5
      rintro e w6 ⟨v6, x6, rfl, ⟨es, er, he, rfl, ho6⟩, b6⟩
      obtain ⟨rfl, rfl⟩ := he.unique H5.out.2.2
      obtain ⟨p6, k6, rfl, a6, -⟩ := ho6.arg
      rw [← HE.out.1, ← HN5.out]
      have B6 := H5.out.1.trans (b6.mono H5.out.1.size)
      have H6 := Lib.hid (And.intro B6 (And.intro (H5.out.2.1.below b6) (a6.below (Below.refl _ _))))
      clear B6 a6 ho6 b6 he
      go_wp2_with fail
      have TC := text_at (H0.out.2.2.1.below H6.out.1) H0.out.2.2.2.2.2
      refine TC.mono ?_
      clear TC
      rintro e w7 ⟨rfl, b7⟩
      have B7 := H6.out.1.trans (b7.mono H6.out.1.size)
      have H7 := Lib.hid (And.intro B7 (And.intro (H6.out.2.1.below b7) (H6.out.2.2.below b7)))
      clear B7 b7
      go_wp2_with fail
      have TC := rtext_at (H0.out.2.2.1.below H7.out.1) H0.out.2.2.2.2.2
      refine TC.mono ?_
      clear TC
      rintro e w8 ⟨rfl, b8⟩
      have B8 := H7.out.1.trans (b8.mono H7.out.1.size)
      have hl5 : (aL es er).length ≤ 2000 := by
        have h2 := split_len HS.out.1
        have h3 := H0.out.2.2.2.2.1
        unfold aL
        split
        · omega
        · simp
      have TS := same_at (H7.out.2.1.below b8) (H7.out.2.2.below b8) (by omega) (by omega)
      rw [decide_eq_true rfl, ← HN5.out] at TS
      have H8 := Lib.hid (And.intro B8 TS)
      clear B8 b8 TS
      go_wp2_with fail
      refine H8.out.2.mono ?_
      rintro e w9 ⟨rfl, b9⟩
      have H9 := Lib.hid (H8.out.1.trans (b9.mono H8.out.1.size))
      clear b9
      go_wp2_with (go_at_call 16; refine (works_at (H0.out.2.2.2.1.below H9.out)).mono ?_; rintro e wA ⟨rfl, bb⟩; replace bb := Lib.hid (H9.out.trans (bb.mono H9.out.size)))
      all_goals go_ret
      all_goals exact ⟨rfl, bb.out⟩
end Go.Proofs.YtbfikbojhmfdpaaDoor
