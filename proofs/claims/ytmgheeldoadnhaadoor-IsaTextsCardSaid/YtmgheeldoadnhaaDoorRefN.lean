/- Contracts: the document's Parse. Conditions: none. -/
import Derived.Test.YtmgheeldoadnhaaDoorRefM
import Derived.Test.YtmgheeldoadnhaaDoorRefJ
namespace Go.Proofs.YtmgheeldoadnhaaDoor
open Go.RowKit

theorem par_zero {l : List UInt8} (h : pOk l = false) : Par l (.returned (.tuple #[.agg #[.int .i64 0, .int .i64 0, .int .i64 0, .int .i64 0, .int .i64 0], .int .i64 11])) := par_bad h
theorem pok_long {l : List UInt8} (h : 60 < l.length) : pOk l = false := by
  cases hp : pOk l
  · rfl
  · have := (pok_hit hp).2.2.2; omega

set_option maxRecDepth 100000 in
set_option maxHeartbeats 4000000 in
theorem rparse_long (s : ByteArray) (w : World) (hs : 60 < s.size) (hm : s.size ≤ 1000) :
    Calls Tryd.prog 26 #[.string s] w fun e w' => Par s.data.toList e ∧ Below w.heap.size w w' := by
  have HP := Lib.hid (par_zero (pok_long (l := s.data.toList) (by rw [Array.length_toList]; exact hs)))
  have hs2 : (60 : Int) < (s.size : Int) := by omega
  go_enter Tryd.func26, Tryd.ntmps26
  go_wp2_with fail
  refine bodyPost_ret (v := .tuple #[.agg #[.int .i64 0, .int .i64 0, .int .i64 0, .int .i64 0, .int .i64 0], .int .i64 11]) (by simp [results, Tryd.results26, go_sem]) rfl ⟨HP.out, ?_⟩
  exact (Below.refl _ _).alloc (Nat.le_refl _) _


theorem q_yes {ws : List (List UInt8)} {k : Nat} (hk : k < ws.length) : qStep true ws k = (numL (ws.getD k []), k + 1) := by unfold qStep; rw [if_pos ⟨rfl, hk⟩]
theorem q_some {x : Bool} {ws : List (List UInt8)} {cur : Array Value} {k n : Nat} {wd : List UInt8} (hx : Hid (x = true)) (hw : Hid (wd = ws.getD k [])) (hc : Hid (cur.toList.take n = strL ws ∧ ws.length = n)) (hk : k < n) : Hid (qStep x ws k = (numL wd, k + 1)) := by
  have h1 := hx.out; have h2 := hw.out; have h3 := hc.out.2
  subst h1 h2 h3
  exact q_yes hk
theorem q_no {ws : List (List UInt8)} {x : Bool} {k : Nat} (h : x = false ∨ ws.length ≤ k) : qStep x ws k = (0, k) := by
  unfold qStep; rw [if_neg]; rintro ⟨h1, h2⟩; rcases h with h | h
  · rw [h] at h1; cases h1
  · omega

theorem q_all {l : List UInt8} {ws : List (List UInt8)} {m d a b imm : Int} {x0 x1 x2 x3 : Bool} {k0 k1 k2 k3 : Nat} (hw : Hid (ws = splitL l []))
    (hs : Hid (Isa.shape (Isa.form m) 0 = x0 ∧ Isa.shape (Isa.form m) 1 = x1 ∧ Isa.shape (Isa.form m) 2 = x2 ∧ Isa.shape (Isa.form m) 3 = x3)) (hk : Hid (k0 = 1))
    (h1 : Hid (qStep x0 ws k0 = (d, k1))) (h2 : Hid (qStep x1 ws k1 = (a, k2))) (h3 : Hid (qStep x2 ws k2 = (b, k3))) (h4 : Hid ((qStep x3 ws k3).1 = imm)) :
    Hid ((q1 m l).1 = d ∧ (q2 m l).1 = a ∧ (q3 m l).1 = b ∧ (q4 m l).1 = imm) := by
  obtain ⟨s0, s1, s2, s3⟩ := hs.out
  have hw := hw.out; have hk := hk.out; have h1 := h1.out; have h2 := h2.out; have h3 := h3.out; have h4 := h4.out
  subst hw hk
  have e1 : q1 m l = (d, k1) := by unfold q1; rw [s0, h1]
  have e2 : q2 m l = (a, k2) := by unfold q2; rw [s1, e1, h2]
  have e3 : q3 m l = (b, k3) := by unfold q3; rw [s2, e2, h3]
  have e4 : (q4 m l).1 = imm := by unfold q4; rw [s3, e3, h4]
  exact ⟨by rw [e1], by rw [e2], by rw [e3], e4⟩
theorem q_none {x : Bool} {ws : List (List UInt8)} {cur : Array Value} {k n : Nat} (ht : Hid (false = true ↔ x = true ∧ k < n)) (hc : Hid (cur.toList.take n = strL ws ∧ ws.length = n)) : Hid (qStep x ws k = (0, k)) := by
  have h := ht.out; have h3 := hc.out.2
  refine q_no ?_
  cases x
  · exact .inl rfl
  · right
    have : ¬ (k < n) := fun hk => by cases h.2 ⟨rfl, hk⟩
    omega

set_option maxRecDepth 100000 in
set_option maxHeartbeats 8000000 in
theorem rparse_short (s : ByteArray) (w : World) (hs : s.size ≤ 60) :
    Calls Tryd.prog 26 #[.string s] w fun e w' => Par s.data.toList e ∧ Below w.heap.size w w' := by
  have hs2 : (s.size : Int) ≤ 60 := by omega
  obtain ⟨l, hl⟩ : ∃ l, l = s.data.toList := ⟨_, rfl⟩
  have hll : l.length ≤ 60 := by rw [hl, Array.length_toList]; exact hs
  have HL := Lib.hid hl
  rw [← hl]
  clear hl
  go_enter Tryd.func26, Tryd.ntmps26
  go_wp2_with fail
  refine (rwords_any s _ hs).mono ?_
  rintro e w1 ⟨v, rfl, hrow, hb⟩
  rw [← HL.out] at hrow
  obtain ⟨ws, hws⟩ : ∃ ws, ws = splitL l [] := ⟨_, rfl⟩
  rw [← hws] at hrow
  have hn0 : 0 < ws.length := by rw [hws]; exact split_pos l []
  have hn1 : ws.length ≤ 61 := by have := split_len l []; rw [hws]; omega
  obtain ⟨g, cap, cur, rfl, hg, hgb, hcur⟩ := srow_shape hrow hn0
  obtain ⟨n, hn⟩ : ∃ n, ws.length = n := ⟨_, rfl⟩
  rw [hn] at hn0 hn1 hcur ⊢
  have HC := Lib.hid (And.intro hcur hn)
  have HW := Lib.hid hws
  have hwl : ∀ k, (ws.getD k []).length ≤ 60 := fun k => by have := word_len l [] k; rw [hws]; rw [List.length_nil, Nat.add_zero] at this; exact Nat.le_trans this hll
  have HWL := Lib.hid hwl
  clear hrow hcur hn hws hwl
  have p0 : Pw w w.heap.size g cur w1 := by
    have hz := hb.size
    have hA := (hb.block w.heap.size (by simp)).trans (heap_new w (.cells #[.int .i64 0, .int .i64 0, .int .i64 0, .int .i64 0, .int .i64 0] 27))
    simp at hg hz
    exact ⟨(Below.alloc (Below.refl w.heap.size w) (Nat.le_refl _) _).trans (hb.mono (by simp)), hA, hgb, Nat.le_refl _, by omega, lt_of_block hgb⟩
  clear hb hg hgb
  obtain ⟨A, hA⟩ : ∃ A, A = w.heap.size := ⟨_, rfl⟩
  rw [← hA] at p0 ⊢
  have HA := Lib.hid hA
  clear hA
  go_wp2_with fail
  go_loopg [5] 36 (fun gg s5 wr => ∃ m : Nat, 1 ≤ m ∧ m ≤ 37 ∧ gg = 37 - m ∧ s5 = .int .i64 m ∧ Pw w A g cur wr ∧ Hid (∀ i : Nat, 1 ≤ i → i < m → ¬ Hit (i : Int) l))
  case atStart => exact ⟨1, by decide, by decide, rfl, rfl, p0, fun i h1 h2 => by omega⟩
  case round =>
    obtain ⟨m, m1, m2, rfl, rfl, pw, HI⟩ := hrel
    clear p0
    obtain ⟨⟨a0, a1, a2, a3, a4⟩, b0, b1, b2, b3, b4⟩ := pw.facts
    have hw0 := pw.cell HC 0 hn0
    by_cases hm : m ≤ 36
    · have hm2 : (m : Int) ≤ 36 := by omega
      have hwlen := HWL.out 0
      obtain ⟨w0, hw0e⟩ : ∃ x, x = ws.getD 0 [] := ⟨_, rfl⟩
      obtain ⟨nm, hnm⟩ : ∃ x, x = Isa.nameL m := ⟨_, rfl⟩
      have HN := Lib.hid (And.intro hw0e hnm)
      rw [← hw0e] at hw0 hwlen
      clear hw0e hnm
      go_wp2_with fail
      go_quiet ((go_at_call 14; exact Calls.quiet_of_same ((rname_at m _ m1 hm).mono fun _ _ ⟨he, hw⟩ => ⟨by rw [he, ← HN.out.2], hw⟩)))
      replace pw := pw.drewN nq
      obtain ⟨wd, hwd⟩ : ∃ wd, wd = wr.drewN nq := ⟨_, rfl⟩
      rw [← hwd] at pw ⊢
      clear hwd hw0 a0 a1 a2 a3 a4 b0 b1 b2 b3 b4
      go_upto_region 10 with fail
      · have ht : (!nm == w0) = true := by assumption
        have hname : nm ≠ w0 := by simpa using ht
        go_roundg (37 - (m + 1))
        case measure => omega
        case rel =>
          refine ⟨m + 1, by omega, by omega, rfl, by go_num, pw, ?_⟩
          intro i i1 i2
          by_cases him : i = m
          · rw [him]
            exact fun h => hname (by rw [HN.out.2, HN.out.1, HW.out]; exact h.1)
          · exact HI.out i i1 (by omega)
      · have ht : (!nm == w0) = false := by assumption
        have hname : nm = w0 := by simpa using ht
        have HNM := Lib.hid hname
        clear ht hname
        have px0 : Px w A g wd.heap.size cur m 0 0 0 0 (wd.alloc (.cells #[.int .i64 m, .int .i64 0, .int .i64 0, .int .i64 0, .int .i64 0] 27)) :=
          ⟨pw.grow ((Below.refl _ _).alloc (Nat.le_refl _) _), heap_new _ _, pw.l2, by simp⟩
        obtain ⟨wa, hwa⟩ : ∃ wa, wa = wd.alloc (.cells #[.int .i64 m, .int .i64 0, .int .i64 0, .int .i64 0, .int .i64 0] 27) := ⟨_, rfl⟩
        rw [← hwa] at px0 ⊢
        obtain ⟨X, hX⟩ : ∃ X, X = wd.heap.size := ⟨_, rfl⟩
        rw [← hX] at px0 ⊢
        clear hwa hX pw
        obtain ⟨x0, h0⟩ : ∃ x, Isa.shape (Isa.form m) 0 = x := ⟨_, rfl⟩
        obtain ⟨x1, h1⟩ : ∃ x, Isa.shape (Isa.form m) 1 = x := ⟨_, rfl⟩
        obtain ⟨x2, h2⟩ : ∃ x, Isa.shape (Isa.form m) 2 = x := ⟨_, rfl⟩
        obtain ⟨x3, h3⟩ : ∃ x, Isa.shape (Isa.form m) 3 = x := ⟨_, rfl⟩
        obtain ⟨nb, hnb⟩ : ∃ nb : Nat, nb = nbN (Isa.form m) := ⟨_, rfl⟩
        have HB : Hid (immBits (Isa.form m) = nb ∧ decide (0 < nb) = x3) := ⟨by rw [hnb]; exact immBits_nb _, by rw [hnb, imm_has, h3]⟩
        have HS := Lib.hid (And.intro h0 (And.intro h1 (And.intro h2 h3)))
        clear h0 h1 h2 h3 hnb
        obtain ⟨k0, hk0⟩ : ∃ k : Nat, k = 1 := ⟨_, rfl⟩
        have HK0 := Lib.hid hk0
        have kb0 : k0 ≤ 1 := by omega
        rw [show (Value.int .i64 1) = .int .i64 (k0 : Nat) by rw [hk0]; rfl]
        clear hk0
        go_upto_region 10 with fail
        go_cut [33] (fun c wx => wx = wa ∧ ∃ t : Bool, c = .bool t ∧ Hid (t = true ↔ x0 = true ∧ k0 < n))
        case first =>
          cases x0
          · go_wp2_with (go_at_call 36; refine (hasD_val _ _ _ HS.out.1).mono ?_; rintro e w' ⟨rfl, rfl⟩)
            go_meet
            case rel => exact ⟨rfl, false, rfl, by simp [Hid]⟩
          · go_wp2_with (go_at_call 36; refine (hasD_val _ _ _ HS.out.1).mono ?_; rintro e w' ⟨rfl, rfl⟩)
            go_meet
            case rel => exact ⟨rfl, decide (k0 < n), rfl, by simp [Hid]⟩
        obtain ⟨rfl, t, rfl, HT⟩ := hcut
        go_upto_if 33 with fail
        go_cut [7] (fun u wx => ∃ (d : Int) (k : Nat), u = .int .i64 k ∧ k ≤ 2 ∧ Hid (qStep x0 ws k0 = (d, k)) ∧ Px w A g X cur m d 0 0 0 wx)
        case first =>
          obtain ⟨c0, c1, c2, c3, c4, f1, f2, f3, f4⟩ := px0.facts
          cases t
          · go_wp2_with fail
            go_meet
            case rel => exact ⟨0, k0, rfl, by omega, q_none HT HC, px0⟩
          · have hkn : k0 < n := (HT.out.1 rfl).2
            have hc := px0.top.cell HC k0 hkn
            have hwl := HWL.out k0
            have HX0 : Hid (x0 = true) := (HT.out.1 rfl).1
            obtain ⟨wd1, hwd⟩ : ∃ x, x = ws.getD k0 [] := ⟨_, rfl⟩
            rw [← hwd] at hc hwl
            have HWD := Lib.hid hwd
            clear hwd
            go_wp2_with (go_at_call 51; refine (number_at _ _ hwl).mono ?_; rintro e w' ⟨rfl, rfl⟩)
            go_meet
            case rel => exact ⟨numL wd1, k0 + 1, by go_num, by omega, q_some HX0 HWD HC hkn, px0.store 1 (numL wd1) (by decide) rfl⟩
        obtain ⟨d, k1, rfl, kb1, HQ1, px1⟩ := hcut
        obtain ⟨wc1, hwc⟩ : ∃ x, x = wc := ⟨_, rfl⟩
        rw [← hwc] at px1 ⊢
        clear hwc
        go_upto_region 13 with fail
        go_cut [49] (fun c wx => wx = wc1 ∧ ∃ t : Bool, c = .bool t ∧ Hid (t = true ↔ x1 = true ∧ k1 < n))
        case first =>
          cases x1
          · go_wp2_with (go_at_call 37; refine (hasA_val _ _ _ HS.out.2.1).mono ?_; rintro e w' ⟨rfl, rfl⟩)
            go_meet
            case rel => exact ⟨rfl, false, rfl, by simp [Hid]⟩
          · go_wp2_with (go_at_call 37; refine (hasA_val _ _ _ HS.out.2.1).mono ?_; rintro e w' ⟨rfl, rfl⟩)
            go_meet
            case rel => exact ⟨rfl, decide (k1 < n), rfl, by simp [Hid]⟩
        obtain ⟨rfl, t, rfl, HT⟩ := hcut
        go_upto_if 49 with fail
        go_cut [7] (fun u wx => ∃ (a : Int) (k : Nat), u = .int .i64 k ∧ k ≤ 3 ∧ Hid (qStep x1 ws k1 = (a, k)) ∧ Px w A g X cur m d a 0 0 wx)
        case first =>
          obtain ⟨c0, c1, c2, c3, c4, f1, f2, f3, f4⟩ := px1.facts
          cases t
          · go_wp2_with fail
            go_meet
            case rel => exact ⟨0, k1, rfl, by omega, q_none HT HC, px1⟩
          · have hkn : k1 < n := (HT.out.1 rfl).2
            have hc := px1.top.cell HC k1 hkn
            have hwl := HWL.out k1
            have HX1 : Hid (x1 = true) := (HT.out.1 rfl).1
            obtain ⟨wd1, hwd⟩ : ∃ x, x = ws.getD k1 [] := ⟨_, rfl⟩
            rw [← hwd] at hc hwl
            have HWD := Lib.hid hwd
            clear hwd
            go_wp2_with (go_at_call 51; refine (number_at _ _ hwl).mono ?_; rintro e w' ⟨rfl, rfl⟩)
            go_meet
            case rel => exact ⟨numL wd1, k1 + 1, by go_num, by omega, q_some HX1 HWD HC hkn, px1.store 2 (numL wd1) (by decide) rfl⟩
        obtain ⟨a, k2, rfl, kb2, HQ2, px2⟩ := hcut
        obtain ⟨wc2, hwc⟩ : ∃ x, x = wc := ⟨_, rfl⟩
        rw [← hwc] at px2 ⊢
        clear hwc
        go_upto_region 16 with fail
        go_cut [65] (fun c wx => wx = wc2 ∧ ∃ t : Bool, c = .bool t ∧ Hid (t = true ↔ x2 = true ∧ k2 < n))
        case first =>
          cases x2
          · go_wp2_with (go_at_call 38; refine (hasB_val _ _ _ HS.out.2.2.1).mono ?_; rintro e w' ⟨rfl, rfl⟩)
            go_meet
            case rel => exact ⟨rfl, false, rfl, by simp [Hid]⟩
          · go_wp2_with (go_at_call 38; refine (hasB_val _ _ _ HS.out.2.2.1).mono ?_; rintro e w' ⟨rfl, rfl⟩)
            go_meet
            case rel => exact ⟨rfl, decide (k2 < n), rfl, by simp [Hid]⟩
        obtain ⟨rfl, t, rfl, HT⟩ := hcut
        go_upto_if 65 with fail
        go_cut [7] (fun u wx => ∃ (b : Int) (k : Nat), u = .int .i64 k ∧ k ≤ 4 ∧ Hid (qStep x2 ws k2 = (b, k)) ∧ Px w A g X cur m d a b 0 wx)
        case first =>
          obtain ⟨c0, c1, c2, c3, c4, f1, f2, f3, f4⟩ := px2.facts
          cases t
          · go_wp2_with fail
            go_meet
            case rel => exact ⟨0, k2, rfl, by omega, q_none HT HC, px2⟩
          · have hkn : k2 < n := (HT.out.1 rfl).2
            have hc := px2.top.cell HC k2 hkn
            have hwl := HWL.out k2
            have HX2 : Hid (x2 = true) := (HT.out.1 rfl).1
            obtain ⟨wd1, hwd⟩ : ∃ x, x = ws.getD k2 [] := ⟨_, rfl⟩
            rw [← hwd] at hc hwl
            have HWD := Lib.hid hwd
            clear hwd
            go_wp2_with (go_at_call 51; refine (number_at _ _ hwl).mono ?_; rintro e w' ⟨rfl, rfl⟩)
            go_meet
            case rel => exact ⟨numL wd1, k2 + 1, by go_num, by omega, q_some HX2 HWD HC hkn, px2.store 3 (numL wd1) (by decide) rfl⟩
        obtain ⟨b, k3, rfl, kb3, HQ3, px3⟩ := hcut
        obtain ⟨wc3, hwc⟩ : ∃ x, x = wc := ⟨_, rfl⟩
        rw [← hwc] at px3 ⊢
        clear hwc
        go_upto_region 19 with fail
        go_cut [82] (fun c wx => wx = wc3 ∧ ∃ t : Bool, c = .bool t ∧ Hid (t = true ↔ x3 = true ∧ k3 < n))
        case first =>
          cases x3
          · have hb0 : (nb : Int) ≤ 0 := by have := HB.out.2; simp at this; omega
            go_wp2_with (go_at_call 39; refine (bits_val nb _ _ HB.out.1).mono ?_; rintro e w' ⟨rfl, rfl⟩)
            go_meet
            case rel => exact ⟨rfl, false, rfl, by simp [Hid]⟩
          · have hb0 : 0 < (nb : Int) := by have := HB.out.2; simp at this; omega
            go_wp2_with (go_at_call 39; refine (bits_val nb _ _ HB.out.1).mono ?_; rintro e w' ⟨rfl, rfl⟩)
            go_meet
            case rel => exact ⟨rfl, decide (k3 < n), rfl, by simp [Hid]⟩
        obtain ⟨rfl, t, rfl, HT⟩ := hcut
        go_upto_if 82 with fail
        go_cut [7] (fun u wx => ∃ (imm : Int) (k : Nat), u = .int .i64 k ∧ k ≤ 5 ∧ Hid ((qStep x3 ws k3).1 = imm) ∧ Px w A g X cur m d a b imm wx)
        case first =>
          obtain ⟨c0, c1, c2, c3, c4, f1, f2, f3, f4⟩ := px3.facts
          cases t
          · go_wp2_with fail
            go_meet
            case rel => exact ⟨0, k3, rfl, by omega, by have := (q_none HT HC).out; unfold Hid; rw [this], px3⟩
          · have hkn : k3 < n := (HT.out.1 rfl).2
            have hc := px3.top.cell HC k3 hkn
            have hwl := HWL.out k3
            have HX3 : Hid (x3 = true) := (HT.out.1 rfl).1
            obtain ⟨wd1, hwd⟩ : ∃ x, x = ws.getD k3 [] := ⟨_, rfl⟩
            rw [← hwd] at hc hwl
            have HWD := Lib.hid hwd
            clear hwd
            go_wp2_with (go_at_call 51; refine (number_at _ _ hwl).mono ?_; rintro e w' ⟨rfl, rfl⟩)
            go_meet
            case rel => exact ⟨numL wd1, k3, rfl, by omega, by have := (q_some HX3 HWD HC hkn).out; unfold Hid; rw [this], px3.store 4 (numL wd1) (by decide) rfl⟩
        obtain ⟨imm, k4, rfl, kb4, HQ4, px4⟩ := hcut
        obtain ⟨wc4, hwc⟩ : ∃ x, x = wc := ⟨_, rfl⟩
        rw [← hwc] at px4 ⊢
        clear hwc
        have HF := q_all HW HS HK0 HQ1 HQ2 HQ3 HQ4
        clear HQ1 HQ2 HQ3 HQ4 kb0 kb1 kb2 kb3 kb4
        obtain ⟨T, hT⟩ : ∃ T, T = Isa.txt m d a b imm := ⟨_, rfl⟩
        have HT := Lib.hid hT
        clear hT
        obtain ⟨c0, c1, c2, c3, c4, f1, f2, f3, f4⟩ := px4.facts
        go_wp2_with fail
        refine (rtext_any m d a b imm _).mono ?_
        rintro e w5 ⟨rfl, hb⟩
        rw [← HT.out]
        replace px4 := px4.grow hb
        clear hb c0 c1 c2 c3 c4 f1 f2 f3 f4
        obtain ⟨c0, c1, c2, c3, c4, f1, f2, f3, f4⟩ := px4.facts
        obtain ⟨⟨a0, a1, a2, a3, a4⟩, b0, b1, b2, b3, b4⟩ := px4.top.facts
        go_wp2_with fail
        · have ht : (T == s.toList) = true := by assumption
          have hTl : T = l := by rw [HL.out, ← ByteArray.toList_eq]; simpa using ht
          have hhit : Hit (m : Int) l := by
            obtain ⟨e1, e2, e3, e4⟩ := HF.out
            refine ⟨?_, by rw [e1, e2, e3, e4, ← HT.out, hTl]⟩
            rw [Int.toNat_natCast, ← HW.out, ← HN.out.2, ← HN.out.1, HNM.out]
          have HP := Lib.hid (hit_par hhit (by omega) (by omega))
          clear ht hTl hhit
          obtain ⟨b5, h5⟩ := store5 (x0 := .int .i64 m) (x1 := .int .i64 d) (x2 := .int .i64 a) (x3 := .int .i64 b) (x4 := .int .i64 imm) px4.top.below px4.top.res px4.top.le
          obtain ⟨wz, hw⟩ : ∃ wz, wz = ((((w5.setCell ⟨A, 0, none⟩ (.int .i64 m)).setCell ⟨A, 1, none⟩ (.int .i64 d)).setCell ⟨A, 2, none⟩ (.int .i64 a)).setCell ⟨A, 3, none⟩ (.int .i64 b)).setCell ⟨A, 4, none⟩ (.int .i64 imm) := ⟨_, rfl⟩
          rw [← hw] at b5 h5 ⊢
          clear hw
          obtain ⟨g0, g1, g2, g3, g4⟩ := cells5 h5
          refine bodyPost_ret (v := .tuple #[.agg #[.int .i64 m, .int .i64 d, .int .i64 a, .int .i64 b, .int .i64 imm], .int .i64 0]) (by simp [results, Tryd.results26, go_sem, g0, g1, g2, g3, g4]) rfl ⟨?_, b5⟩
          obtain ⟨hp, r0, r1, r2, r3, r4⟩ := HP.out
          obtain ⟨e1, e2, e3, e4⟩ := HF.out
          have := par_ok hp
          rw [r0, r1, r2, r3, r4, e1, e2, e3, e4] at this
          exact this
        · have ht : (T == s.toList) = false := by assumption
          have hTl : T ≠ l := by rw [HL.out, ← ByteArray.toList_eq]; simpa using ht
          go_roundg (37 - (m + 1))
          case measure => omega
          case rel =>
            refine ⟨m + 1, by omega, by omega, rfl, by go_num, px4.top, ?_⟩
            intro i i1 i2
            by_cases him : i = m
            · rw [him]
              intro h
              obtain ⟨e1, e2, e3, e4⟩ := HF.out
              have := h.2
              rw [e1, e2, e3, e4, ← HT.out] at this
              exact hTl this
            · exact HI.out i i1 (by omega)
    · have hm2 : m = 37 := by omega
      subst hm2
      go_wp2_with fail
      obtain ⟨b5, h5⟩ := store5 (x0 := .int .i64 0) (x1 := .int .i64 0) (x2 := .int .i64 0) (x3 := .int .i64 0) (x4 := .int .i64 0) pw.below pw.res pw.le
      obtain ⟨wz, hw⟩ : ∃ wz, wz = ((((wr.setCell ⟨A, 0, none⟩ (.int .i64 0)).setCell ⟨A, 1, none⟩ (.int .i64 0)).setCell ⟨A, 2, none⟩ (.int .i64 0)).setCell ⟨A, 3, none⟩ (.int .i64 0)).setCell ⟨A, 4, none⟩ (.int .i64 0) := ⟨_, rfl⟩
      rw [← hw] at b5 h5 ⊢
      clear hw
      obtain ⟨g0, g1, g2, g3, g4⟩ := cells5 h5
      refine bodyPost_ret (v := .tuple #[.agg #[.int .i64 0, .int .i64 0, .int .i64 0, .int .i64 0, .int .i64 0], .int .i64 11]) (by simp [results, Tryd.results26, go_sem, g0, g1, g2, g3, g4]) rfl ⟨par_bad ?_, b5⟩
      cases hp : pOk l
      · rfl
      · exfalso
        obtain ⟨o1, o2, hh, -⟩ := pok_hit hp
        refine HI.out (pOp l).toNat (by omega) (by omega) ?_
        rw [show (((pOp l).toNat : Nat) : Int) = pOp l by omega]
        exact hh

theorem rparse_any (s : ByteArray) (w : World) (hm : s.size ≤ 1000) :
    Calls Tryd.prog 26 #[.string s] w fun e w' => Par s.data.toList e ∧ Below w.heap.size w w' := by
  by_cases h : s.size ≤ 60
  · exact rparse_short s w h
  · exact rparse_long s w (by omega) hm
end Go.Proofs.YtmgheeldoadnhaaDoor
