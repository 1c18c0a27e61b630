/- Contracts: strings. Conditions: none. -/
import Derived.Test.YtgnnkfdpfmlajaaDoorLxBc
import Derived.Laws.Cover4
import Derived.Lib.AppendZeros
namespace Go.Proofs.YtgnnkfdpfmlajaaDoor
open Go.RowKit Bg Lx
set_option linter.unusedVariables false
set_option linter.unusedSimpArgs false

/-- What a string comes to, from a place behind its mark on. -/
def strR (s : Sit) (f k : Nat) (out : List Int) (ts : List Tk) : Rs :=
  if (str f k (s.l.drop k) out).2.2.1 = 0 then .go (str f k (s.l.drop k) out).2.1.toNat (ts ++ [datum 4 0 (str f k (s.l.drop k) out).1 f]) else .no (str f k (s.l.drop k) out).2.2.1 (str f k (s.l.drop k) out).2.2.2
theorem strR_end {s : Sit} {f k : Nat} {out : List Int} {ts : List Tk} (h : s.l.length ≤ k) : strR s f k out ts = .no 4 f := by
  unfold strR
  rw [List.drop_eq_nil_of_le h, str_end, if_neg (show ¬ (4 : Int) = 0 by decide)]
theorem strR_shut {s : Sit} {f k : Nat} {out : List Int} {ts : List Tk} (h : k < s.l.length) (h34 : s.l.getD k 0 = 34) : strR s f k out ts = .go (k + 1) (ts ++ [datum 4 0 out f]) := by
  unfold strR
  rw [str_shut _ _ _ (drop_ne h) (by rw [drop_head]; exact h34), if_pos rfl]
  congr 1
theorem strR_cut {s : Sit} {f k : Nat} {out : List Int} {ts : List Tk} (h : k + 1 = s.l.length) (h92 : s.l.getD k 0 = 92) : strR s f k out ts = .no 4 f := by
  unfold strR
  rw [str_cut _ _ _ (drop_ne (by omega)) (by rw [drop_head]; exact h92) (by rw [List.length_drop]; omega), if_neg (show ¬ (4 : Int) = 0 by decide)]
theorem strR_bad {s : Sit} {f k : Nat} {out : List Int} {ts : List Tk} (hb : Byts s.l) (h : k < s.l.length) (h34 : s.l.getD k 0 ≠ 34) (h92 : s.l.getD k 0 = 92 → k + 1 < s.l.length) (ht : tch (s.l.drop k) = none) : strR s f k out ts = .no 4 k := by
  unfold strR
  rw [str_tch _ _ _ _ (hb.drop k) (drop_ne h) (by rw [drop_head]; exact h34) (by rw [drop_head, List.length_drop]; intro e; have := h92 e; omega), ht]
  rfl
theorem strR_step {s : Sit} {f k n : Nat} {c : Int} {out : List Int} {ts : List Tk} (hb : Byts s.l) (h : k < s.l.length) (h34 : s.l.getD k 0 ≠ 34) (h92 : s.l.getD k 0 = 92 → k + 1 < s.l.length) (ht : tch (s.l.drop k) = some (c, n)) : strR s f k out ts = strR s f (k + n) (out ++ enc c) ts := by
  unfold strR
  rw [str_tch _ _ _ _ (hb.drop k) (drop_ne h) (by rw [drop_head]; exact h34) (by rw [drop_head, List.length_drop]; intro e; have := h92 e; omega), ht]
  simp only [List.drop_drop]
  rfl
theorem str_app (a b : List Int) : strOfNums a ++ strOfNums b = strOfNums (a ++ b) := by
  unfold strOfNums
  rw [List.map_append]
  apply ByteArray.ext
  simp
theorem runes_from : ∀ (cs : List Int) (a : List Int), AllC cs → cs.foldl (fun r n => r ++ Utf8.encode n) (strOfNums a) = strOfNums (a ++ flat cs)
  | [], a, _ => by rw [flat_nil, List.append_nil]; rfl
  | c :: cs, a, h => by
    rw [List.foldl_cons, utf_enc (h c (by simp)), str_app, runes_from cs _ (fun x hx => h x (by simp [hx])), flat_cons, List.append_assoc]
theorem runes_flat {cs : List Int} (h : AllC cs) : runesBytes cs = strOfNums (flat cs) := by
  have := runes_from cs [] h
  rw [List.nil_append] at this
  exact this
theorem kt32 : KT 70 21 .i32 4 := ⟨Tryd.underlying70, info_of (by kernel_rfl), by decide⟩
theorem conv_runes {B : Nat} {w : World} {v : Value} {cs : List Int} (h : Own 21 .i32 B w v cs) (hc : AllC cs) : (convert 70 9 v).run Tryd.prog w = .ok (.string (strOfNums (flat cs))) w := by
  obtain ⟨p, c, rfl, a, hp⟩ := h.arg
  rcases hp with rfl | ⟨g, rfl, -, -⟩
  · rw [(a.nil rfl).1]
    exact run_convert_runes_nil w 70 9 21 _ _ Tryd.underlying70 Tryd.underlying21 Tryd.underlying9
  · have := run_convert_runes (P := Tryd.prog) w 70 9 21 ⟨g, 0, none⟩ cs.length c cs (Nat.le_refl _) Tryd.underlying70 Tryd.underlying21 Tryd.underlying9 (fun j hj => by rw [add_at, Nat.zero_add]; exact h.cell j hj)
    rw [this, List.take_of_length_le (Nat.le_refl _), runes_flat hc]
theorem allc_app {cs : List Int} {c : Int} (h : AllC cs) (hc : isC c = true) : AllC (cs ++ [c]) := fun x hx => by
  rcases List.mem_append.1 hx with hx | hx
  · exact h x hx
  · simp at hx
    rw [hx]
    exact hc
set_option maxRecDepth 100000 in
set_option maxHeartbeats 8000000 in
theorem text_at {s : Sit} {f : Nat} {ts : List Tk} {w : World} (h : St s f ts w) (hf : f < s.l.length) :
    Calls Tryd.prog 40 #[.pointer (some ⟨s.b, 0, none⟩)] w (Fin s w (strR s f (f + 1) [] ts)) := by
  obtain ⟨V, hV⟩ : ∃ V, V = strR s f (f + 1) [] ts := ⟨_, rfl⟩
  rw [← hV]
  obtain ⟨W0, hW0⟩ : ∃ W, W = w.alloc (.cells #[.int .i64 0, .int .i64 0] 27) := ⟨_, rfl⟩
  have D0 := Rd.new h
  rw [← hW0] at D0
  obtain ⟨R, hR⟩ : ∃ R, R = w.heap.size := ⟨_, rfl⟩
  rw [← hR] at D0
  have HD := Lib.hid (And.intro D0 (And.intro hV h.byts))
  have hlen := h.len
  have c1 := D0.st.cell.2.1
  have hw1 : IntKind.i64.wrap ((f : Int) + 1) = (f : Int) + 1 := by rw [wrap_small _ (by omega) (by omega)]
  clear h D0 hV
  go_enter Tryd.func40, Tryd.ntmps40
  go_upto_region 1 with fail
  rw [← hW0, ← hR]
  clear hW0 hR
  go_wp2_with fail
  clear c1 hw1
  go_loopw [3, 4, 5, 6] (fun v t _ _ wr => ∃ (k : Nat) (cs : List Int), t = .int .i64 k ∧ f < k ∧ k ≤ s.l.length ∧ Hid (Below W0.heap.size W0 wr ∧ Own 21 .i32 W0.heap.size wr v cs ∧ AllC cs ∧ cs.length ≤ k ∧ strR s f k (flat cs) ts = V)) (fun _ t _ _ _ => s.l.length - (intOf t).toNat)
  case atStart => exact ⟨f + 1, [], rfl, Nat.lt_succ_self _, hf, Lib.hid ⟨Below.refl _ _, Own.nil _ _ _ _, fun c hc => (by cases hc), Nat.zero_le _, HD.out.2.1.symm⟩⟩
  case round =>
    obtain ⟨k, cs, rfl, hfk, hk, HK⟩ := hrel
    have D := HD.out.1.below HK.out.1
    have c0 := D.st.cell.1
    have c1 := D.st.cell.2.1
    have HDr := Lib.hid D
    by_cases hlt : k < s.l.length
    · have f1 : (k : Int) < (s.l.length : Int) := by omega
      have d1 : decide ((k : Int) < (s.l.length : Int)) = true := by rw [decide_eq_true_eq]; exact f1
      obtain ⟨b, off, hp, hcell⟩ := D.st.src.at (by omega)
      have hg := hcell k hlt
      rw [hp] at c0
      have hx := HD.out.2.2.getD k
      obtain ⟨x, hxe⟩ : ∃ x, x = s.l.getD k 0 := ⟨_, rfl⟩
      rw [← hxe] at hg hx
      have HX := Lib.hid hxe
      have hw1 : IntKind.i64.wrap ((k : Int) + 1) = (k : Int) + 1 := by rw [wrap_small _ (by omega) (by omega)]
      clear hcell hxe
      by_cases x34 : x = 34
      · subst x34
        have hv := HK.out.2.2.2.2
        rw [strR_shut hlt HX.out.symm] at hv
        have HV := Lib.hid hv
        have hcv := conv_runes HK.out.2.1 HK.out.2.2.1
        have T := datum_at D.st 4 0 (flat cs) (k + 1) (by omega) (by omega)
        have e1 : (((k + 1 : Nat)) : Int) = (k : Int) + 1 := by omega
        rw [e1] at T
        replace T := Lib.hid T
        clear hp hv D e1
        obtain ⟨sv, hsv⟩ : ∃ sv, sv = strOfNums (flat cs) := ⟨_, rfl⟩
        rw [← hsv] at T hcv
        clear hsv
        go_wp2_with fail
        refine T.out.mono ?_
        rintro e W2 ⟨rfl, hs2, hk2⟩
        have D2 := HDr.out.kept hk2 hs2
        obtain ⟨r0, r1, q0, q1, -⟩ := D2.rt.facts
        have rt := Lib.hid D2.rt
        have HE := Lib.hid D2
        clear hs2 hk2 D2 c0 c1 hg hcv
        go_wp2_with fail
        obtain ⟨wz, hwz⟩ : ∃ wz, wz = (W2.setCell ⟨R, 0, none⟩ (.int .i64 (0))).setCell ⟨R, 1, none⟩ (.int .i64 (0)) := ⟨_, rfl⟩
        have z := ret_two rt.out (0) (0)
        rw [← hwz] at z
        try rw [← hwz]
        refine bodyPost_ret (v := (.agg #[.int .i64 (0), .int .i64 (0)])) (by simp [results, Tryd.results40, go_sem, z.1, z.2]) rfl ?_
        rw [← HV.out]
        exact HE.out.go hwz
      · have y34 : (x == 34) = false := by rw [beq_eq_false_iff_ne]; exact x34
        by_cases hcut : x = 92 ∧ k + 1 = s.l.length
        · obtain ⟨x92, hkl⟩ := hcut
          have y92 : (x == 92) = true := by rw [beq_iff_eq]; exact x92
          have hv := HK.out.2.2.2.2
          rw [strR_cut hkl (by rw [← HX.out]; exact x92)] at hv
          have HV := Lib.hid hv
          have z1 : (((k : Int) + 1) == (s.l.length : Int)) = true := by rw [beq_iff_eq]; omega
          have z2 : (k : Int) + 1 = (s.l.length : Int) := by omega
          have T := Lib.hid (fun W => form_at (f : Int) W)
          clear hp hv D hw1
          subst x92
          have hw1 : IntKind.i64.wrap ((k : Int) + 1) = (s.l.length : Int) := by rw [wrap_small _ (by omega) (by omega)]; exact z2
          clear z1 hkl
          go_wp2_with fail
          refine (T.out _).mono ?_
          rintro e W2 ⟨rfl, hb⟩
          have D2 := HDr.out.below hb
          obtain ⟨r0, r1, q0, q1, -⟩ := D2.rt.facts
          have rt := Lib.hid D2.rt
          have HE := Lib.hid D2
          clear hb D2
          go_wp2_with fail
          obtain ⟨wz, hwz⟩ : ∃ wz, wz = (W2.setCell ⟨R, 0, none⟩ (.int .i64 (4))).setCell ⟨R, 1, none⟩ (.int .i64 (f)) := ⟨_, rfl⟩
          have z := ret_two rt.out (4) (f)
          rw [← hwz] at z
          try rw [← hwz]
          refine bodyPost_ret (v := (.agg #[.int .i64 (4), .int .i64 (f)])) (by simp [results, Tryd.results40, go_sem, z.1, z.2]) rfl ?_
          rw [← HV.out]
          exact HE.out.fault.no hwz (by decide)
        · have h92 : s.l.getD k 0 = 92 → k + 1 < s.l.length := fun e => by
            have e3 : ¬ k + 1 = s.l.length := fun e2 => hcut ⟨HX.out.trans e, e2⟩
            clear hw1
            omega
          have T1 := tchar_at D.st hlt h92
          have hv := HK.out.2.2.2.2
          cases ht : tch (s.l.drop k) with
          | none =>
            rw [ht] at T1
            rw [strR_bad HD.out.2.2 hlt (by rw [← HX.out]; exact x34) h92 ht] at hv
            have HV := Lib.hid hv
            have T := Lib.hid (fun W => form_at (k : Int) W)
            replace T1 := Lib.hid T1
            by_cases x92 : x = 92
            · have z2 : ¬ (k : Int) + 1 = (s.l.length : Int) := by have e3 : ¬ k + 1 = s.l.length := fun e2 => hcut ⟨x92, e2⟩; clear hw1; omega
              have z1 : (((k : Int) + 1) == (s.l.length : Int)) = false := by rw [beq_eq_false_iff_ne]; exact z2
              subst x92
              clear hp hv D ht h92 hcut x34 y34 hx
              go_wp2_with fail
              refine T1.out.mono ?_
              rintro e W1 ⟨he, hb1⟩
              have he' : e = .returned (.tuple #[.int .i32 0, .int .i64 0]) := he
              subst he'
              have HD1 := Lib.hid (HDr.out.below hb1)
              clear he hb1 c0 c1 hg z1 z2
              go_wp2_with fail
              refine (T.out _).mono ?_
              rintro e W2 ⟨rfl, hb⟩
              have D2 := HD1.out.below hb
              obtain ⟨r0, r1, q0, q1, -⟩ := D2.rt.facts
              have rt := Lib.hid D2.rt
              have HE := Lib.hid D2
              clear hb D2
              go_wp2_with fail
              obtain ⟨wz, hwz⟩ : ∃ wz, wz = (W2.setCell ⟨R, 0, none⟩ (.int .i64 (4))).setCell ⟨R, 1, none⟩ (.int .i64 (k)) := ⟨_, rfl⟩
              have z := ret_two rt.out (4) (k)
              rw [← hwz] at z
              try rw [← hwz]
              refine bodyPost_ret (v := (.agg #[.int .i64 (4), .int .i64 (k)])) (by simp [results, Tryd.results40, go_sem, z.1, z.2]) rfl ?_
              rw [← HV.out]
              exact HE.out.fault.no hwz (by decide)
            · have y92 : (x == 92) = false := by rw [beq_eq_false_iff_ne]; exact x92
              clear hp hv D ht h92 hcut hx
              go_wp2_with fail
              refine T1.out.mono ?_
              rintro e W1 ⟨he, hb1⟩
              have he' : e = .returned (.tuple #[.int .i32 0, .int .i64 0]) := he
              subst he'
              have HD1 := Lib.hid (HDr.out.below hb1)
              clear he hb1 c0 c1 hg x34 y34 x92 y92
              go_wp2_with fail
              refine (T.out _).mono ?_
              rintro e W2 ⟨rfl, hb⟩
              have D2 := HD1.out.below hb
              obtain ⟨r0, r1, q0, q1, -⟩ := D2.rt.facts
              have rt := Lib.hid D2.rt
              have HE := Lib.hid D2
              clear hb D2
              go_wp2_with fail
              obtain ⟨wz, hwz⟩ : ∃ wz, wz = (W2.setCell ⟨R, 0, none⟩ (.int .i64 (4))).setCell ⟨R, 1, none⟩ (.int .i64 (k)) := ⟨_, rfl⟩
              have z := ret_two rt.out (4) (k)
              rw [← hwz] at z
              try rw [← hwz]
              refine bodyPost_ret (v := (.agg #[.int .i64 (4), .int .i64 (k)])) (by simp [results, Tryd.results40, go_sem, z.1, z.2]) rfl ?_
              rw [← HV.out]
              exact HE.out.fault.no hwz (by decide)
          | some v =>
            obtain ⟨ch, n⟩ := v
            rw [ht] at T1
            rw [strR_step HD.out.2.2 hlt (by rw [← HX.out]; exact x34) h92 ht] at hv
            obtain ⟨hi, hn1, hn2⟩ := tch_ok (HD.out.2.2.drop k) (drop_ne hlt) (by rw [drop_head, List.length_drop]; intro e; have := h92 e; omega) ht
            rw [List.length_drop] at hn2
            have HV := Lib.hid (And.intro hv hi)
            have n0 : ((n : Int) == 0) = false := by rw [beq_eq_false_iff_ne]; omega
            have n2 : ¬ (n : Int) = 0 := by omega
            have hwn : IntKind.i64.wrap ((k : Int) + (n : Int)) = (k : Int) + (n : Int) := by rw [wrap_small _ (by omega) (by omega)]
            replace T1 := Lib.hid T1
            by_cases x92 : x = 92
            · have z2 : ¬ (k : Int) + 1 = (s.l.length : Int) := by have e3 : ¬ k + 1 = s.l.length := fun e2 => hcut ⟨x92, e2⟩; clear hw1; omega
              have z1 : (((k : Int) + 1) == (s.l.length : Int)) = false := by rw [beq_eq_false_iff_ne]; exact z2
              subst x92
              clear hp hv hi D ht h92 hcut x34 y34 hx
              go_wp2_with fail
              refine T1.out.mono ?_
              rintro e W1 ⟨he, hb1⟩
              have he' : e = .returned (.tuple #[.int .i32 ch, .int .i64 n]) := he
              subst he'
              obtain ⟨v2, w2, hr, ho, hb⟩ := app_two kt32 (x := ch) (HK.out.2.1.below hb1) (by have := HK.out.2.2.2.1; omega) (HK.out.1.trans (hb1.mono HK.out.1.size)).size
              have HR := Lib.hid (And.intro hr (And.intro ho ((HK.out.1.trans (hb1.mono HK.out.1.size)).trans hb)))
              clear he hr ho hb hb1 c0 c1 hg
              go_wp2_with (at_builtin; go_loud (refine Lib.wpList_append_run _ rfl _ _ 70 70 rfl u3 (.slice (some ⟨W1.heap.size, 0, none⟩) 1 1) rfl rfl v2 w2 HR.out.1 ?_))
              go_roundw
              case rel =>
                refine ⟨k + n, cs ++ [ch], rfl, by omega, by omega, Lib.hid ⟨HR.out.2.2, HR.out.2.1, allc_app HK.out.2.2.1 HV.out.2, by have := HK.out.2.2.2.1; simp; omega, ?_⟩⟩
                rw [flat_snoc]
                exact HV.out.1
              case measure => (simp only [intOf]; omega)
            · have y92 : (x == 92) = false := by rw [beq_eq_false_iff_ne]; exact x92
              clear hp hv hi D ht h92 hcut hx
              go_wp2_with fail
              refine T1.out.mono ?_
              rintro e W1 ⟨he, hb1⟩
              have he' : e = .returned (.tuple #[.int .i32 ch, .int .i64 n]) := he
              subst he'
              obtain ⟨v2, w2, hr, ho, hb⟩ := app_two kt32 (x := ch) (HK.out.2.1.below hb1) (by have := HK.out.2.2.2.1; omega) (HK.out.1.trans (hb1.mono HK.out.1.size)).size
              have HR := Lib.hid (And.intro hr (And.intro ho ((HK.out.1.trans (hb1.mono HK.out.1.size)).trans hb)))
              clear he hr ho hb hb1 c0 c1 hg
              go_wp2_with (at_builtin; go_loud (refine Lib.wpList_append_run _ rfl _ _ 70 70 rfl u3 (.slice (some ⟨W1.heap.size, 0, none⟩) 1 1) rfl rfl v2 w2 HR.out.1 ?_))
              go_roundw
              case rel =>
                refine ⟨k + n, cs ++ [ch], rfl, by omega, by omega, Lib.hid ⟨HR.out.2.2, HR.out.2.1, allc_app HK.out.2.2.1 HV.out.2, by have := HK.out.2.2.2.1; simp; omega, ?_⟩⟩
                rw [flat_snoc]
                exact HV.out.1
              case measure => (simp only [intOf]; omega)
    · have f1 : ¬ (k : Int) < (s.l.length : Int) := by omega
      have d1 : decide ((k : Int) < (s.l.length : Int)) = false := by rw [decide_eq_false_iff_not]; exact f1
      have hv := HK.out.2.2.2.2
      rw [strR_end (by omega)] at hv
      have HV := Lib.hid hv
      have T := Lib.hid (fun W => form_at (f : Int) W)
      clear hv D
      go_wp2_with fail
      refine (T.out _).mono ?_
      rintro e W2 ⟨rfl, hb⟩
      have D2 := HDr.out.below hb
      obtain ⟨r0, r1, q0, q1, -⟩ := D2.rt.facts
      have rt := Lib.hid D2.rt
      have HE := Lib.hid D2
      clear hb D2
      go_wp2_with fail
      obtain ⟨wz, hwz⟩ : ∃ wz, wz = (W2.setCell ⟨R, 0, none⟩ (.int .i64 (4))).setCell ⟨R, 1, none⟩ (.int .i64 (f)) := ⟨_, rfl⟩
      have z := ret_two rt.out (4) (f)
      rw [← hwz] at z
      try rw [← hwz]
      refine bodyPost_ret (v := (.agg #[.int .i64 (4), .int .i64 (f)])) (by simp [results, Tryd.results40, go_sem, z.1, z.2]) rfl ?_
      rw [← HV.out]
      exact HE.out.fault.no hwz (by decide)
end Go.Proofs.YtgnnkfdpfmlajaaDoor
