/- Contracts: the document's Lex. Conditions: none. -/
import Derived.Test.YtgnnkfdpfmlajaaDoorLxCc
import Derived.Test.YtgnnkfdpfmlajaaDoorLxCb
namespace Go.Proofs.YtgnnkfdpfmlajaaDoor
open Go.RowKit Bg Lx
set_option linter.unusedVariables false
set_option linter.unusedSimpArgs false

theorem app_plain {w : World} {B : Nat} {v : Value} {ts : List Tk} (kd p : Int) (hk : ¬ kd = 7) (h : TR B w v ts) (hm : ts.length + 1 ≤ 1000000000) (hB : B ≤ w.heap.size) :
    ∃ v' w', (Builtin.append_ #[24, 24] 24 #[v, .slice (some ⟨w.heap.size, 0, none⟩) 1 1]).run Tryd.prog (w.alloc (.cells #[.int .i64 kd, .int .i64 p, .int .i64 0, .int .i64 0, .string { data := #[] }, .slice none 0 0, .int .i64 0] 37)) = .ok v' w' ∧ TR B w' v' (ts ++ [plainTk kd p]) ∧ Below B w w' := by
  obtain ⟨v', w', hr, h1⟩ := app_tok (plainTk kd p) h hm hB
  rw [show dpos (plainTk kd p) = 0 from if_neg hk] at hr
  exact ⟨v', w', hr, h1⟩
theorem app_dat {w : World} {B : Nat} {v : Value} {ts : List Tk} (dk n p : Int) (t : List Int) (h : TR B w v ts) (hm : ts.length + 1 ≤ 1000000000) (hB : B ≤ w.heap.size) :
    ∃ v' w', (Builtin.append_ #[24, 24] 24 #[v, .slice (some ⟨w.heap.size, 0, none⟩) 1 1]).run Tryd.prog (w.alloc (.cells #[.int .i64 7, .int .i64 p, .int .i64 dk, .int .i64 n, .string (strOfNums t), .slice none 0 0, .int .i64 p] 37)) = .ok v' w' ∧ TR B w' v' (ts ++ [datum dk n t p]) ∧ Below B w w' := by
  obtain ⟨v', w', hr, h1⟩ := app_tok (datum dk n t p) h hm hB
  rw [show dpos (datum dk n t p) = p from if_pos rfl] at hr
  exact ⟨v', w', hr, h1⟩
theorem line_stop {l : List Int} {j : Nat} (h : l.length ≤ j ∨ l.getD j 0 = 10) : line (l.drop j) = (0, true) := by
  by_cases hj : j < l.length
  · rw [line, dif_neg (drop_ne hj), if_pos (by rw [drop_head]; rcases h with h | h; omega; exact h)]
  · rw [List.drop_eq_nil_of_le (by omega), line, dif_pos rfl]
theorem line_none {l : List Int} {j : Nat} (h : j < l.length) (h10 : l.getD j 0 ≠ 10) (e : chr (l.drop j) = none) : line (l.drop j) = (0, false) := by
  rw [line, dif_neg (drop_ne h), if_neg (by rw [drop_head]; exact h10)]
  simp only [e]
theorem line_some {l : List Int} {j n : Nat} {c : Int} (h : j < l.length) (h10 : l.getD j 0 ≠ 10) (e : chr (l.drop j) = some (c, n)) (hn : 1 ≤ n) : line (l.drop j) = ((line (l.drop (j + n))).1 + n, (line (l.drop (j + n))).2) := by
  rw [line, dif_neg (drop_ne h), if_neg (by rw [drop_head]; exact h10)]
  simp only [e]
  rw [List.drop_drop, show j + (n - 1 + 1) = j + n by omega]
def RLexIs (w : World) (V : List Tk × Int × Int) (e : Ending) (w' : World) : Prop := ∃ v, e = .returned (.tuple #[v, .int .i64 V.2.1, .int .i64 V.2.2]) ∧ TR w.heap.size w' v V.1
set_option maxRecDepth 100000 in
set_option maxHeartbeats 32000000 in
theorem rlex_at {w : World} {p : Option Addr} {c : Nat} {l : List Int} (a : Arg .u8 w p c l) (hb : Byts l) (hl : l.length ≤ 100000) :
    Calls Tryd.prog 10 #[.slice p l.length c] w fun e w' => RLexIs w (lex 0 l) e w' ∧ Below w.heap.size w w' := by
  have hle := a.le
  have hmx := a.max
  obtain ⟨V, hV⟩ : ∃ V, V = lex 0 l := ⟨_, rfl⟩
  rw [← hV]
  unfold RLexIs
  have HA := Lib.hid (And.intro a (And.intro hb (show cont [] (lex ((0 : Nat) : Int) (l.drop 0)) = V by rw [cont_nil, hV]; rfl)))
  have n0 : decide ((16777216 : Int) < (l.length : Int)) = false := by rw [decide_eq_false_iff_not]; omega
  have n0' : ¬ (16777216 : Int) < (l.length : Int) := by omega
  clear a hb hV
  go_enter Tryd.func10, Tryd.ntmps10
  go_wp2_with fail
  go_loopw [5, 6, 7, 8, 9, 10, 11, 12, 13, 14, 15, 16, 17, 18, 19, 20, 21, 22] (fun v t _ _ _ _ _ _ _ _ _ _ _ _ _ _ _ _ wr => ∃ (k : Nat) (ts : List Tk), t = .int .i64 k ∧ k ≤ l.length ∧ Hid (Below w.heap.size w wr ∧ TR w.heap.size wr v ts ∧ ts.length ≤ k ∧ cont ts (lex (k : Int) (l.drop k)) = V)) (fun _ t _ _ _ _ _ _ _ _ _ _ _ _ _ _ _ _ _ => l.length - (intOf t).toNat)
  case atStart => exact ⟨0, [], rfl, Nat.zero_le _, Lib.hid ⟨Below.refl _ _, TR.nil _ _, Nat.zero_le _, HA.out.2.2⟩⟩
  case round =>
    obtain ⟨k, ts, rfl, hk, HK⟩ := hrel
    by_cases hlt : k < l.length
    · have f1 : (k : Int) < (l.length : Int) := by omega
      have d1 : decide ((k : Int) < (l.length : Int)) = true := by rw [decide_eq_true_eq]; exact f1
      obtain ⟨g, off, rfl, -⟩ := HA.out.1.at (by omega)
      have hg := (HA.out.1.below HK.out.1).some_at k hlt
      obtain ⟨x, hxe⟩ : ∃ x, x = l.getD k 0 := ⟨_, rfl⟩
      rw [← hxe] at hg
      have HX := Lib.hid hxe
      clear hxe
      have hw1 : IntKind.i64.wrap ((k : Int) + 1) = (k : Int) + 1 := by rw [wrap_small _ (by omega) (by omega)]
      have T18 := fun W => blank_at x W
      have T25 := fun W => symbol_at x W
      have T20 := at_at (HA.out.1.below HK.out.1) HA.out.2.1 (by omega) k hk (t := [35, 124]) open_byts (by simp) (by simp)
      rw [open_str] at T20
      cases nb : blankB x with
      | true =>
        rw [nb] at T18
        replace T18 := Lib.hid T18
        have ho : one (l.drop k) k = .skip 1 := by unfold one; rw [drop_head, ← HX.out]; rw [if_pos nb]
        have hv := HK.out.2.2.2
        rw [cont_skip HA.out.2.1 hlt ho] at hv
        have HV := Lib.hid hv
        clear hv ho
        go_wp2_with (go_at_call 18; refine (T18.out _).mono ?_; rintro e w' ⟨rfl, rfl⟩)
        go_roundw
        case rel => exact ⟨k + 1, _, rfl, by omega, Lib.hid ⟨HK.out.1, HK.out.2.1, by have := HK.out.2.2.1; omega, HV.out⟩⟩
        case measure => (simp only [intOf]; omega)
      | false =>
        rw [nb] at T18
        replace T18 := Lib.hid T18
        replace nb : ¬ blankB x = true := by rw [nb]; simp
        go_upto_if 35 with (go_at_call 18; refine (T18.out _).mono ?_; rintro e w' ⟨rfl, rfl⟩)
        go_cut [5, 6, 8] from 36 to 163 (fun v t lo wx => ∃ (k' : Nat) (ts' : List Tk) (lo' : Bool), t = .int .i64 k' ∧ lo = .bool lo' ∧ k < k' ∧ k' ≤ l.length ∧ Hid (Below w.heap.size w wx ∧ TR w.heap.size wx v ts' ∧ ts'.length ≤ k' ∧ (if lo' = true ∧ k' < l.length ∧ delimB (l.getD k' 0) = false then (([] : List Tk), (4 : Int), (k' : Int)) else cont ts' (lex (k' : Int) (l.drop k'))) = V))
        case rest =>
          obtain ⟨k2, ts2, lo, rfl, rfl, hk1, hk2, HM⟩ := hcut
          clear T18 T25 T20 hg hw1 HX nb
          cases lo with
          | false =>
            have hv := HM.out.2.2.2
            rw [if_neg (fun h => by cases h.1)] at hv
            have HV := Lib.hid hv
            clear hv
            go_wp2_with fail
            go_roundw
            case rel => exact ⟨k2, ts2, rfl, hk2, Lib.hid ⟨HM.out.1, HM.out.2.1, HM.out.2.2.1, HV.out⟩⟩
            case measure => (simp only [intOf]; omega)
          | true =>
            by_cases hin : k2 < l.length
            · have i1 : (k2 : Int) < (l.length : Int) := by omega
              have i2 : decide ((k2 : Int) < (l.length : Int)) = true := by rw [decide_eq_true_eq]; exact i1
              have hg3 := (HA.out.1.below HM.out.1).some_at k2 hin
              obtain ⟨z, hz⟩ : ∃ z, z = l.getD k2 0 := ⟨_, rfl⟩
              rw [← hz] at hg3
              have T28 := delim_at z wc
              cases hd : delimB z with
              | false =>
                rw [hd] at T28
                replace T28 := Lib.hid T28
                have hv := HM.out.2.2.2
                rw [if_pos ⟨by simp, hin, by rw [← hz]; exact hd⟩] at hv
                have HV := Lib.hid hv
                clear hv hz hd
                go_wp2_with (go_at_call 28; refine T28.out.mono ?_; rintro e w' ⟨rfl, rfl⟩)
                refine bodyPost_ret (v := (.tuple #[.slice none 0 0, .int .i64 4, .int .i64 k2])) (by simp [results, Tryd.results10, go_sem]) rfl ?_
                rw [← HV.out]
                exact ⟨⟨_, rfl, TR.nil _ _⟩, HM.out.1⟩
              | true =>
                rw [hd] at T28
                replace T28 := Lib.hid T28
                have hv := HM.out.2.2.2
                rw [if_neg (fun h => by rw [← hz, hd] at h; cases h.2.2)] at hv
                have HV := Lib.hid hv
                clear hv hz hd
                go_wp2_with (go_at_call 28; refine T28.out.mono ?_; rintro e w' ⟨rfl, rfl⟩)
                go_roundw
                case rel => exact ⟨k2, ts2, rfl, hk2, Lib.hid ⟨HM.out.1, HM.out.2.1, HM.out.2.2.1, HV.out⟩⟩
                case measure => (simp only [intOf]; omega)
            · have i1 : ¬ (k2 : Int) < (l.length : Int) := by omega
              have i2 : decide ((k2 : Int) < (l.length : Int)) = false := by rw [decide_eq_false_iff_not]; exact i1
              have hv := HM.out.2.2.2
              rw [if_neg (fun h => hin h.2.1)] at hv
              have HV := Lib.hid hv
              clear hv
              go_wp2_with fail
              go_roundw
              case rel => exact ⟨k2, ts2, rfl, hk2, Lib.hid ⟨HM.out.1, HM.out.2.1, HM.out.2.2.1, HV.out⟩⟩
              case measure => (simp only [intOf]; omega)
        by_cases n59 : x = 59
        · skip
          subst n59
          go_wp2_with (go_at_call 18; refine (T18.out _).mono ?_; rintro e w' ⟨rfl, rfl⟩)
          go_loopw [6, 9, 10, 11] (fun t _ _ _ wq => ∃ j : Nat, t = .int .i64 j ∧ k ≤ j ∧ j ≤ l.length ∧ Hid (Below wr.heap.size wr wq ∧ line (l.drop k) = ((line (l.drop j)).1 + (j - k), (line (l.drop j)).2))) (fun t _ _ _ _ => l.length - (intOf t).toNat)
          case atStart => exact ⟨k, rfl, Nat.le_refl _, hk, Lib.hid ⟨Below.refl _ _, by rw [Nat.sub_self]; rfl⟩⟩
          case round =>
            obtain ⟨j, rfl, hkj0, hj, HJ⟩ := hrel
            by_cases hjl : j < l.length
            · have j1 : (j : Int) < (l.length : Int) := by omega
              have j2 : decide ((j : Int) < (l.length : Int)) = true := by rw [decide_eq_true_eq]; exact j1
              have hgj := (HA.out.1.below (HK.out.1.trans (HJ.out.1.mono HK.out.1.size))).some_at j hjl
              obtain ⟨y, hy⟩ : ∃ y, y = l.getD j 0 := ⟨_, rfl⟩
              rw [← hy] at hgj
              by_cases y10 : y = 10
              · have hline : line (l.drop k) = (j - k, true) := by rw [HJ.out.2, line_stop (Or.inr (hy.symm.trans y10))]; simp
                clear hy
                subst y10
                have ho : one (l.drop k) k = .skip (j - k) := by
                  unfold one
                  rw [drop_head, ← HX.out, if_neg nb, if_pos rfl, hline]
                  rfl
                have hp := one_skip_pos (HA.out.2.1.drop k) (drop_ne hlt) ho
                have hv := HK.out.2.2.2
                rw [cont_skip HA.out.2.1 hlt ho, show k + (j - k) = j by omega] at hv
                have HV := Lib.hid hv
                have hkj : k < j := by omega
                clear hv ho hp hline
                go_wp2_with fail
                go_meet
                exact ⟨j, _, false, rfl, rfl, hkj, hj, Lib.hid ⟨HK.out.1.trans (HJ.out.1.mono HK.out.1.size), HK.out.2.1.below HJ.out.1, by have := HK.out.2.2.1; omega, by rw [if_neg (fun h => by cases h.1)]; exact HV.out⟩⟩
              · have b10 : (y == 10) = false := by rw [beq_eq_false_iff_ne]; exact y10
                have T := rget_at (HA.out.1.below (HK.out.1.trans (HJ.out.1.mono HK.out.1.size))) HA.out.2.1 (by omega) (j : Int)
                cases hc : chr (l.drop j) with
                | none =>
                  obtain ⟨e1, e2, e3⟩ := g_none (k := j) hjl hc
                  rw [e1, e2, e3] at T
                  have hline : line (l.drop k) = (j - k, false) := by rw [HJ.out.2, line_none hjl (by rw [← hy]; exact y10) hc]; simp
                  have ho : one (l.drop k) k = .err 4 ((k : Int) + ((j - k : Nat) : Int)) := by
                    unfold one
                    rw [drop_head, ← HX.out, if_neg nb, if_pos rfl, hline]
                    rfl
                  have hv := HK.out.2.2.2
                  rw [cont_err hlt ho, show (k : Int) + ((j - k : Nat) : Int) = (j : Int) by omega] at hv
                  have HV := Lib.hid hv
                  replace T := Lib.hid T
                  clear e1 e2 e3 hline ho hv hc hy
                  go_wp2_with (go_at_call 19; refine T.out.mono ?_; rintro e w' ⟨rfl, hb⟩; replace hb := Lib.hid hb)
                  refine bodyPost_ret (v := (.tuple #[.slice none 0 0, .int .i64 4, .int .i64 j])) (by simp [results, Tryd.results10, go_sem]) rfl ?_
                  rw [← HV.out]
                  exact ⟨⟨_, rfl, TR.nil _ _⟩, (HK.out.1.trans (HJ.out.1.mono HK.out.1.size)).trans (hb.out.mono (HK.out.1.trans (HJ.out.1.mono HK.out.1.size)).size)⟩
                | some cn =>
                  obtain ⟨ch, n⟩ := cn
                  obtain ⟨e1, e2, e3⟩ := g_some (k := j) hjl hc
                  rw [e1, e2, e3] at T
                  have hn := chr_lt (HA.out.2.1.drop j) hc
                  rw [List.length_drop] at hn
                  have hline := line_some hjl (by rw [← hy]; exact y10) hc hn.1
                  have hl2 := HJ.out.2
                  rw [hline] at hl2
                  have HL2 := Lib.hid hl2
                  replace T := Lib.hid T
                  have hwn : IntKind.i64.wrap ((j : Int) + (n : Int)) = (j : Int) + (n : Int) := by rw [wrap_small _ (by omega) (by omega)]
                  clear e1 e2 e3 hline hl2 hc hy
                  go_wp2_with (go_at_call 19; refine T.out.mono ?_; rintro e w' ⟨rfl, hb⟩; replace hb := Lib.hid hb)
                  go_roundw
                  case rel => exact ⟨j + n, rfl, by omega, by omega, Lib.hid ⟨HJ.out.1.trans (hb.out.mono HJ.out.1.size), by rw [HL2.out]; simp only [Prod.mk.injEq, and_true]; omega⟩⟩
                  case measure => (simp only [intOf]; omega)
            · have j1 : ¬ (j : Int) < (l.length : Int) := by omega
              have j2 : decide ((j : Int) < (l.length : Int)) = false := by rw [decide_eq_false_iff_not]; exact j1
              have hline : line (l.drop k) = (j - k, true) := by rw [HJ.out.2, line_stop (Or.inl (by omega))]; simp
              have ho : one (l.drop k) k = .skip (j - k) := by
                unfold one
                rw [drop_head, ← HX.out, if_neg nb, if_pos rfl, hline]
                rfl
              have hp := one_skip_pos (HA.out.2.1.drop k) (drop_ne hlt) ho
              have hv := HK.out.2.2.2
              rw [cont_skip HA.out.2.1 hlt ho, show k + (j - k) = j by omega] at hv
              have HV := Lib.hid hv
              have hkj : k < j := by omega
              clear hv ho hp hline
              go_wp2_with fail
              go_meet
              exact ⟨j, _, false, rfl, rfl, hkj, hj, Lib.hid ⟨HK.out.1.trans (HJ.out.1.mono HK.out.1.size), HK.out.2.1.below HJ.out.1, by have := HK.out.2.2.1; omega, by rw [if_neg (fun h => by cases h.1)]; exact HV.out⟩⟩
        · have b59 : (x == 59) = false := by rw [beq_eq_false_iff_ne]; exact n59
          cases na : atS (l.drop k) [35, 124] with
          | true =>
            rw [na] at T20
            replace T20 := Lib.hid T20
            have T21 := comment_at (HA.out.1.below HK.out.1) HA.out.2.1 (by omega) k hk
            obtain ⟨V1, hV1⟩ : ∃ V, V = com k k (l.drop k) 0 := ⟨_, rfl⟩
            rw [← hV1] at T21
            obtain ⟨v1, v2, v3⟩ := V1
            by_cases h0 : v2 = 0
            · subst h0
              have ho : one (l.drop k) k = .skip (v1 - k).toNat := by
                unfold one
                rw [drop_head, ← HX.out, if_neg nb, if_neg n59, if_pos na, ← hV1]
                rfl
              have hp := one_skip_pos (HA.out.2.1.drop k) (drop_ne hlt) ho
              obtain ⟨n, hn⟩ : ∃ n, n = (v1 - k).toNat := ⟨_, rfl⟩
              rw [← hn] at ho hp
              have hv1 : v1 = (k : Int) + n := by omega
              rw [List.length_drop] at hp
              have hv := HK.out.2.2.2
              rw [cont_skip HA.out.2.1 hlt ho] at hv
              have HV := Lib.hid hv
              clear hV1 hn ho hv
              subst hv1
              replace T21 := Lib.hid T21
              go_upto_region 17 with (first | (go_at_call 18; refine (T18.out _).mono ?_; rintro e w' ⟨rfl, rfl⟩) | (go_at_call 20; refine T20.out.mono ?_; rintro e w' ⟨rfl, rfl⟩))
              go_wp2_with fail
              refine T21.out.mono ?_
              rintro e w3 ⟨rfl, b3⟩
              have HR := Lib.hid (And.intro (HK.out.1.trans (b3.mono HK.out.1.size)) (HK.out.2.1.below b3))
              clear b3
              unfold tri
              simp only
              go_wp2_with fail
              go_meet
              exact ⟨k + n, _, false, rfl, rfl, by omega, by omega, Lib.hid ⟨HR.out.1, HR.out.2, by have := HK.out.2.2.1; omega, by rw [if_neg (fun h => by cases h.1)]; exact HV.out⟩⟩
            · have ho : one (l.drop k) k = .err v2 v3 := by
                unfold one
                rw [drop_head, ← HX.out, if_neg nb, if_neg n59, if_pos na, ← hV1]
                exact if_neg h0
              have hv := HK.out.2.2.2
              rw [cont_err hlt ho] at hv
              have HV := Lib.hid hv
              have c0 : (v2 != 0) = true := by rw [bne_iff_ne]; exact h0
              replace T21 := Lib.hid T21
              clear hV1 ho hv
              go_upto_region 17 with (first | (go_at_call 18; refine (T18.out _).mono ?_; rintro e w' ⟨rfl, rfl⟩) | (go_at_call 20; refine T20.out.mono ?_; rintro e w' ⟨rfl, rfl⟩))
              go_wp2_with fail
              refine T21.out.mono ?_
              rintro e w3 ⟨rfl, b3⟩
              have HR := Lib.hid (HK.out.1.trans (b3.mono HK.out.1.size))
              clear b3
              unfold tri
              simp only
              go_wp2_with fail
              refine bodyPost_ret (v := (.tuple #[.slice none 0 0, .int .i64 v2, .int .i64 v3])) (by simp [results, Tryd.results10, go_sem]) rfl ?_
              rw [← HV.out]
              exact ⟨⟨_, rfl, TR.nil _ _⟩, HR.out⟩
          | false =>
            rw [na] at T20
            replace T20 := Lib.hid T20
            replace na : ¬ atS (l.drop k) [35, 124] = true := by rw [na]; simp
            by_cases n40 : x = 40
            · subst n40
              have ho : one (l.drop k) k = .tok (plainTk 1 k) 1 false := by unfold one; rw [drop_head, ← HX.out]; rw [if_neg nb]; rw [if_neg n59]; rw [if_neg na]; rw [if_pos rfl]
              have hp := one_tok_pos (HA.out.2.1.drop k) (drop_ne hlt) ho
              have hv := HK.out.2.2.2
              rw [cont_tok HA.out.2.1 hlt ho, if_neg (fun h => by cases h.1)] at hv
              have HV := Lib.hid hv
              obtain ⟨v3, w3, hr, o3, b3⟩ := app_plain 1 (k : Int) (by decide) HK.out.2.1 (by have := HK.out.2.2.1; omega) HK.out.1.size
              have HR := Lib.hid (And.intro hr (And.intro o3 (HK.out.1.trans b3)))
              clear hv ho hp hr o3 b3
              go_wp2_with (first | (go_at_call 18; refine (T18.out _).mono ?_; rintro e w' ⟨rfl, rfl⟩) | (go_at_call 20; refine T20.out.mono ?_; rintro e w' ⟨rfl, rfl⟩) | (at_builtin; go_loud (refine Lib.wpList_append_run _ rfl _ _ 24 24 rfl u5 (.slice (some ⟨wr.heap.size, 0, none⟩) 1 1) rfl rfl v3 w3 HR.out.1 ?_)))
              go_meet
              exact ⟨k + 1, _, false, rfl, rfl, by omega, by omega, Lib.hid ⟨HR.out.2.2, HR.out.2.1, by have := HK.out.2.2.1; simp; omega, by rw [if_neg (fun h => by cases h.1)]; exact HV.out⟩⟩
            by_cases n41 : x = 41
            · subst n41
              have ho : one (l.drop k) k = .tok (plainTk 2 k) 1 false := by unfold one; rw [drop_head, ← HX.out]; rw [if_neg nb]; rw [if_neg n59]; rw [if_neg na]; rw [if_neg (by decide)]; rw [if_pos rfl]
              have hp := one_tok_pos (HA.out.2.1.drop k) (drop_ne hlt) ho
              have hv := HK.out.2.2.2
              rw [cont_tok HA.out.2.1 hlt ho, if_neg (fun h => by cases h.1)] at hv
              have HV := Lib.hid hv
              obtain ⟨v3, w3, hr, o3, b3⟩ := app_plain 2 (k : Int) (by decide) HK.out.2.1 (by have := HK.out.2.2.1; omega) HK.out.1.size
              have HR := Lib.hid (And.intro hr (And.intro o3 (HK.out.1.trans b3)))
              clear hv ho hp hr o3 b3
              go_wp2_with (first | (go_at_call 18; refine (T18.out _).mono ?_; rintro e w' ⟨rfl, rfl⟩) | (go_at_call 20; refine T20.out.mono ?_; rintro e w' ⟨rfl, rfl⟩) | (at_builtin; go_loud (refine Lib.wpList_append_run _ rfl _ _ 24 24 rfl u5 (.slice (some ⟨wr.heap.size, 0, none⟩) 1 1) rfl rfl v3 w3 HR.out.1 ?_)))
              go_meet
              exact ⟨k + 1, _, false, rfl, rfl, by omega, by omega, Lib.hid ⟨HR.out.2.2, HR.out.2.1, by have := HK.out.2.2.1; simp; omega, by rw [if_neg (fun h => by cases h.1)]; exact HV.out⟩⟩
            by_cases n39 : x = 39
            · subst n39
              have ho : one (l.drop k) k = .tok (plainTk 3 k) 1 false := by unfold one; rw [drop_head, ← HX.out]; rw [if_neg nb]; rw [if_neg n59]; rw [if_neg na]; rw [if_neg (by decide)]; rw [if_neg (by decide)]; rw [if_pos rfl]
              have hp := one_tok_pos (HA.out.2.1.drop k) (drop_ne hlt) ho
              have hv := HK.out.2.2.2
              rw [cont_tok HA.out.2.1 hlt ho, if_neg (fun h => by cases h.1)] at hv
              have HV := Lib.hid hv
              obtain ⟨v3, w3, hr, o3, b3⟩ := app_plain 3 (k : Int) (by decide) HK.out.2.1 (by have := HK.out.2.2.1; omega) HK.out.1.size
              have HR := Lib.hid (And.intro hr (And.intro o3 (HK.out.1.trans b3)))
              clear hv ho hp hr o3 b3
              go_wp2_with (first | (go_at_call 18; refine (T18.out _).mono ?_; rintro e w' ⟨rfl, rfl⟩) | (go_at_call 20; refine T20.out.mono ?_; rintro e w' ⟨rfl, rfl⟩) | (at_builtin; go_loud (refine Lib.wpList_append_run _ rfl _ _ 24 24 rfl u5 (.slice (some ⟨wr.heap.size, 0, none⟩) 1 1) rfl rfl v3 w3 HR.out.1 ?_)))
              go_meet
              exact ⟨k + 1, _, false, rfl, rfl, by omega, by omega, Lib.hid ⟨HR.out.2.2, HR.out.2.1, by have := HK.out.2.2.1; simp; omega, by rw [if_neg (fun h => by cases h.1)]; exact HV.out⟩⟩
            by_cases n34 : x = 34
            · subst n34
              have T22 := rstring_at (HA.out.1.below HK.out.1) HA.out.2.1 (by omega) k hlt
              obtain ⟨V1, hV1⟩ : ∃ V, V = str (k : Int) ((k : Int) + 1) (l.drop (k + 1)) [] := ⟨_, rfl⟩
              rw [← hV1] at T22
              obtain ⟨tx, v1, v2, v3⟩ := V1
              have hV2 : str (k : Int) ((k : Int) + 1) ((l.drop k).drop 1) [] = (tx, v1, v2, v3) := by rw [List.drop_drop]; exact hV1.symm
              by_cases h0 : v2 = 0
              · subst h0
                have ho : one (l.drop k) k = .tok (datum 4 0 tx k) (v1 - k).toNat false := by unfold one; rw [drop_head, ← HX.out]; rw [if_neg nb]; rw [if_neg n59]; rw [if_neg na]; rw [if_neg (by decide)]; rw [if_neg (by decide)]; rw [if_neg (by decide)]; rw [if_pos rfl, hV2]; rfl
                have hp := one_tok_pos (HA.out.2.1.drop k) (drop_ne hlt) ho
                obtain ⟨n, hn⟩ : ∃ n, n = (v1 - k).toNat := ⟨_, rfl⟩
                rw [← hn] at ho hp
                have hv1 : v1 = (k : Int) + n := by omega
                rw [List.length_drop] at hp
                have hv := HK.out.2.2.2
                rw [cont_tok HA.out.2.1 hlt ho, if_neg (fun h => by cases h.1)] at hv
                have HV := Lib.hid hv
                clear hV1 hV2 hn ho hv
                subst hv1
                replace T22 := Lib.hid T22
                go_upto_region 31 with (first | (go_at_call 18; refine (T18.out _).mono ?_; rintro e w' ⟨rfl, rfl⟩) | (go_at_call 20; refine T20.out.mono ?_; rintro e w' ⟨rfl, rfl⟩))
                go_wp2_with fail
                refine T22.out.mono ?_
                rintro e w1 ⟨rfl, b1⟩
                have HW1 := Lib.hid (And.intro (HK.out.1.trans (b1.mono HK.out.1.size)) (HK.out.2.1.below b1))
                have TD := Lib.hid (rdat_at 4 0 (k : Int) (strOfNums tx) w1)
                clear b1
                obtain ⟨tS, htS⟩ : ∃ t, t = strOfNums tx := ⟨_, rfl⟩
                have HS := Lib.hid htS
                rw [← htS] at TD
                unfold strV
                simp only
                rw [← htS]
                clear htS
                go_wp2_with fail
                refine TD.out.mono ?_
                rintro e w2 ⟨rfl, b2⟩
                obtain ⟨v3', w3, hr, o3, b3⟩ := app_dat 4 0 (k : Int) tx (HW1.out.2.below b2) (by have := HK.out.2.2.1; omega) (HW1.out.1.trans (b2.mono HW1.out.1.size)).size
                rw [← HS.out] at hr
                have HR := Lib.hid (And.intro hr (And.intro o3 ((HW1.out.1.trans (b2.mono HW1.out.1.size)).trans b3)))
                clear hr o3 b3 b2
                go_wp2_with (at_builtin; go_loud (refine Lib.wpList_append_run _ rfl _ _ 24 24 rfl u5 (.slice (some ⟨w2.heap.size, 0, none⟩) 1 1) rfl rfl v3' w3 HR.out.1 ?_))
                go_meet
                exact ⟨k + n, _, false, rfl, rfl, by omega, by omega, Lib.hid ⟨HR.out.2.2, HR.out.2.1, by have := HK.out.2.2.1; simp; omega, by rw [if_neg (fun h => by cases h.1)]; exact HV.out⟩⟩
              · have ho : one (l.drop k) k = .err v2 v3 := by unfold one; rw [drop_head, ← HX.out]; rw [if_neg nb]; rw [if_neg n59]; rw [if_neg na]; rw [if_neg (by decide)]; rw [if_neg (by decide)]; rw [if_neg (by decide)]; rw [if_pos rfl, hV2]; exact if_neg h0
                have hv := HK.out.2.2.2
                rw [cont_err hlt ho] at hv
                have HV := Lib.hid hv
                have c0 : (v2 != 0) = true := by rw [bne_iff_ne]; exact h0
                replace T22 := Lib.hid T22
                clear hV1 hV2 ho hv
                go_upto_region 31 with (first | (go_at_call 18; refine (T18.out _).mono ?_; rintro e w' ⟨rfl, rfl⟩) | (go_at_call 20; refine T20.out.mono ?_; rintro e w' ⟨rfl, rfl⟩))
                go_wp2_with fail
                refine T22.out.mono ?_
                rintro e w3 ⟨rfl, b3⟩
                have HR := Lib.hid (HK.out.1.trans (b3.mono HK.out.1.size))
                clear b3
                unfold strV
                simp only
                obtain ⟨sv, hsv⟩ : ∃ sv, sv = strOfNums tx := ⟨_, rfl⟩
                rw [← hsv]
                clear hsv
                go_wp2_with fail
                refine bodyPost_ret (v := (.tuple #[.slice none 0 0, .int .i64 v2, .int .i64 v3])) (by simp [results, Tryd.results10, go_sem]) rfl ?_
                rw [← HV.out]
                exact ⟨⟨_, rfl, TR.nil _ _⟩, HR.out⟩
            by_cases n35 : x = 35
            · subst n35
              have T24 := marked_at (HA.out.1.below HK.out.1) HA.out.2.1 (by omega) k hlt
              obtain ⟨o, hO⟩ : ∃ o, o = Lx.mark (l.drop k) k := ⟨_, rfl⟩
              rw [← hO] at T24
              cases o with
              | none =>
                have ho : one (l.drop k) k = .err 4 k := by unfold one; rw [drop_head, ← HX.out]; rw [if_neg nb]; rw [if_neg n59]; rw [if_neg na]; rw [if_neg (by decide)]; rw [if_neg (by decide)]; rw [if_neg (by decide)]; rw [if_neg (by decide)]; rw [if_pos rfl]; rw [← hO]
                have hv := HK.out.2.2.2
                rw [cont_err hlt ho] at hv
                have HV := Lib.hid hv
                replace T24 := Lib.hid T24
                clear hO ho hv
                go_upto_region 37 with (first | (go_at_call 18; refine (T18.out _).mono ?_; rintro e w' ⟨rfl, rfl⟩) | (go_at_call 20; refine T20.out.mono ?_; rintro e w' ⟨rfl, rfl⟩))
                go_wp2_with fail
                refine T24.out.mono ?_
                rintro e w3 ⟨T, y, b, rfl, hm, b3⟩
                obtain rfl : b = false := hm
                have B3 := HK.out.1.trans (b3.mono HK.out.1.size)
                obtain ⟨W1, hW1⟩ : ∃ W, W = w3.alloc (.cells #[.int .i64 T.kind, .int .i64 T.pos, .int .i64 T.dk, .int .i64 T.n, .string (strOfNums T.text), .slice none 0 0, .int .i64 (dpos T)] 37) := ⟨_, rfl⟩
                have HR2 := Lib.hid (show Below w.heap.size w W1 by rw [hW1]; exact B3.alloc B3.size _)
                obtain ⟨N1, hN1⟩ : ∃ N, N = w3.heap.size := ⟨_, rfl⟩
                clear b3 B3
                unfold tkV
                go_upto_region 38 with fail
                rw [← hW1, ← hN1]
                clear hW1 hN1
                go_wp2_with fail
                refine bodyPost_ret (v := (.tuple #[.slice none 0 0, .int .i64 4, .int .i64 k])) (by simp [results, Tryd.results10, go_sem]) rfl ?_
                rw [← HV.out]
                exact ⟨⟨_, rfl, TR.nil _ _⟩, HR2.out⟩
              | some tn =>
                obtain ⟨t, n⟩ := tn
                have ho : one (l.drop k) k = .tok t n (decide (t.kind = 7)) := by unfold one; rw [drop_head, ← HX.out]; rw [if_neg nb]; rw [if_neg n59]; rw [if_neg na]; rw [if_neg (by decide)]; rw [if_neg (by decide)]; rw [if_neg (by decide)]; rw [if_neg (by decide)]; rw [if_pos rfl]; rw [← hO]
                have hp := one_tok_pos (HA.out.2.1.drop k) (drop_ne hlt) ho
                rw [List.length_drop] at hp
                have hp1 := hp.1
                have hp2 := hp.2.1
                have hv := HK.out.2.2.2
                rw [cont_tok HA.out.2.1 hlt ho] at hv
                replace T24 := Lib.hid T24
                have HV := Lib.hid hv
                clear hO ho hv hp
                go_upto_region 37 with (first | (go_at_call 18; refine (T18.out _).mono ?_; rintro e w' ⟨rfl, rfl⟩) | (go_at_call 20; refine T20.out.mono ?_; rintro e w' ⟨rfl, rfl⟩))
                go_wp2_with fail
                refine T24.out.mono ?_
                rintro e w1 ⟨T, y, b, rfl, hm, b1⟩
                obtain ⟨rfl, rfl, rfl⟩ : b = true ∧ T = t ∧ y = (k : Int) + n := hm
                have B1 := HK.out.1.trans (b1.mono HK.out.1.size)
                obtain ⟨W1, hW1⟩ : ∃ W, W = w1.alloc (.cells #[.int .i64 T.kind, .int .i64 T.pos, .int .i64 T.dk, .int .i64 T.n, .string (strOfNums T.text), .slice none 0 0, .int .i64 (dpos T)] 37) := ⟨_, rfl⟩
                have bW : Below w1.heap.size w1 W1 := by rw [hW1]; exact (Below.refl _ _).alloc (Nat.le_refl _) _
                have hx1 : W1.heap[w1.heap.size]? = some (.cells #[.int .i64 T.kind, .int .i64 T.pos, .int .i64 T.dk, .int .i64 T.n, .string (strOfNums T.text), .slice none 0 0, .int .i64 (dpos T)] 37) := by rw [hW1]; exact heap_new _ _
                have BW := B1.trans (bW.mono B1.size)
                obtain ⟨v3, w3, hr, o3, b3⟩ := app_tok T ((HK.out.2.1.below b1).below bW) (by have := HK.out.2.2.1; omega) BW.size
                have HR := Lib.hid (And.intro hr (And.intro o3 (BW.trans b3)))
                obtain ⟨z0, z1, z2, z3, z4, z5, z6⟩ := (seven hx1).1
                obtain ⟨N1, hN1⟩ : ∃ N, N = w1.heap.size := ⟨_, rfl⟩
                rw [← hN1] at z0 z1 z2 z3 z4 z5 z6
                clear b1 B1 hr o3 b3 bW BW hx1
                unfold tkV
                go_upto_region 38 with fail
                rw [← hW1, ← hN1]
                clear hW1 hN1 hg
                obtain ⟨kd, hkd⟩ : ∃ x, x = T.kind := ⟨_, rfl⟩
                have HKD := Lib.hid hkd
                rw [← hkd] at HV HR z0 ⊢
                clear hkd
                go_wp2_with (at_builtin; go_loud (refine Lib.wpList_append_run _ rfl _ _ 24 24 rfl u5 (.slice (some ⟨W1.heap.size, 0, none⟩) 1 1) rfl rfl v3 w3 HR.out.1 ?_))
                go_meet
                exact ⟨k + n, _, decide (kd = 7), rfl, rfl, by omega, by omega, Lib.hid ⟨HR.out.2.2, HR.out.2.1, by have := HK.out.2.2.1; simp; omega, by have hv := HV.out; first | exact hv | (simpa using hv)⟩⟩
            have b40 : (x == 40) = false := by rw [beq_eq_false_iff_ne]; exact n40
            have b41 : (x == 41) = false := by rw [beq_eq_false_iff_ne]; exact n41
            have b39 : (x == 39) = false := by rw [beq_eq_false_iff_ne]; exact n39
            have b34 : (x == 34) = false := by rw [beq_eq_false_iff_ne]; exact n34
            have b35 : (x == 35) = false := by rw [beq_eq_false_iff_ne]; exact n35
            cases nsy : symB x with
            | true =>
              rw [nsy] at T25
              replace T25 := Lib.hid T25
              have X1 := run_is (l.drop k)
              obtain ⟨X, hX⟩ : ∃ X, X = run (l.drop k) := ⟨_, rfl⟩
              have ho : one (l.drop k) k = .tok (runTk X k) X.length true := by unfold one; rw [drop_head, ← HX.out]; rw [if_neg nb]; rw [if_neg n59]; rw [if_neg na]; rw [if_neg n40]; rw [if_neg n41]; rw [if_neg n39]; rw [if_neg n34]; rw [if_neg n35]; rw [if_pos nsy]; rw [← hX]
              have hp := one_tok_pos (HA.out.2.1.drop k) (drop_ne hlt) ho
              rw [List.length_drop] at hp
              rw [← hX] at X1
              have hXb : Byts X := by rw [X1]; exact (HA.out.2.1.drop _).take _
              have T26 := run_at (HA.out.1.below HK.out.1) (by omega) k hk
              have hrE : runE l k = k + X.length := by unfold runE; rw [← hX]
              rw [hrE, show ((k + X.length : Nat) : Int) = (k : Int) + X.length by omega] at T26
              have CV := conv_arg (slice_of (HA.out.1.below HK.out.1) (k := k) (n := X.length) (by omega))
              rw [← X1] at CV
              have TR27 := rrun_at (strOfNums X) (by rw [str_size]; omega) (by rw [str_size]; omega) (k : Int) wr
              rw [byL_str hXb] at TR27
              obtain ⟨T, hT⟩ : ∃ T, T = runTk X k := ⟨_, rfl⟩
              rw [← hT] at TR27 ho
              have hv := HK.out.2.2.2
              rw [cont_tok HA.out.2.1 hlt ho] at hv
              have HV := Lib.hid hv
              obtain ⟨m, hm⟩ : ∃ m, m = X.length := ⟨_, rfl⟩
              rw [← hm] at T26 CV HV hp
              have hp1 := hp.1
              have hp2 := hp.2.1
              obtain ⟨sx, hsx⟩ : ∃ s, s = strOfNums X := ⟨_, rfl⟩
              rw [← hsx] at CV TR27
              replace T26 := Lib.hid T26
              replace TR27 := Lib.hid TR27
              have CV' := CV
              rw [show m = k + m - k by omega] at CV'
              have g1 : ¬ (k : Int) < 0 := by omega
              have g2 : (k : Int) ≤ (k : Int) + m := by omega
              have g3 : (k : Int) + m ≤ (c : Int) := by omega
              have g4 : ¬ c = k := by omega
              clear X1 hX ho hXb hrE hT hv hm hsx hp
              go_upto_region 45 with (first | (go_at_call 18; refine (T18.out _).mono ?_; rintro e w' ⟨rfl, rfl⟩) | (go_at_call 20; refine T20.out.mono ?_; rintro e w' ⟨rfl, rfl⟩) | (go_at_call 25; refine (T25.out _).mono ?_; rintro e w' ⟨rfl, rfl⟩) | (go_at_call 26; refine T26.out.mono ?_; rintro e w' ⟨rfl, rfl⟩))
              go_wp2_with fail
              refine TR27.out.mono ?_
              rintro e w1 ⟨rfl, b1⟩
              have B1 := HK.out.1.trans (b1.mono HK.out.1.size)
              obtain ⟨v3, w3, hr, o3, b3⟩ := app_tok T (HK.out.2.1.below b1) (by have := HK.out.2.2.1; omega) B1.size
              have HR := Lib.hid (And.intro hr (And.intro o3 (B1.trans b3)))
              clear b1 B1 hr o3 b3 CV CV' hg
              unfold tkV
              go_wp2_with (at_builtin; go_loud (refine Lib.wpList_append_run _ rfl _ _ 24 24 rfl u5 (.slice (some ⟨w1.heap.size, 0, none⟩) 1 1) rfl rfl v3 w3 HR.out.1 ?_))
              go_meet
              exact ⟨k + m, _, true, rfl, rfl, by omega, by omega, Lib.hid ⟨HR.out.2.2, HR.out.2.1, by have := HK.out.2.2.1; simp; omega, by have hv := HV.out; first | exact hv | (simpa using hv)⟩⟩
            | false =>
              rw [nsy] at T25
              replace T25 := Lib.hid T25
              replace nsy : ¬ symB x = true := by rw [nsy]; simp
              have ho : one (l.drop k) k = .err 4 k := by unfold one; rw [drop_head, ← HX.out]; rw [if_neg nb]; rw [if_neg n59]; rw [if_neg na]; rw [if_neg n40]; rw [if_neg n41]; rw [if_neg n39]; rw [if_neg n34]; rw [if_neg n35]; rw [if_neg nsy]
              have hv := HK.out.2.2.2
              rw [cont_err hlt ho] at hv
              have HV := Lib.hid hv
              clear hv ho
              go_wp2_with (first | (go_at_call 18; refine (T18.out _).mono ?_; rintro e w' ⟨rfl, rfl⟩) | (go_at_call 20; refine T20.out.mono ?_; rintro e w' ⟨rfl, rfl⟩) | (go_at_call 25; refine (T25.out _).mono ?_; rintro e w' ⟨rfl, rfl⟩))
              refine bodyPost_ret (v := (.tuple #[.slice none 0 0, .int .i64 4, .int .i64 k])) (by simp [results, Tryd.results10, go_sem]) rfl ?_
              rw [← HV.out]
              exact ⟨⟨_, rfl, TR.nil _ _⟩, HK.out.1⟩
    · have f1 : ¬ (k : Int) < (l.length : Int) := by omega
      have d1 : decide ((k : Int) < (l.length : Int)) = false := by rw [decide_eq_false_iff_not]; exact f1
      have hv := HK.out.2.2.2
      rw [List.drop_eq_nil_of_le (by omega), cont_end] at hv
      have HV := Lib.hid hv
      clear hv
      go_wp2_with fail
      refine bodyPost_ret (v := (.tuple #[u5, .int .i64 0, .int .i64 0])) (by simp [results, Tryd.results10, go_sem]) rfl ?_
      rw [← HV.out]
      exact ⟨⟨_, rfl, HK.out.2.1⟩, HK.out.1⟩
end Go.Proofs.YtgnnkfdpfmlajaaDoor
