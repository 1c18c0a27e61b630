/- Contracts: digits to another base. Conditions: the digits lie as told. -/
import Derived.Test.YtihgefllmkicaaaDoorBaB
namespace Go.Proofs.YtihgefllmkicaaaDoor
open Go.RowKit Bg
set_option linter.unusedVariables false
set_option linter.unusedSimpArgs false


def nilS : Value := .slice none 0 0
theorem make_slices (w : World) {B : Nat} (n : Nat) (hn : n ≤ 1000000) (hB : B ≤ w.heap.size) :
    ∃ w', (Instr.makeSlice 88 (.int .i64 (n : Int)) (.int .i64 (n : Int))).run Tryd.prog w = .ok (.slice (some ⟨w.heap.size, 0, none⟩) n n) w' ∧ RowS B w' (.slice (some ⟨w.heap.size, 0, none⟩) n n) (List.replicate n nilS) ∧ Below w.heap.size w w' := by
  obtain ⟨i, hi, hz, hs, hby⟩ := infoS
  obtain ⟨w', hr, ho, hg⟩ := run_make_full (P := Tryd.prog) w B 88 22 i (.slice none 0 0) 1 Tryd.underlying88 hi hz hs .i64 .i64 n (by rw [hby]; omega) (by unfold maxLen; omega) hB
  refine ⟨w', hr, ?_, (Below.refl _ _).grown hg (Nat.le_refl _) (fun q hq => by cases hq)⟩
  unfold RowS
  rw [List.length_replicate]
  have e : (madeCells (Value.slice none 0 0).cells (n * 1)).toList = List.replicate n nilS := by
    rw [Nat.mul_one]
    exact toList_madeCells_one _ n
  rw [← e]
  exact ho
theorem RowS.set {B : Nat} {w : World} {g n c : Nat} {vs : List Value} (h : RowS B w (.slice (some ⟨g, 0, none⟩) n c) vs) (hn : n = vs.length) (i : Nat) (u : Value) : RowS B (w.setCell ⟨g, i, none⟩ u) (.slice (some ⟨g, 0, none⟩) n c) (vs.set i u) := by
  subst hn
  have h1 := (World.ownsRow.stored h i u).1
  unfold RowS
  rw [List.length_set]
  exact h1
theorem Parts.set {w : World} {C B g n c : Nat} {us vs : List Value} {Ls : List (List Int)} (h : Parts C w vs Ls) (hr : RowS B w (.slice (some ⟨g, 0, none⟩) n c) us) (i : Nat) (u : Value) : Parts C (w.setCell ⟨g, i, none⟩ u) vs Ls :=
  ⟨h.len, fun j hj => World.ownsRow.kept (h.at_ j hj) (grown_set w g i u) (own_kinds (h.at_ j hj) hr (by decide))⟩
theorem fillS (us : List Value) (n : Nat) (u : Value) (h : us.length < n) : (us ++ List.replicate (n - us.length) nilS).set us.length u = (us ++ [u]) ++ List.replicate (n - (us.length + 1)) nilS := by
  have e : n - us.length = (n - (us.length + 1)) + 1 := by omega
  rw [e, List.replicate_succ, List.set_append, if_neg (by omega), Nat.sub_self, List.set_cons_zero, List.append_assoc]
  rfl
theorem tot_map (R x : Int) : ∀ (Ls : List (List Int)) (l : List Int), Ls.map (val R) = l → tot R x Ls = val x l
  | [], l, h => by rw [← h]; rfl
  | L :: r, l, h => by
    rw [← h]
    show val R L + x * tot R x r = val R L + x * val x (r.map (val R))
    rw [tot_map R x r _ rfl]
def slLen : Value → Nat | .slice _ n _ => n | _ => 0
/-- A row of one sum. -/
theorem one_sum (w : World) (d : Int) : Arg .u64 (w.alloc (.cells #[.int .u64 d] 66)) (some ⟨w.heap.size, 0, none⟩) 1 [d] := ⟨fun h => (by cases h), Nat.le_refl _, by decide, fun i hi => ⟨w.heap.size, 0, rfl, by
  have hi0 : i = 0 := by have : i < 1 := hi; omega
  subst hi0
  have e := heap_new w (.cells #[.int .u64 d] 66)
  unfold World.cell?
  rw [e]
  rfl⟩⟩
theorem sum_at {w : World} {d R : Int} (hd : 0 ≤ d ∧ d ≤ 65536) (hR : 10000 ≤ R ∧ R ≤ 65536) :
    Calls Tryd.prog 46 #[.slice (some ⟨w.heap.size, 0, none⟩) 1 1, .int .u64 R] (w.alloc (.cells #[.int .u64 d] 66)) fun e w' => ∃ v D, e = .returned v ∧ Own 52 .u16 w.heap.size w' v D ∧ Dig R D ∧ Tidy D ∧ D.length ≤ 2 ∧ val R D = d ∧ Below w.heap.size w w' := by
  have h := carried_at (R := R) (one_sum w d) (Dig.one (by unfold M64; omega)) (by simp) hR
  refine h.mono ?_
  rintro e w' ⟨v, D, rfl, o, dd, t, hv, hb⟩
  have hv2 : val R D = d := by rw [hv]; show d + R * 0 = d; omega
  refine ⟨v, D, rfl, o.base (by simp), dd, t, tidy_len (by omega) dd t ?_, hv2, ((Below.refl _ _).alloc (Nat.le_refl _) _).trans (hb.mono (by simp))⟩
  rw [hv2]
  have : 10000 * 10000 ≤ R * R := Int.mul_le_mul hR.1 hR.1 (by decide) (by omega)
  have e2 : R ^ 2 = R * R := by rw [Int.pow_succ, Int.pow_succ, Int.pow_zero, Int.one_mul]
  omega
set_option maxRecDepth 100000 in
set_option maxHeartbeats 8000000 in
theorem rebased_at {w : World} {p : Option Addr} {c : Nat} {l : List Int} {F R : Int} (a1 : Arg .u16 w p c l) (d1 : Dig F l) (hF : 10000 ≤ F ∧ F ≤ 65536) (hR : 10000 ≤ R ∧ R ≤ 65536) (h0 : 0 < l.length) (hl : l.length ≤ 300) :
    Calls Tryd.prog 43 #[.slice p l.length c, .int .u64 F, .int .u64 R] w fun e w' => ∃ v D, e = .returned v ∧ Own 52 .u16 w.heap.size w' v D ∧ Dig R D ∧ Tidy D ∧ val R D = val F l ∧ Below w.heap.size w w' := by
  have hle := a1.le
  have hmx := a1.max
  obtain ⟨b, off, rfl, hc⟩ := a1.at h0
  obtain ⟨w1, hr, ho, hb1⟩ := make_slices w (B := w.heap.size) l.length (by omega) (Nat.le_refl _)
  obtain ⟨G, hG⟩ : ∃ G, G = w.heap.size := ⟨_, rfl⟩
  have hbk : b < w.heap.size := World.block_lt_of_cell? w _ (hc 0 h0)
  rw [← hG] at hr ho hb1 hbk ⊢
  have H := Lib.hid (And.intro hc (And.intro d1 (And.intro ho (And.intro hb1 hG))))
  clear a1 d1 hc ho hb1 hG
  go_enter Tryd.func43, Tryd.ntmps43
  go_wp2_with fail
  go_loopw [16] (fun t wr => ∃ (k : Nat) (us : List Value) (Ls : List (List Int)), t = .int .i64 k ∧ k ≤ l.length ∧ Hid (us.length = k ∧ Ls.map (val R) = l.take k ∧ Good R 2 Ls ∧ RowS G wr (.slice (some ⟨G, 0, none⟩) l.length l.length) (us ++ List.replicate (l.length - k) nilS) ∧ Parts G wr us Ls ∧ Below G w wr)) (fun t _ => l.length - (intOf t).toNat)
  case atStart => exact ⟨0, [], [], rfl, Nat.zero_le _, rfl, rfl, (fun L hL => by cases hL), H.out.2.2.1, Parts.nil _ _, H.out.2.2.2.1⟩
  case round =>
    obtain ⟨k, us, Ls, rfl, hk, hX⟩ := hrel
    by_cases hlt : k < l.length
    · have ck := (hX.out.2.2.2.2.2.cell (p := ⟨b, off + k, none⟩) hbk).trans (H.out.1 k hlt)
      have dk := H.out.2.1.getD (by omega) k
      obtain ⟨d, hd⟩ : ∃ d, d = l.getD k 0 := ⟨_, rfl⟩
      rw [← hd] at ck dk
      have S1 := Lib.hid (sum_at (w := wr) (d := d) (by omega) hR)
      have q1 : decide ((k : Int) < (l.length : Int)) = true := by rw [decide_eq_true_eq]; omega
      have f1 : (k : Int) < (l.length : Int) := by omega
      have e1 : IntKind.u64.wrap d = d := by rw [wrapU]; unfold M64; omega
      have HDk := Lib.hid (And.intro hd dk)
      clear hd dk
      go_wp2_with fail
      refine S1.out.mono ?_
      rintro e w2 ⟨v2, D, rfl, oD, dD, tD, lD, vD, B2⟩
      obtain ⟨p2, c2, rfl, -, -⟩ := oD.arg
      have hr2 := hX.out.2.2.2.1.below B2
      have hp2 := (hX.out.2.2.2.2.1.below B2).snoc (oD.base (by rw [H.out.2.2.2.2]; exact hX.out.2.2.2.2.2.size))
      have hb2 := hX.out.2.2.2.2.2.trans (B2.mono (by rw [H.out.2.2.2.2]; exact hX.out.2.2.2.2.2.size))
      have hul : (us ++ List.replicate (l.length - k) nilS).length = l.length := by rw [List.length_append, List.length_replicate, hX.out.1]; omega
      have gk : w2.cell? ⟨G, k, none⟩ = some nilS := by
        obtain ⟨p', c', hv', hc'⟩ := hr2.form
        rw [hul] at hv' hc'
        obtain ⟨g', hg', -, -, hcc⟩ := hc' h0
        simp only [Value.slice.injEq] at hv'
        rw [← hv'.1] at hg'
        cases hg'
        rw [hcc k hlt]
        rw [List.getD_eq_getElem?_getD, List.getElem?_append_right (by rw [hX.out.1]; exact Nat.le_refl _), hX.out.1, Nat.sub_self, List.getElem?_replicate, if_pos (by omega)]
        rfl
      have gf : w2.frozen? ⟨G, k, none⟩ = false := by
        have h' := hr2
        unfold RowS at h'
        rw [hul] at h'
        exact World.ownsRow.frozenAt h' k
      unfold nilS at gk
      have HP := Lib.hid (And.intro oD (And.intro dD (And.intro tD (And.intro lD (And.intro vD (And.intro hr2 (And.intro hp2 hb2)))))))
      clear oD dD tD lD vD B2 hr2 hp2 hb2 hul
      go_wp2_with fail
      go_roundw
      case rel =>
        obtain ⟨oD, dD, tD, lD, vD, hr2, hp2, hb2⟩ := HP.out
        have hlu := hX.out.1
        have hs := hr2.set (by rw [List.length_append, List.length_replicate, hlu]; omega) k (.slice p2 D.length c2)
        have hfs := fillS us l.length (.slice p2 D.length c2) (by omega)
        rw [hlu] at hfs
        rw [hfs] at hs
        refine ⟨k + 1, us ++ [.slice p2 D.length c2], Ls ++ [D], by go_num, hlt, by rw [List.length_append, hlu]; rfl, ?_, hX.out.2.2.1.snoc ⟨dD, tD, lD⟩, hs, hp2.set hr2 k _, hb2.setCell (p := ⟨G, k, none⟩) (Nat.le_refl _) _⟩
        rw [List.map_append, hX.out.2.1, List.take_add_one, List.getElem?_eq_getElem hlt]
        congr 1
        show [val R D] = [l[k]]
        rw [vD, HDk.out.1, List.getD_eq_getElem?_getD, List.getElem?_eq_getElem hlt]
        rfl
      case measure => simp [intOf]; omega
    · have hz : k = l.length := by omega
      subst hz
      have q1 : decide ((l.length : Int) < (l.length : Int)) = false := by simp
      have S1 := Lib.hid (sum_at (w := wr) (d := F) (by omega) hR)
      go_wp2_with fail
      refine S1.out.mono ?_
      rintro e w2 ⟨v2, W, rfl, oD, dD, tD, lD, vD, B2⟩
      obtain ⟨vw, hvw⟩ : ∃ vw, vw = v2 := ⟨_, rfl⟩
      rw [← hvw] at oD ⊢
      have hG2 := H.out.2.2.2.2
      have hrw : RowS G w2 (.slice (some ⟨G, 0, none⟩) l.length l.length) us := by
        have h1 := hX.out.2.2.2.1
        rw [Nat.sub_self, List.replicate_zero, List.append_nil] at h1
        exact h1.below B2
      have hpt := hX.out.2.2.2.2.1.below B2
      have hb2 : Below G w w2 := hX.out.2.2.2.2.2.trans (B2.mono (by rw [hG2]; exact hX.out.2.2.2.2.2.size))
      have htt := tot_map R F Ls l (by have h := hX.out.2.1; rw [List.take_length] at h; exact h)
      have hll : Ls.length = l.length := by rw [← hpt.len]; exact hX.out.1
      have HW := Lib.hid (And.intro oD (And.intro dD (And.intro tD (And.intro lD (And.intro vD (And.intro hrw (And.intro hpt (And.intro hb2 (And.intro htt (And.intro hll hX.out.2.2.1))))))))))
      clear oD dD tD lD vD B2 hrw hpt hb2 htt hll hvw hG2
      go_wp2_with fail
      go_loopw [7, 10] (fun v vw wr => ∃ (K : Nat) (vs : List Value) (Ls : List (List Int)) (W : List Int), Hid (RowS 0 wr v vs ∧ Parts G wr vs Ls ∧ Good R K Ls ∧ Own 52 .u16 0 wr vw W ∧ Dig R W ∧ Tidy W ∧ tot R (val R W) Ls = val F l ∧ 0 < Ls.length ∧ Ls.length ≤ l.length ∧ W.length * (Ls.length - 1) ≤ 2 * l.length ∧ W.length ≤ 2 * l.length + 2 ∧ K + 700 * Ls.length ≤ 2 + 700 * l.length + 700 ∧ Below G w wr)) (fun v _ _ => slLen v)
      case atStart =>
        obtain ⟨oD, dD, tD, lD, vD, hrw, hpt, hb2, htt, hll, hgd⟩ := HW.out
        refine ⟨2, us, Ls, W, hrw.base (Nat.zero_le _), hpt, hgd, oD.base (Nat.zero_le _), dD, tD, by rw [vD]; exact htt, by omega, by omega, ?_, by omega, by omega, hb2⟩
        have := Nat.mul_le_mul lD (show Ls.length - 1 ≤ l.length by omega)
        omega
      case round =>
        obtain ⟨K, vs, Ls, W, hY⟩ := hrel
        obtain ⟨va, hva⟩ : ∃ va, va = u7 := ⟨_, rfl⟩
        obtain ⟨vb, hvb⟩ : ∃ vb, vb = u10 := ⟨_, rfl⟩
        rw [← hva] at hY ⊢
        rw [← hvb] at hY ⊢
        clear hva hvb
        obtain ⟨p7, c7, e7, hc7⟩ := hY.out.1.form
        obtain ⟨pb, cb, eb, ab, -⟩ := hY.out.2.2.2.1.arg
        have hWl := hY.out.2.2.2.2.2.2.2.2.2.2.1
        have hLl := hY.out.2.2.2.2.2.2.2.2.1
        have hL0 := hY.out.2.2.2.2.2.2.2.1
        have hKl := hY.out.2.2.2.2.2.2.2.2.2.2.2.1
        have hGr : G ≤ wr.heap.size := by rw [H.out.2.2.2.2]; exact hY.out.2.2.2.2.2.2.2.2.2.2.2.2.size
        have J1 := Lib.hid (joined_at hGr hY.out.1 hY.out.2.1 ab hY.out.2.2.2.2.1 hY.out.2.2.1 (by omega) (by omega) hR)
        have Hm : slLen va = Ls.length := by rw [e7]; exact hY.out.2.1.len
        subst eb
        clear ab hc7 e7
        go_wp2_with fail
        refine J1.out.mono ?_
        rintro e w2 ⟨v2, vs2, Ms, rfl, hr2, hp2, hg2, hl2, ht2, B2⟩
        have hbt := hY.out.2.2.2.2.2.2.2.2.2.2.2.2.trans (B2.mono hGr)
        obtain ⟨p8, c8, rfl, hc8⟩ := hr2.form
        rw [hp2.len] at hc8 ⊢
        have oW2 := hY.out.2.2.2.1.below B2
        have HJ := Lib.hid (And.intro hr2 (And.intro hp2 (And.intro hg2 (And.intro hl2 (And.intro ht2 (And.intro hbt oW2))))))
        clear ht2 hbt B2 oW2 hr2 hg2 hGr
        by_cases h1 : Ms.length = 1
        · obtain ⟨g8, rfl, -, -, hc9⟩ := hc8 (by omega)
          have k8 := hc9 0 (by omega)
          have o8 := hp2.at_ 0 (by rw [hp2.len]; omega)
          have q1 : decide ((Ms.length : Int) = 1) = true := by rw [decide_eq_true_eq]; omega
          obtain ⟨x8, hx8⟩ : ∃ x8, x8 = vs2.getD 0 undef := ⟨_, rfl⟩
          rw [← hx8] at k8 o8
          have HK := Lib.hid o8
          clear hc8 hc9 hx8 o8 hp2 hl2
          go_wp2_with fail
          go_ret
          obtain ⟨hr2, hp2, hg2, hl2, ht2, hbt, oW2⟩ := HJ.out
          have g1 := hg2.getD (i := 0) (by omega)
          refine ⟨x8, Ms.getD 0 [], rfl, HK.out, g1.1, g1.2.1, ?_, hbt⟩
          rw [hY.out.2.2.2.2.2.2.1] at ht2
          rw [← ht2]
          obtain ⟨M, hM⟩ := List.length_eq_one_iff.1 h1
          rw [hM]
          show val R M = val R M + _ * 0
          omega
        · have q1 : decide ((Ms.length : Int) = 1) = false := by rw [decide_eq_false_iff_not]; omega
          obtain ⟨pb2, cb2, eb2, ab2, -⟩ := HJ.out.2.2.2.2.2.2.arg
          simp only [Value.slice.injEq] at eb2
          obtain ⟨rfl, -, rfl⟩ := eb2
          have T1 := Lib.hid (times_at ab2 ab2 (hY.out.2.2.2.2.1.mono hR.2) (hY.out.2.2.2.2.1.mono hR.2) (by omega) (by omega) hR)
          have f1 : ¬ ((Ms.length : Int) = 1) := by omega
          clear hc8 hp2 ab2 hl2
          go_wp2_with fail
          refine T1.out.mono ?_
          rintro e w3 ⟨v3, X, rfl, oX, dX, tX, vX, B3⟩
          obtain ⟨v3', hv3⟩ : ∃ v3', v3' = v3 := ⟨_, rfl⟩
          rw [← hv3] at oX ⊢
          have HX := Lib.hid (And.intro oX (And.intro dX (And.intro tX (And.intro vX B3))))
          clear oX dX tX vX B3 hv3
          go_wp2_with fail
          go_roundw
          case rel =>
            obtain ⟨oX, dX, tX, vX, B3⟩ := HX.out
            obtain ⟨hr2, hp2, hg2, hl2, ht2, hbt, oW2⟩ := HJ.out
            have dW := hY.out.2.2.2.2.1
            have hWb := hY.out.2.2.2.2.2.2.2.2.2.1
            have hXl : X.length ≤ 2 * W.length := by
              refine tidy_len (by omega) dX tX ?_
              have m2 := val_lt (show 0 < R by omega) dW
              have m4 := val_nonneg (show 0 ≤ R by omega) dW
              have m6 := pow_pos' (show 0 < R by omega) W.length
              have m7 : val R W * val R W ≤ val R W * R ^ W.length := Int.mul_le_mul_of_nonneg_left (by omega) m4
              have m8 : val R W * R ^ W.length < R ^ W.length * R ^ W.length := Int.mul_lt_mul_of_pos_right (by omega) m6
              rw [vX, Nat.two_mul, Int.pow_add]
              omega
            have s1 : X.length * (Ms.length - 1) ≤ 2 * l.length := by
              have e1 := Nat.mul_le_mul_right (Ms.length - 1) hXl
              have e2 : 2 * W.length * (Ms.length - 1) = W.length * (2 * (Ms.length - 1)) := by
                rw [Nat.mul_comm 2 W.length, Nat.mul_assoc]
              have e3 := Nat.mul_le_mul_left W.length (show 2 * (Ms.length - 1) ≤ Ls.length - 1 by omega)
              omega
            have s2 : X.length ≤ X.length * (Ms.length - 1) := Nat.le_mul_of_pos_right _ (by omega)
            rw [hp2.len] at hr2
            refine ⟨K + W.length + 1, vs2, Ms, X, (hr2.below B3).base (Nat.zero_le _), hp2.below B3, hg2, oX.base (Nat.zero_le _), dX, tX, ?_, by omega, by omega, s1, by omega, by omega, hbt.trans (B3.mono (by have := hbt.size; have := H.out.2.2.2.2; omega))⟩
            rw [vX, ht2]
            exact hY.out.2.2.2.2.2.2.1
          case measure =>
            have hl2 := HJ.out.2.2.2.1
            rw [Hm]
            show Ms.length < Ls.length
            omega
end Go.Proofs.YtihgefllmkicaaaDoor
