/- Contracts: sums carried. Conditions: the sums lie as told. -/
import Derived.Test.YtihgefllmkicaaaDoorBgH
namespace Go.Proofs.YtihgefllmkicaaaDoor
open Go.RowKit Bg
set_option linter.unusedVariables false
set_option linter.unusedSimpArgs false


theorem fill_put (D : List Int) (n : Nat) (x : Int) (h : D.length < n) : (D ++ List.replicate (n - D.length) 0).set D.length x = (D ++ [x]) ++ List.replicate (n - (D.length + 1)) 0 := by
  have e : n - D.length = (n - (D.length + 1)) + 1 := by omega
  rw [e, List.replicate_succ, List.set_append, if_neg (by omega), Nat.sub_self, List.set_cons_zero, List.append_assoc]
  rfl
theorem carry_next {R s C : Int} (hR : 10000 ≤ R ∧ R ≤ 65536) (hs : 0 ≤ s ∧ s < M64) (hC : 0 ≤ C ∧ C ≤ 4503599627370496) :
    (0 ≤ s % R + C ∧ s % R + C < M64) ∧ (0 ≤ (s % R + C) % R ∧ (s % R + C) % R < R) ∧ (0 ≤ s / R + (s % R + C) / R ∧ s / R + (s % R + C) / R ≤ 4503599627370496) ∧ s + C = (s % R + C) % R + R * (s / R + (s % R + C) / R) := by
  have h1 := Int.emod_nonneg s (show R ≠ 0 by omega)
  have h2 := Int.emod_lt_of_pos s (show 0 < R by omega)
  have h3 := Int.emod_nonneg (s % R + C) (show R ≠ 0 by omega)
  have h4 := Int.emod_lt_of_pos (s % R + C) (show 0 < R by omega)
  have h5 := Int.emod_add_mul_ediv s R
  have h6 := Int.emod_add_mul_ediv (s % R + C) R
  have h7 : 0 ≤ s / R := Int.ediv_nonneg hs.1 (by omega)
  have h8 : 0 ≤ (s % R + C) / R := Int.ediv_nonneg (by omega) (by omega)
  have h9 : 10000 * (s / R) ≤ R * (s / R) := Int.mul_le_mul_of_nonneg_right hR.1 h7
  have h10 : 10000 * ((s % R + C) / R) ≤ R * ((s % R + C) / R) := Int.mul_le_mul_of_nonneg_right hR.1 h8
  unfold M64 at *
  refine ⟨⟨by omega, by omega⟩, ⟨h3, h4⟩, ⟨by omega, by omega⟩, ?_⟩
  rw [Int.mul_add]
  omega
structure Carr (R : Int) (S : List Int) (k : Nat) (C : Int) (D : List Int) : Prop where
  len : D.length = k
  dig : Dig R D
  carry : 0 ≤ C ∧ C ≤ 4503599627370496
  val : val R D + R ^ k * C = Bg.val R (S.take k)
theorem Carr.next {R : Int} {S : List Int} {k : Nat} {C : Int} {D : List Int} (h : Carr R S k C D) (hR : 10000 ≤ R ∧ R ≤ 65536) (hS : Dig M64 S) (hk : k < S.length) :
    Carr R S (k + 1) (S.getD k 0 / R + (S.getD k 0 % R + C) / R) (D ++ [(S.getD k 0 % R + C) % R]) := by
  have hs := hS.getD (by decide) k
  have hn := carry_next hR hs h.carry
  refine ⟨by rw [List.length_append, h.len]; rfl, h.dig.app (Dig.one hn.2.1), hn.2.2.1, ?_⟩
  rw [val_snoc, val_take S k hk, ← h.val, h.len, Int.pow_succ, Int.mul_assoc, Int.add_assoc, ← Int.mul_add, ← hn.2.2.2, Int.mul_add]
  omega
set_option maxRecDepth 100000 in
set_option maxHeartbeats 4000000 in
theorem carried_at {w : World} {p : Option Addr} {c : Nat} {S : List Int} {R : Int} (h : Arg .u64 w p c S) (hS : Dig M64 S) (hn : S.length ≤ 100000000) (hR : 10000 ≤ R ∧ R ≤ 65536) :
    Calls Tryd.prog 46 #[.slice p S.length c, .int .u64 R] w fun e w' => ∃ v D, e = .returned v ∧ Own 52 .u16 w.heap.size w' v D ∧ Dig R D ∧ Tidy D ∧ val R D = val R S ∧ Below w.heap.size w w' := by
  have hle := h.le
  have hmx := h.max
  obtain ⟨w1, hr, ho, hb1⟩ := make_own kt16 w (B := w.heap.size) S.length (by omega) (Nat.le_refl _)
  obtain ⟨G, hG⟩ : ∃ G, G = w.heap.size := ⟨_, rfl⟩
  rw [← hG] at hr ho hb1 ⊢
  have H := Lib.hid h
  have HD := Lib.hid (And.intro hS hR)
  have HO := Lib.hid (And.intro ho (And.intro hb1 hG))
  clear h hS ho hb1 hG
  have r0 : ¬ R = 0 := by omega
  have r1 := hR.1
  have r2 := hR.2
  clear hR
  go_enter Tryd.func46, Tryd.ntmps46
  go_wp2_with fail
  go_loopw [6, 14] (fun t s wr => ∃ (k : Nat) (C : Int) (D : List Int), s = .int .i64 k ∧ t = .int .u64 C ∧ k ≤ S.length ∧ Carr R S k C D ∧ Own 52 .u16 G wr (.slice (some ⟨G, 0, none⟩) S.length S.length) (D ++ List.replicate (S.length - k) 0) ∧ Below G w wr) (fun _ s _ => S.length - (intOf s).toNat)
  case atStart => exact ⟨0, 0, [], rfl, rfl, Nat.zero_le _, ⟨rfl, Dig.nil, ⟨Int.le_refl _, by decide⟩, by simp [val]⟩, HO.out.1, HO.out.2.1⟩
  case round =>
    obtain ⟨k, C, D, rfl, rfl, hk, hC, ho, hb⟩ := hrel
    by_cases hlt : k < S.length
    · obtain ⟨b, off, rfl, hc⟩ := H.out.at (by omega)
      have hck := hc k hlt
      have hbk : b < w.heap.size := World.block_lt_of_cell? w _ hck
      have hck' := (hb.cell (p := ⟨b, off + k, none⟩) (by rw [HO.out.2.2]; exact hbk)).trans hck
      have hbG : b ≠ G := by rw [HO.out.2.2]; omega
      have hxt := hC.next HD.out.2 HD.out.1 hlt
      have hsk := HD.out.1.getD (by decide) k
      have hnx := carry_next HD.out.2 hsk hC.carry
      obtain ⟨x, hx⟩ : ∃ x, x = S.getD k 0 := ⟨_, rfl⟩
      rw [← hx] at hck' hsk hxt hnx
      have hln : (D ++ List.replicate (S.length - k) 0).length = S.length := by rw [List.length_append, List.length_replicate, hC.len]; omega
      have g0 := ho.cell k (by rw [hln]; exact hlt)
      have g1 := ho.free k
      have d1 : decide ((k : Int) < (S.length : Int)) = true := by rw [decide_eq_true_eq]; omega
      have f1 : (k : Int) < (S.length : Int) := by omega
      have HX := Lib.hid (And.intro hx (And.intro hxt (And.intro ho (And.intro hb (And.intro hC.len (And.intro hnx (And.intro hsk hC.carry)))))))
      clear hx hxt ho hb hc hck hbk hln hC hsk hnx
      have n2 := HX.out.2.2.2.2.2.1
      have n3 := HX.out.2.2.2.2.2.2.1
      have n4 := HX.out.2.2.2.2.2.2.2
      obtain ⟨m, hm⟩ : ∃ m, m = x % R := ⟨_, rfl⟩
      obtain ⟨q1, hq1⟩ : ∃ q1, q1 = x / R := ⟨_, rfl⟩
      obtain ⟨lw, hlw⟩ : ∃ lw, lw = m + C := ⟨_, rfl⟩
      obtain ⟨dg, hdg⟩ : ∃ dg, dg = lw % R := ⟨_, rfl⟩
      obtain ⟨q2, hq2⟩ : ∃ q2, q2 = lw / R := ⟨_, rfl⟩
      obtain ⟨cn, hcn⟩ : ∃ cn, cn = q1 + q2 := ⟨_, rfl⟩
      rw [← hm, ← hlw, ← hdg, ← hq1, ← hq2, ← hcn] at n2
      have e1 : x.tmod R = m := by rw [hm]; exact Int.tmod_eq_emod_of_nonneg n3.1
      have e2 : x.tdiv R = q1 := by rw [hq1]; exact Int.tdiv_eq_ediv_of_nonneg n3.1
      have e3 : IntKind.u64.wrap (m + C) = lw := by rw [wrapU, ← hlw]; unfold M64 at *; omega
      have e4 : lw.tmod R = dg := by rw [hdg]; exact Int.tmod_eq_emod_of_nonneg n2.1.1
      have e5 : lw.tdiv R = q2 := by rw [hq2]; exact Int.tdiv_eq_ediv_of_nonneg n2.1.1
      have e6 : IntKind.u16.wrap dg = dg := by rw [IntKind.wrap_u16]; omega
      have e7 : IntKind.u64.wrap (q1 + q2) = cn := by rw [wrapU, ← hcn]; unfold M64 at *; omega
      have h10 : 0 ≤ q1 := by rw [hq1]; exact Int.ediv_nonneg n3.1 (by omega)
      have h11 : 0 ≤ q2 := by rw [hq2]; exact Int.ediv_nonneg n2.1.1 (by omega)
      have e8 : IntKind.u64.wrap q1 = q1 := by rw [wrapU]; unfold M64 at *; omega
      have e9 : IntKind.u64.wrap q2 = q2 := by rw [wrapU]; unfold M64 at *; omega
      clear n2 n3 n4 h10 h11
      have HX2 : Hid (Carr R S (k + 1) cn (D ++ [dg])) := by
        have h := HX.out.2.1
        rw [← hm, ← hq1, ← hlw, ← hdg, ← hq2, ← hcn] at h
        exact Lib.hid h
      clear hcn hlw hdg hq2 hm hq1
      go_wp2_with fail
      have hck2 : (wr.setCell ⟨G, k, none⟩ (.int .u16 dg)).cell? ⟨b, off + k, none⟩ = some (.int .u64 x) := (World.cell?_of_block (w := wr) (Below.heap_setCell _ _ _ _ hbG)).trans hck'
      obtain ⟨w3, hw3⟩ : ∃ w3, w3 = wr.setCell ⟨G, k, none⟩ (.int .u16 dg) := ⟨_, rfl⟩
      rw [← hw3] at hck2 ⊢
      have HW := Lib.hid hw3
      clear hw3 hck' g0 g1
      go_quiet (fail)
      go_wp2_with fail
      go_roundw
      case rel =>
        have hs := (HX.out.2.2.1.set k dg)
        have hfp := fill_put D S.length dg (by rw [HX.out.2.2.2.2.1]; exact hlt)
        rw [HX.out.2.2.2.2.1] at hfp
        rw [← HW.out, hfp] at hs
        refine ⟨k + 1, cn, D ++ [dg], by go_num, ?_, by omega, HX2.out, hs.below (below_drewN (Below.refl _ _) _), below_drewN ?_ _⟩
        · first | rfl | rw [e8, e9, e7]
        rw [HW.out]
        exact HX.out.2.2.2.1.setCell (p := ⟨G, k, none⟩) (Nat.le_refl _) _
      case measure => simp [intOf]; omega
    · have hz : k = S.length := by omega
      subst hz
      have d1 : decide ((S.length : Int) < (S.length : Int)) = false := by simp
      rw [Nat.sub_self, List.replicate_zero, List.append_nil] at ho
      have HX := Lib.hid (And.intro ho (And.intro hb hC))
      clear ho hb hC
      go_wp2_with fail
      go_loopw [5, 6] (fun v s wr => ∃ (j : Nat) (C : Int) (D : List Int), s = .int .u64 C ∧ (0 ≤ C ∧ C ≤ 4503599627370496 ∧ C < 10000 ^ j) ∧ j ≤ 5 ∧ D.length + j ≤ S.length + 5 ∧ Dig R D ∧ val R D + R ^ D.length * C = val R S ∧ Own 52 .u16 G wr v D ∧ Below G w wr) (fun _ s _ => (intOf s).toNat)
      case atStart =>
        have hC := HX.out.2.2
        have hv := hC.val
        rw [List.take_length] at hv
        refine ⟨5, C, D, rfl, ⟨hC.carry.1, hC.carry.2, Int.lt_of_le_of_lt hC.carry.2 (by decide)⟩, by omega, by rw [hC.len]; omega, hC.dig, by rw [hC.len]; exact hv, HX.out.1, HX.out.2.1⟩
      case round =>
        obtain ⟨j, C, D, rfl, hC, hj, hl, hD, hv, ho, hb⟩ := hrel
        obtain ⟨v5, hv5⟩ : ∃ v5, v5 = u5 := ⟨_, rfl⟩
        rw [← hv5] at ho ⊢
        clear hv5
        by_cases h0 : 0 < C
        · obtain ⟨j, rfl⟩ : ∃ i, j = i + 1 := ⟨j - 1, by
            rcases Nat.eq_zero_or_pos j with h | h
            · subst h
              have : (10000 : Int) ^ 0 = 1 := rfl
              omega
            · omega⟩
          have hq : 10000 * (C / R) ≤ C := by
            have a1 : 0 ≤ C / R := Int.ediv_nonneg hC.1 (by omega)
            have a2 : 10000 * (C / R) ≤ R * (C / R) := Int.mul_le_mul_of_nonneg_right r1 a1
            have a3 := Int.emod_add_mul_ediv C R
            have a4 := Int.emod_nonneg C (show R ≠ 0 by omega)
            omega
          have hq0 : 0 ≤ C / R := Int.ediv_nonneg hC.1 (by omega)
          have hq1 : C / R < 10000 ^ j := by
            have h := hC.2.2
            rw [Int.pow_succ] at h
            omega
          have hqC : C / R < C := by omega
          have hd0 := Int.emod_nonneg C (show R ≠ 0 by omega)
          have hd1 := Int.emod_lt_of_pos C (show 0 < R by omega)
          have e1 : C.tmod R = C % R := Int.tmod_eq_emod_of_nonneg hC.1
          have e2 : C.tdiv R = C / R := Int.tdiv_eq_ediv_of_nonneg hC.1
          have e3 : IntKind.u16.wrap (C % R) = C % R := by rw [IntKind.wrap_u16]; omega
          have hv2 : val R (D ++ [C % R]) + R ^ (D.length + 1) * (C / R) = val R S := by
            rw [carry_step]; exact hv
          obtain ⟨x, hx⟩ : ∃ x, x = C % R := ⟨_, rfl⟩
          obtain ⟨q, hq⟩ : ∃ q, q = C / R := ⟨_, rfl⟩
          rw [← hx] at e1 e3 hd0 hd1 hv2
          rw [← hq] at e2 hq0 hq1 hqC hv2
          have hCb := hC.2.1
          have e4 : IntKind.u64.wrap q = q := by rw [wrapU]; unfold M64; omega
          obtain ⟨v', w', hr', ho', hb'⟩ := app_two kt16 (x := x) ho (by omega) (by rw [HO.out.2.2]; exact hb.size)
          have HX2 := Lib.hid (And.intro ho' (And.intro (hb.trans hb') (And.intro hv2 (And.intro (hD.app (Dig.one ⟨hd0, hd1⟩)) (And.intro hq0 hq1)))))
          have HR := Lib.hid hr'
          have d2 : decide (C > 0) = true := by rw [decide_eq_true_eq]; omega
          clear hx hq ho' hb' hv2 hr' ho hb hv hD hd0 hd1
          go_wp2_with (at_builtin; refine Lib.wpList_append_run _ rfl _ _ 22 22 rfl v5 (.slice (some ⟨wr.heap.size, 0, none⟩) 1 1) rfl rfl v' w' HR.out ?_)
          go_roundw
          case rel => exact ⟨j, q, D ++ [x], rfl, ⟨HX2.out.2.2.2.2.1, by omega, HX2.out.2.2.2.2.2⟩, by omega, by rw [List.length_append]; show D.length + 1 + j ≤ _; omega, HX2.out.2.2.2.1, by rw [List.length_append]; exact HX2.out.2.2.1, HX2.out.1, HX2.out.2.1⟩
          case measure => simp [intOf]; omega
        · have hz : C = 0 := by omega
          subst hz
          have d2 : decide ((0 : Int) > 0) = false := rfl
          obtain ⟨p5, c5, rfl, ha, -⟩ := ho.arg
          have hv2 : val R D = val R S := by rw [Int.mul_zero, Int.add_zero] at hv; exact hv
          have htk := ho.take (trimN_le D D.length)
          have HX2 := Lib.hid (And.intro htk (And.intro hb (And.intro hv2 (And.intro hD (And.intro ha (trimN_le D D.length))))))
          clear htk hb hv hv2 hD ha ho
          go_wp2_with (go_at_call 62; refine (trim_at HX2.out.2.2.2.2.1).mono ?_; rintro e w' ⟨rfl, rfl⟩)
          go_ret
          have hlen : (D.take (trimN D D.length)).length = trimN D D.length := by rw [List.length_take]; have := HX2.out.2.2.2.2.2; omega
          refine ⟨_, D.take (trimN D D.length), rfl, HX2.out.1, HX2.out.2.2.2.1.take _, trim_tidy D.length (Nat.le_refl _), ?_, HX2.out.2.1⟩
          rw [trim_val, List.take_length]
          exact HX2.out.2.2.1
end Go.Proofs.YtihgefllmkicaaaDoor
