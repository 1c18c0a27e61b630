/- Contracts: the document's Decode. Conditions: none. -/
import Derived.Test.YtknnmacmohpanaaDoorIsaRg
import Derived.Test.YtknnmacmohpanaaDoorIsaWf
import Derived.Test.YtknnmacmohpanaaDoorIsaSi
import Derived.Deep.LoopGhost
namespace Go.Proofs.YtknnmacmohpanaaDoor
open Go.RowKit

/-- In Decode: the result's block, the instruction's. -/
structure Rd (W : World) (R X : Nat) (op d a b imm : Int) (w : World) : Prop where
  below : Below W.heap.size W w
  res : w.heap[R]? = some (.cells #[.int .i64 0, .int .i64 0, .int .i64 0, .int .i64 0, .int .i64 0] 55 (0, 0))
  inst : w.heap[X]? = some (.cells #[.int .i64 op, .int .i64 d, .int .i64 a, .int .i64 b, .int .i64 imm] 55 (0, 0))
  le : W.heap.size ≤ R
  l1 : R < X
  l2 : X < w.heap.size
theorem Rd.grow {W : World} {R X : Nat} {op d a b imm : Int} {w w2 : World} (s : Rd W R X op d a b imm w) (hb : Below w.heap.size w w2) : Rd W R X op d a b imm w2 :=
  have q0 := s.le; have q1 := s.l1; have q2 := s.l2
  ⟨s.below.trans (hb.mono s.below.size), (hb.block _ (by omega)).trans s.res, (hb.block _ (by omega)).trans s.inst, q0, q1, Nat.lt_of_lt_of_le q2 hb.size⟩
theorem Rd.store {W : World} {R X : Nat} {op d a b imm : Int} {w : World} (s : Rd W R X op d a b imm w) (i : Nat) (x : Int) {op2 d2 a2 b2 imm2 : Int} (hi : i < 5)
    (he : (#[Value.int .i64 op, Value.int .i64 d, Value.int .i64 a, Value.int .i64 b, Value.int .i64 imm] : Array Value).setIfInBounds i (.int .i64 x) = #[.int .i64 op2, .int .i64 d2, .int .i64 a2, .int .i64 b2, .int .i64 imm2]) :
    Rd W R X op2 d2 a2 b2 imm2 (w.setCell ⟨X, i, none⟩ (.int .i64 x)) :=
  have q0 := s.le; have q1 := s.l1; have q2 := s.l2
  ⟨s.below.setCell (by show W.heap.size ≤ X; omega) _, (Below.heap_setCell _ _ _ _ (by show _ ≠ X; omega)).trans s.res,
    by rw [← he]; exact setCell_block s.inst (by simpa using hi), q0, q1, by simp [World.setCell]; exact q2⟩
theorem Rd.drew {W : World} {R X : Nat} {op d a b imm : Int} {w : World} (s : Rd W R X op d a b imm w) : Rd W R X op d a b imm w.drew := ⟨s.below.drew, s.res, s.inst, s.le, s.l1, s.l2⟩
theorem Rd.facts {W : World} {R X : Nat} {op d a b imm : Int} {w : World} (s : Rd W R X op d a b imm w) :
    w.cell? ⟨X, 0, none⟩ = some (.int .i64 op) ∧ w.cell? ⟨X, 1, none⟩ = some (.int .i64 d) ∧ w.cell? ⟨X, 2, none⟩ = some (.int .i64 a) ∧ w.cell? ⟨X, 3, none⟩ = some (.int .i64 b) ∧ w.cell? ⟨X, 4, none⟩ = some (.int .i64 imm) ∧
    w.frozen? ⟨X, 0, none⟩ = false ∧ w.frozen? ⟨X, 1, none⟩ = false ∧ w.frozen? ⟨X, 2, none⟩ = false ∧ w.frozen? ⟨X, 3, none⟩ = false ∧ w.frozen? ⟨X, 4, none⟩ = false := by
  obtain ⟨c0, c1, c2, c3, c4⟩ := cells5 s.inst
  exact ⟨c0, c1, c2, c3, c4, frozen5 s.inst 0, frozen5 s.inst 1, frozen5 s.inst 2, frozen5 s.inst 3, frozen5 s.inst 4⟩
theorem Rd.facts2 {W : World} {R X : Nat} {op d a b imm : Int} {w : World} (s : Rd W R X op d a b imm w) :
    (w.cell? ⟨R, 0, none⟩ = some (.int .i64 0) ∧ w.cell? ⟨R, 1, none⟩ = some (.int .i64 0) ∧ w.cell? ⟨R, 2, none⟩ = some (.int .i64 0) ∧ w.cell? ⟨R, 3, none⟩ = some (.int .i64 0) ∧ w.cell? ⟨R, 4, none⟩ = some (.int .i64 0)) ∧
    (w.frozen? ⟨R, 0, none⟩ = false ∧ w.frozen? ⟨R, 1, none⟩ = false ∧ w.frozen? ⟨R, 2, none⟩ = false ∧ w.frozen? ⟨R, 3, none⟩ = false ∧ w.frozen? ⟨R, 4, none⟩ = false) :=
  ⟨cells5 s.res, frozen5 s.res 0, frozen5 s.res 1, frozen5 s.res 2, frozen5 s.res 3, frozen5 s.res 4⟩

theorem most_same {m : Int} (op : Int) (w : World) (h : Isa.high op = m) : Calls Tryd.prog 55 #[.int .i64 op] w fun e w' => e = .returned (.int .i64 m) ∧ w' = w := by rw [← h]; exact sameM op w
theorem least_same {m : Int} (op : Int) (w : World) (h : Isa.low op = m) : Calls Tryd.prog 56 #[.int .i64 op] w fun e w' => e = .returned (.int .i64 m) ∧ w' = w := by rw [← h]; exact sameL op w
theorem Rd.drewN {W : World} {R X : Nat} {op d a b imm : Int} {w : World} (s : Rd W R X op d a b imm w) (n : Nat) : Rd W R X op d a b imm (w.drewN n) :=
  ⟨below_drewN s.below n, by rw [World.heap_drewN]; exact s.res, by rw [World.heap_drewN]; exact s.inst, s.le, s.l1, by rw [World.heap_drewN]; exact s.l2⟩
set_option maxRecDepth 100000 in
set_option maxHeartbeats 4000000 in
theorem rdec_any (v : Int) (w : World) (v0 : 0 ≤ v) (v1 : v < 4294967296) :
    Calls Tryd.prog 33 #[.int .u32 v] w fun e w' => Dec (v / 67108864) (Isa.fD v) (Isa.fA v) (Isa.fB v) (Isa.fImm v) e ∧ Below w.heap.size w w' := by
  go_enter Tryd.func33, Tryd.ntmps33
  obtain ⟨x0, h0⟩ : ∃ x, Isa.sh v 0 = x := ⟨_, rfl⟩
  obtain ⟨x1, h1⟩ : ∃ x, Isa.sh v 1 = x := ⟨_, rfl⟩
  obtain ⟨x2, h2⟩ : ∃ x, Isa.sh v 2 = x := ⟨_, rfl⟩
  have HF : Hid (Isa.fD v = Isa.dD x0 v ∧ Isa.fA v = Isa.dA x0 x1 v ∧ Isa.fB v = Isa.dB x0 x1 x2 v) := by
    unfold Hid Isa.fD Isa.fA Isa.fB; rw [h0, h1, h2]; exact ⟨rfl, rfl, rfl⟩
  have HX := Lib.hid (And.intro h0 (And.intro h1 h2))
  clear h0 h1 h2
  unfold Isa.sh Isa.dOp at HX
  go_upto_region 5 with fail
  have s1 : Rd w w.heap.size (w.heap.size + 1) (v / 67108864) 0 0 0 0 ((w.alloc (.cells #[.int .i64 0, .int .i64 0, .int .i64 0, .int .i64 0, .int .i64 0] 55)).alloc (.cells #[.int .i64 (v / 67108864), .int .i64 0, .int .i64 0, .int .i64 0, .int .i64 0] 55)) := by
    refine ⟨((Below.refl _ _).alloc (Nat.le_refl _) _).alloc (by simp) _, (Below.heap_alloc _ _ _ (by simp)).trans (heap_new _ _), ?_, Nat.le_refl _, by omega, by simp⟩
    rw [← World.size_alloc w (.cells #[.int .i64 0, .int .i64 0, .int .i64 0, .int .i64 0, .int .i64 0] 55)]; exact heap_new _ _
  obtain ⟨w2, hw2⟩ : ∃ w2, w2 = ((w.alloc (.cells #[.int .i64 0, .int .i64 0, .int .i64 0, .int .i64 0, .int .i64 0] 55)).alloc (.cells #[.int .i64 (v / 67108864), .int .i64 0, .int .i64 0, .int .i64 0, .int .i64 0] 55)) := ⟨_, rfl⟩
  rw [← hw2] at s1 ⊢
  clear hw2
  obtain ⟨X, hX⟩ : ∃ X, X = w.heap.size + 1 := ⟨_, rfl⟩
  rw [← hX] at s1 ⊢
  clear hX
  obtain ⟨R, hR⟩ : ∃ R, R = w.heap.size := ⟨_, rfl⟩
  have HR : Hid (R = w.heap.size) := hR
  rw [← hR] at s1 ⊢
  clear hR
  obtain ⟨c0, c1, c2, c3, c4, f0, f1, f2, f3, f4⟩ := s1.facts
  go_upto_if 19 with (go_at_call 51; refine (hasD_val _ _ _ HX.out.1).mono ?_; rintro e w' ⟨rfl, rfl⟩)
  go_cut [5] (fun u wx => ∃ t : Int, u = .int .i64 t ∧ Hid (t = if x0 then 65536 else 2097152) ∧ Rd w R X (v / 67108864) (Isa.dD x0 v) 0 0 0 wx)
  case first =>
    cases x0
    · go_wp2_with fail
      go_meet
      case rel => exact ⟨_, rfl, rfl, s1⟩
    · go_wp2_with fail
      go_meet
      case rel => exact ⟨_, rfl, rfl, s1.store 1 _ (by decide) rfl⟩
  obtain ⟨t, rfl, HT, s2⟩ := hcut
  clear c0 c1 c2 c3 c4 f0 f1 f2 f3 f4 s1
  obtain ⟨c0, c1, c2, c3, c4, f0, f1, f2, f3, f4⟩ := s2.facts
  go_upto_if 29 with (go_at_call 52; refine (hasA_val _ _ _ HX.out.2.1).mono ?_; rintro e w' ⟨rfl, rfl⟩)
  go_cut [5] (fun u wx => ∃ t : Int, u = .int .i64 t ∧ Hid (t = if x0 then (if x1 then 2048 else 65536) else (if x1 then 65536 else 2097152)) ∧ Rd w R X (v / 67108864) (Isa.dD x0 v) (Isa.dA x0 x1 v) 0 0 wx)
  case first =>
    cases x1
    · go_wp2_with fail
      go_meet
      case rel => exact ⟨_, rfl, by rw [HT.out]; cases x0 <;> rfl, s2⟩
    · cases x0
      all_goals
        obtain rfl := HT.out
        go_wp2_with fail
        go_meet
        case rel => exact ⟨_, rfl, rfl, s2.store 2 _ (by decide) rfl⟩
  obtain ⟨t3, rfl, HT3, s3⟩ := hcut
  clear c0 c1 c2 c3 c4 f0 f1 f2 f3 f4 s2 HT
  obtain ⟨c0, c1, c2, c3, c4, f0, f1, f2, f3, f4⟩ := s3.facts
  go_upto_if 39 with (go_at_call 53; refine (hasB_val _ _ _ HX.out.2.2).mono ?_; rintro e w' ⟨rfl, rfl⟩)
  go_cut [5] (fun _ wx => Rd w R X (v / 67108864) (Isa.dD x0 v) (Isa.dA x0 x1 v) (Isa.dB x0 x1 x2 v) 0 wx)
  case first =>
    cases x2
    · go_wp2_with fail
      go_meet
      case rel => exact s3
    · cases x0 <;> cases x1
      · exfalso
        have hs := Isa.shapes_of (Isa.form (v / 67108864))
        rw [HX.out.1, HX.out.2.1, HX.out.2.2] at hs
        revert hs; decide
      all_goals
        obtain rfl := HT3.out
        go_wp2_with fail
        go_meet
        case rel => exact s3.store 3 _ (by decide) rfl
  have s4 := hcut
  clear hcut
  clear c0 c1 c2 c3 c4 f0 f1 f2 f3 f4 s3
  rw [← HF.out.1, ← HF.out.2.1, ← HF.out.2.2] at s4
  clear HF HX HT3
  obtain ⟨fd, hfd⟩ : ∃ x, x = Isa.fD v := ⟨_, rfl⟩
  obtain ⟨fa, hfa⟩ : ∃ x, x = Isa.fA v := ⟨_, rfl⟩
  obtain ⟨fb, hfb⟩ : ∃ x, x = Isa.fB v := ⟨_, rfl⟩
  rw [← hfd, ← hfa, ← hfb] at s4
  have HFS := Lib.hid (And.intro hfd (And.intro hfa hfb))
  clear hfd hfa hfb
  obtain ⟨nb, hnb⟩ : ∃ nb : Nat, immBits (Isa.form (v / 67108864)) = nb := ⟨_, immBits_nb _⟩
  obtain ⟨lo, hlo⟩ : ∃ x, Isa.low (v / 67108864) = x := ⟨_, rfl⟩
  obtain ⟨hi, hhi⟩ : ∃ x, Isa.high (v / 67108864) = x := ⟨_, rfl⟩
  have HE := Lib.hid (And.intro hnb (And.intro hlo hhi))
  have hn26 : nb ≤ 26 := by have := nb_le (Isa.form (v / 67108864)); rw [immBits_nb] at hnb; omega
  clear hnb hlo hhi
  obtain ⟨c0, c1, c2, c3, c4, f0, f1, f2, f3, f4⟩ := s4.facts
  obtain ⟨pb, hpb⟩ : ∃ pb, decide (0 < nb) = pb := ⟨_, rfl⟩
  have HPB := Lib.hid hpb
  clear hpb
  go_upto_if 48 with (go_at_call 54; refine (bits_val nb _ _ HE.out.1).mono ?_; rintro e w' ⟨rfl, rfl⟩)
  rw [HPB.out]
  go_cut [7, 8] (fun _ _ wx => Rd w R X (v / 67108864) fd fa fb (rImm nb lo hi v) wx)
  case first =>
    cases pb
    · have h0 : nb = 0 := by have := HPB.out; simp at this; omega
      subst h0
      go_wp2_with fail
      go_meet
      case rel => exact s4
    · have h0 : nb ≠ 0 := by have := HPB.out; simp at this; omega
      go_wp2_with fail
      go_loopg [7, 8] nb (fun g z i wr => ∃ k : Nat, k ≤ nb ∧ g = nb - k ∧ i = .int .i64 k ∧ z = .int .i64 ((2 : Int) ^ k) ∧ wr = wc)
      case atStart => exact ⟨0, Nat.zero_le _, rfl, rfl, rfl, rfl⟩
      case round =>
        obtain ⟨k, hk, rfl, rfl, rfl, rfl⟩ := hrel
        have hz : (0 : Int) < 2 ^ k ∧ (2 : Int) ^ k ≤ 67108864 := by
          have h1 := Isa.pow_le_26 (k := k) (by omega)
          have h2 := Nat.two_pow_pos k
          have h3 : (2 : Int) ^ k = ((2 ^ k : Nat) : Int) := by simp
          omega
        obtain ⟨z, hzz⟩ : ∃ z, z = (2 : Int) ^ k := ⟨_, rfl⟩
        rw [← hzz] at hz ⊢
        have HZ := Lib.hid hzz
        clear hzz
        obtain ⟨z0, z1⟩ := hz
        by_cases hlt : k < nb
        · go_wp2_with (go_at_call 54; refine (bits_val nb _ _ HE.out.1).mono ?_; rintro e w' ⟨rfl, rfl⟩)
          go_roundg (nb - (k + 1))
          case measure => omega
          case rel =>
            exact ⟨k + 1, by omega, rfl, by go_num, by rw [Int.pow_succ, ← HZ.out]; congr 1; omega, rfl⟩
        · have hkn : k = nb := by omega
          subst hkn
          go_wp2_with (go_at_call 54; refine (bits_val k _ _ HE.out.1).mono ?_; rintro e w' ⟨rfl, rfl⟩)
          obtain ⟨m, hm⟩ : ∃ m, m = v % z := ⟨_, rfl⟩
          have hmb : 0 ≤ m ∧ m < z := by rw [hm]; exact ⟨Int.emod_nonneg _ (by omega), Int.emod_lt_of_pos _ z0⟩
          rw [← hm]
          have HM : Hid (m = v % (2 : Int) ^ k) := by unfold Hid; rw [hm, HZ.out]
          clear hm
          obtain ⟨m0, m1⟩ := hmb
          have s5 := s4.store (op2 := v / 67108864) (d2 := fd) (a2 := fa) (b2 := fb) (imm2 := m) 4 m (by decide) rfl
          obtain ⟨w6, hw6⟩ : ∃ w6, w6 = wr.setCell ⟨X, 4, none⟩ (.int .i64 m) := ⟨_, rfl⟩
          rw [← hw6] at s5 ⊢
          clear hw6 s4 c0 c1 c2 c3 c4 f0 f1 f2 f3 f4
          obtain ⟨c0, c1, c2, c3, c4, f0, f1, f2, f3, f4⟩ := s5.facts
          by_cases hq : hi < m
          · by_cases hn : lo < 0
            · go_quiet (first
                | (go_at_call 55; exact Calls.quiet_of_same (most_same _ _ HE.out.2.2))
                | (go_at_call 56; exact Calls.quiet_of_same (least_same _ _ HE.out.2.1)))
              go_wp2_with fail
              go_meet
              case rel =>
                have hr : rImm k lo hi v = m - z := by
                  unfold rImm
                  rw [if_neg h0, ← HM.out, ← HZ.out, if_pos ⟨by omega, by omega⟩]
                rw [hr]
                exact (s5.drewN _).store 4 _ (by decide) rfl
            · go_quiet (first
                | (go_at_call 55; exact Calls.quiet_of_same (most_same _ _ HE.out.2.2))
                | (go_at_call 56; exact Calls.quiet_of_same (least_same _ _ HE.out.2.1)))
              go_wp2_with fail
              go_meet
              case rel =>
                have hr : rImm k lo hi v = m := by
                  unfold rImm
                  rw [if_neg h0, ← HM.out, if_neg (by omega)]
                rw [hr]
                exact s5.drewN _
          · go_quiet (first
              | (go_at_call 55; exact Calls.quiet_of_same (most_same _ _ HE.out.2.2))
              | (go_at_call 56; exact Calls.quiet_of_same (least_same _ _ HE.out.2.1)))
            go_wp2_with fail
            go_meet
            case rel =>
              have hr : rImm k lo hi v = m := by
                unfold rImm
                rw [if_neg h0, ← HM.out, if_neg (by omega)]
              rw [hr]
              exact s5.drewN _
  have s5 := hcut
  clear hcut
  clear c0 c1 c2 c3 c4 f0 f1 f2 f3 f4 s4
  obtain ⟨ri, hri⟩ : ∃ ri, ri = rImm nb lo hi v := ⟨_, rfl⟩
  rw [← hri] at s5
  have HI : Hid (ri = rImm (nbN (Isa.form (Isa.dOp v))) (Isa.low (Isa.dOp v)) (Isa.high (Isa.dOp v)) v) := by
    unfold Hid Isa.dOp
    have h1 := HE.out.1
    rw [immBits_nb] at h1
    rw [hri, ← HE.out.2.1, ← HE.out.2.2]
    congr 1
    omega
  clear hri HPB
  obtain ⟨c0, c1, c2, c3, c4, f0, f1, f2, f3, f4⟩ := s5.facts
  go_wp2_with fail
  refine (renc_any _ _ _ _ _ _).mono ?_
  rintro e w7 ⟨rfl, hb⟩
  replace s5 := s5.grow hb
  clear hb c0 c1 c2 c3 c4 f0 f1 f2 f3 f4
  obtain ⟨c0, c1, c2, c3, c4, f0, f1, f2, f3, f4⟩ := s5.facts
  obtain ⟨⟨g0, g1, g2, g3, g4⟩, k0, k1, k2, k3, k4⟩ := s5.facts2
  unfold chk Isa.enc
  cases ho : Isa.ok (v / 67108864) fd fa fb ri
  · have hk := Lib.hid ho
    clear ho
    simp only [Bool.false_eq_true, if_false]
    go_wp2_with fail
    obtain ⟨b5, h5⟩ := store5 (x0 := .int .i64 0) (x1 := .int .i64 0) (x2 := .int .i64 0) (x3 := .int .i64 0) (x4 := .int .i64 0) s5.below s5.res (by have := HR.out; omega)
    obtain ⟨wz, hwz⟩ : ∃ wz, wz = (((((w7.setCell ⟨R, 0, none⟩ (.int .i64 0)).setCell ⟨R, 1, none⟩ (.int .i64 0)).setCell ⟨R, 2, none⟩ (.int .i64 0)).setCell ⟨R, 3, none⟩ (.int .i64 0)).setCell ⟨R, 4, none⟩ (.int .i64 0)) := ⟨_, rfl⟩
    rw [← hwz] at b5 h5 ⊢
    clear hwz
    obtain ⟨z0, z1, z2, z3, z4⟩ := cells5 h5
    refine bodyPost_ret (v := .tuple #[.agg #[.int .i64 0, .int .i64 0, .int .i64 0, .int .i64 0, .int .i64 0], .int .i64 11]) (by simp [results, Tryd.results33, go_sem, z0, z1, z2, z3, z4]) rfl ⟨?_, b5⟩
    refine dec_bad ?_
    rw [← HFS.out.1, ← HFS.out.2.1, ← HFS.out.2.2]
    cases hd : Isa.dOk v
    · unfold Isa.dOk Isa.dOp at hd
      rw [← HFS.out.1, ← HFS.out.2.1, ← HFS.out.2.2] at hd
      exact hd
    · have := rImm_ok hd
      rw [← HI.out] at this
      rw [← this]
      exact hk.out
  · have hk := Lib.hid ho
    clear ho
    simp only [if_true]
    obtain ⟨y, hy⟩ : ∃ y, y = Isa.word (v / 67108864) fd fa fb ri := ⟨_, rfl⟩
    rw [← hy]
    have HY := Lib.hid hy
    clear hy
    by_cases hw : y = v
    · subst hw
      go_wp2_with fail
      obtain ⟨b5, h5⟩ := store5 (x0 := .int .i64 (y / 67108864)) (x1 := .int .i64 fd) (x2 := .int .i64 fa) (x3 := .int .i64 fb) (x4 := .int .i64 ri) s5.below s5.res (by have := HR.out; omega)
      obtain ⟨wz, hwz⟩ : ∃ wz, wz = (((((w7.setCell ⟨R, 0, none⟩ (.int .i64 (y / 67108864))).setCell ⟨R, 1, none⟩ (.int .i64 fd)).setCell ⟨R, 2, none⟩ (.int .i64 fa)).setCell ⟨R, 3, none⟩ (.int .i64 fb)).setCell ⟨R, 4, none⟩ (.int .i64 ri)) := ⟨_, rfl⟩
      rw [← hwz] at b5 h5 ⊢
      clear hwz
      obtain ⟨z0, z1, z2, z3, z4⟩ := cells5 h5
      refine bodyPost_ret (v := .tuple #[.agg #[.int .i64 (y / 67108864), .int .i64 fd, .int .i64 fa, .int .i64 fb, .int .i64 ri], .int .i64 0]) (by simp [results, Tryd.results33, go_sem, z0, z1, z2, z3, z4]) rfl ⟨?_, b5⟩
      have hf : Isa.fImm y = ri := by
        refine rImm_bad (v := y) (im := ri) ?_ ?_
        · rw [← HFS.out.1, ← HFS.out.2.1, ← HFS.out.2.2]; exact hk.out
        · rw [← HFS.out.1, ← HFS.out.2.1, ← HFS.out.2.2]; exact HY.out.symm
      rw [hf, ← HFS.out.1, ← HFS.out.2.1, ← HFS.out.2.2]
      exact dec_ok hk.out
    · have hw2 : (y == v) = false := beq_eq_false_iff_ne.2 hw
      go_wp2_with fail
      obtain ⟨b5, h5⟩ := store5 (x0 := .int .i64 0) (x1 := .int .i64 0) (x2 := .int .i64 0) (x3 := .int .i64 0) (x4 := .int .i64 0) s5.below s5.res (by have := HR.out; omega)
      obtain ⟨wz, hwz⟩ : ∃ wz, wz = (((((w7.setCell ⟨R, 0, none⟩ (.int .i64 0)).setCell ⟨R, 1, none⟩ (.int .i64 0)).setCell ⟨R, 2, none⟩ (.int .i64 0)).setCell ⟨R, 3, none⟩ (.int .i64 0)).setCell ⟨R, 4, none⟩ (.int .i64 0)) := ⟨_, rfl⟩
      rw [← hwz] at b5 h5 ⊢
      clear hwz
      obtain ⟨z0, z1, z2, z3, z4⟩ := cells5 h5
      refine bodyPost_ret (v := .tuple #[.agg #[.int .i64 0, .int .i64 0, .int .i64 0, .int .i64 0, .int .i64 0], .int .i64 11]) (by simp [results, Tryd.results33, go_sem, z0, z1, z2, z3, z4]) rfl ⟨?_, b5⟩
      refine dec_bad ?_
      cases hd : Isa.dOk v
      · unfold Isa.dOk Isa.dOp at hd
        exact hd
      · exfalso
        have h1 := rImm_ok hd
        rw [← HI.out] at h1
        have h2 := Isa.enc_dec hd
        rw [← h1, ← HFS.out.1, ← HFS.out.2.1, ← HFS.out.2.2] at h2
        exact hw (HY.out.trans h2)
end Go.Proofs.YtknnmacmohpanaaDoor
