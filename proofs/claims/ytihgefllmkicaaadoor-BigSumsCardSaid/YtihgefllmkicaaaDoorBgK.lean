/- Contracts: products of rows. Conditions: the rows lie as told. -/
import Derived.Test.YtihgefllmkicaaaDoorBgJ
import Derived.Deep.DeepCutAuto
import Derived.Deep.CutBlock
namespace Go.Proofs.YtihgefllmkicaaaDoor
open Go.RowKit Bg
set_option linter.unusedVariables false
set_option linter.unusedSimpArgs false


theorem replicate_cf (n k : Nat) : cf (List.replicate n 0) k = 0 := by
  unfold cf
  by_cases h : k < n
  · simp [List.getD, List.getElem?_replicate, h]
  · simp [List.getD, List.getElem?_replicate, h]
theorem replicate_dig (n : Nat) : Dig M64 (List.replicate n 0) := by
  intro d hd
  rw [(List.mem_replicate.1 hd).2]
  decide
theorem cv_snoc (b : List Int) (k : Nat) (hk : k < b.length) (f : Nat → Int) (j : Nat) : cv (b.take (k + 1)) f j = cv (b.take k) f j + b.getD k 0 * sh k f j := by
  rw [List.take_add_one, List.getElem?_eq_getElem hk]
  show cv (b.take k ++ [b[k]]) f j = _
  rw [cv_app, List.length_take, Nat.min_eq_left (by omega)]
  congr 1
  rw [sh_congr k (cv_one (b[k]) f) j, sh_mul]
  simp [List.getD, List.getElem?_eq_getElem hk]
structure Two (w : World) (la lb : List Int) (pa pb : Option Addr) (ca cb : Nat) (a b : List Int) : Prop where
  a1 : Arg .u64 w pa ca a
  a2 : Arg .u64 w pb cb b
  d1 : Dig M64 a
  d2 : Dig M64 b
  cv : ∀ k, Bg.cv a (cf b) k = Bg.cv la (cf lb) k
  len : a.length + b.length = la.length + lb.length
  pos : 0 < la.length → 0 < lb.length → 0 < b.length
set_option maxRecDepth 100000 in
set_option maxHeartbeats 8000000 in
theorem product_step {N : Nat} (hp : ProdOK N) {w : World} {pa pb : Option Addr} {ca cb : Nat} {la lb : List Int} (hN : la.length + lb.length ≤ N) (a1 : Arg .u64 w pa ca la) (a2 : Arg .u64 w pb cb lb) (d1 : Dig M64 la) (d2 : Dig M64 lb) (l1 : la.length ≤ 1000000) (l2 : lb.length ≤ 1000000) :
    Calls Tryd.prog 68 #[.slice pa la.length ca, .slice pb lb.length cb] w fun e w' => ∃ v L, e = .returned v ∧ Prod w w' v la lb L := by
  have le1 := a1.le
  have mx1 := a1.max
  have le2 := a2.le
  have mx2 := a2.max
  have H := Lib.hid (And.intro a1 (And.intro a2 (And.intro d1 d2)))
  clear a1 a2 d1 d2
  go_enter Tryd.func68, Tryd.ntmps68
  go_upto_if 13 with fail
  go_cut [0, 1] (fun x y wx => ∃ (pa' pb' : Option Addr) (ca' cb' : Nat) (a b : List Int), x = .slice pa' a.length ca' ∧ y = .slice pb' b.length cb' ∧ Hid (Two w la lb pa' pb' ca' cb' a b) ∧ b.length ≤ a.length ∧ a.length ≤ 1000000 ∧ w = wx)
  case first =>
    by_cases hlt : la.length < lb.length
    · have dd : decide (la.length < lb.length) = true := decide_eq_true hlt
      go_wp2_with fail
      go_meet
      case rel => exact ⟨pb, pa, cb, ca, lb, la, rfl, rfl, ⟨H.out.2.1, H.out.1, H.out.2.2.2, H.out.2.2.1, (fun k => cv_comm lb la k), Nat.add_comm _ _, fun h _ => h⟩, Nat.le_of_lt hlt, l2, rfl⟩
    · have dd : decide (la.length < lb.length) = false := decide_eq_false hlt
      go_wp2_with fail
      go_meet
      case rel => exact ⟨pa, pb, ca, cb, la, lb, rfl, rfl, ⟨H.out.1, H.out.2.1, H.out.2.2.1, H.out.2.2.2, (fun k => rfl), rfl, fun _ h => h⟩, by omega, l1, rfl⟩
  case rest =>
    obtain ⟨pa', pb', ca', cb', a, b, rfl, rfl, hh, hab, hal, rfl⟩ := hcut
    clear H le1 mx1 le2 mx2
    have le1 := hh.out.a1.le
    have mx1 := hh.out.a1.max
    have le2 := hh.out.a2.le
    have mx2 := hh.out.a2.max
    by_cases hb0 : b.length = 0
    · have dd : ((b.length : Int) == 0) = true := by rw [hb0]; rfl
      have hbn : b = [] := List.length_eq_zero_iff.1 hb0
      have h0 : ¬ (0 < la.length ∧ 0 < lb.length) := fun h => by have := hh.out.pos h.1 h.2; omega
      have hcv := hh.out.cv
      rw [hbn] at hcv
      go_wp2_with fail
      go_ret
      exact ⟨_, [], rfl, Own.nil _ _ _ _, (fun d hd => by cases hd), fun h1 h2 => absurd ⟨h1, h2⟩ h0, Nat.zero_le _, Eqm.of_eq fun k => by rw [← hcv k, cv_congr a cf_nil k, cv_zero]; rfl, Below.refl _ _⟩
    have dd : ((b.length : Int) == 0) = false := by rw [beq_eq_false_iff_ne]; omega
    obtain ⟨ba, oa, rfl, -⟩ := hh.out.a1.at (by omega)
    obtain ⟨bb, ob, rfl, -⟩ := hh.out.a2.at (by omega)
    have hba : ba < w.heap.size := by
      obtain ⟨b', off', hp, hc⟩ := hh.out.a1.cell 0 (by omega)
      cases hp
      exact World.block_lt_of_cell? w _ hc
    have hbb : bb < w.heap.size := by
      obtain ⟨b', off', hp, hc⟩ := hh.out.a2.cell 0 (by omega)
      cases hp
      exact World.block_lt_of_cell? w _ hc
    obtain ⟨n, hn⟩ : ∃ n, n = a.length + b.length - 1 := ⟨_, rfl⟩
    obtain ⟨h, hh2⟩ : ∃ h, h = (a.length + 1) / 2 := ⟨_, rfl⟩
    obtain ⟨w1, hr, ho, hb1⟩ := make_own kt64 w (B := w.heap.size) n (by omega) (Nat.le_refl _)
    obtain ⟨G, hG⟩ : ∃ G, G = w.heap.size := ⟨_, rfl⟩
    rw [← hG] at hr ho hb1 hba hbb
    have e1 : (a.length : Int) + b.length - 1 = n := by omega
    have e2 : ((a.length : Int) + 1).tdiv 2 = h := by rw [Int.tdiv_eq_ediv_of_nonneg (by omega), hh2]; omega
    have H := Lib.hid (And.intro ho (And.intro hb1 (And.intro hG (And.intro hn hh2))))
    have q1 : n + 1 = a.length + b.length := by omega
    have q2 : a.length ≤ 2 * h ∧ 2 * h ≤ a.length + 1 := by omega
    have Q := Lib.hid (And.intro q1 q2)
    clear hb1 hG hn hh2 ho q1 q2
    have e3 : wrap64 (h : Int) = h := by have := Q.out.2; unfold wrap64; omega
    go_upto_block 0 with fail
    rw [e3]
    clear e3
    go_cut [5] (fun x wx => x = .slice (some ⟨G, 0, none⟩) n n ∧ ∃ S, Hid (Own 66 .u64 G wx (.slice (some ⟨G, 0, none⟩) n n) S ∧ Dig M64 S ∧ Eqm (cf S) (cv a (cf b)) ∧ Below G w wx))
    case rest =>
      obtain ⟨rfl, S, hS⟩ := hcut
      go_wp2_with fail
      go_ret
      have h1 := hS.out
      rw [H.out.2.2.1] at h1 ⊢
      refine ⟨_, S, rfl, ?_, h1.2.1, fun _ _ => ?_, ?_, h1.2.2.1.trans (Eqm.of_eq hh.out.cv), ?_⟩
      · have := H.out.2.2.1
        rw [← this]
        exact hS.out.1
      · have h2 := hS.out.1.len
        have h3 := hh.out.len
        have h4 := Q.out.1
        omega
      · have h2 := hS.out.1.len
        have h3 := hh.out.len
        have h4 := Q.out.1
        omega
      · have := H.out.2.2.1
        rw [← this]
        exact hS.out.2.2.2
    case first =>
      by_cases hb40 : b.length < 40
      · have d1 : decide ((b.length : Int) < 40) = true := by rw [decide_eq_true_eq]; omega
        go_wp2_with fail
        go_loopw [41] (fun s wr => ∃ (k : Nat) (S : List Int), s = .int .i64 k ∧ k ≤ b.length ∧ S.length = n ∧ Hid (Own 66 .u64 G wr (.slice (some ⟨G, 0, none⟩) n n) S ∧ Dig M64 S ∧ Eqm (cf S) (cv (b.take k) (cf a)) ∧ Below G w wr)) (fun s _ => b.length - (intOf s).toNat)
        case atStart => exact ⟨0, List.replicate n 0, rfl, Nat.zero_le _, List.length_replicate, H.out.1, replicate_dig n, Eqm.of_eq fun k => by rw [replicate_cf]; rfl, H.out.2.1⟩
        case round =>
          obtain ⟨k, S, rfl, hk, hSn, hS⟩ := hrel
          by_cases hlt : k < b.length
          · have hbw : Below w.heap.size w wr := by rw [← H.out.2.2.1]; exact hS.out.2.2.2
            have ab := hh.out.a2.below hbw
            have ck := ab.some_at k hlt
            have dk := hh.out.d2.getD (by decide) k
            have hq := Q.out.1
            have hA := addTimes_at hS.out.1 (hh.out.a1.below hbw) (off := k) (m := n - k) (cp := n - k) (x := b.getD k 0) (fun b' o' he => by cases he; intro e; cases e; omega) hS.out.2.1 hh.out.d1 dk (by omega) (by omega) (by omega) (by omega)
            obtain ⟨x, hx⟩ : ∃ x, x = b.getD k 0 := ⟨_, rfl⟩
            rw [← hx] at ck hA dk
            have HA := Lib.hid hA
            have HX := Lib.hid (And.intro hx hbw)
            have d2 : decide ((k : Int) < (b.length : Int)) = true := by rw [decide_eq_true_eq]; omega
            have f1 : (k : Int) < (b.length : Int) := by omega
            have f2 : (k : Int) ≤ n := by omega
            have f3 : ¬ n = k := by omega
            have f4 : ((n : Int) - k).toNat = n - k := by omega
            clear hx hbw ab hA dk hq
            go_wp2_with fail
            refine HA.out.mono ?_
            rintro e w2 ⟨rfl, ho2, hg2⟩
            go_wp2_with fail
            go_roundw
            case rel =>
              have hq := Q.out.1
              refine ⟨k + 1, _, by go_num, hlt, ?_, ho2, addL_dig hS.out.2.1, ?_, hS.out.2.2.2.grown hg2 (by rw [H.out.2.2.1]; exact hS.out.2.2.2.size) (fun q hq => by cases hq; exact Nat.le_refl _)⟩
              · rw [addL_len]; exact hSn
              · refine (addL_eqm (by omega)).trans ((hS.out.2.2.1.add (Eqm.refl _)).trans (Eqm.of_eq fun j => ?_))
                rw [cv_snoc b k hlt, HX.out.1]
            case measure => simp [intOf]; omega
          · have hz : k = b.length := by omega
            subst hz
            have d2 : decide ((b.length : Int) < (b.length : Int)) = false := by simp
            go_wp2_with fail
            go_meet
            case rel =>
              have he := hS.out.2.2.1
              rw [List.take_length] at he
              exact ⟨rfl, S, hS.out.1, hS.out.2.1, he.trans (Eqm.of_eq (cv_comm b a)), hS.out.2.2.2⟩
      · have d1 : decide ((b.length : Int) < 40) = false := by rw [decide_eq_false_iff_not]; omega
        have hlen := hh.out.len
        have hq := Q.out.1
        have hqq := Q.out.2
        have f1 : (h : Int) ≤ ca' := by omega
        have f3 : (h : Int) ≤ (a.length : Int) := by omega
        have f5 : ((a.length : Int) - h).toNat = a.length - h := by omega
        have f7 : ¬ ca' = h := by omega
        have f8 : (h : Int) ≤ n := by omega
        have f9 : ¬ n = h := by omega
        have f10 : ((n : Int) - h).toNat = n - h := by omega
        have ta : (a.take h).length = h := by rw [List.length_take]; omega
        have da : (a.drop h).length = a.length - h := List.length_drop
        by_cases hbh : b.length ≤ h
        · have d3 : decide ((b.length : Int) ≤ (h : Int)) = true := by rw [decide_eq_true_eq]; omega
          have hw1 : Below w.heap.size w w1 := by rw [← H.out.2.2.1]; exact H.out.2.1
          have c1 := hp w1 _ _ ca' cb' h b.length (a.take h) b ta.symm rfl (by omega) ((hh.out.a1.below hw1).take h) (hh.out.a2.below hw1) (hh.out.d1.take h) hh.out.d2 (by omega) (by omega)
          have C1 := Lib.hid c1
          have HW1 := Lib.hid hw1
          have HT := Lib.hid (And.intro ta da)
          clear c1 hw1 hlen ta da
          go_wp2_with fail
          refine C1.out.mono ?_
          rintro e w2 ⟨v0, L0, rfl, P0⟩
          have k0 := P0.len (by rw [HT.out.1]; omega) (by omega)
          rw [HT.out.1] at k0
          obtain ⟨g0, c0, rfl, g01, g02, g03, g04⟩ := P0.own.at (by omega)
          have z1 := HW1.out.size
          have zG := H.out.1.lt
          have B2 := HW1.out.trans (P0.below.mono z1)
          have oS : Own 66 .u64 G w2 (.slice (some ⟨G, 0, none⟩) n n) (List.replicate n 0) := H.out.1.below P0.below
          have rl : (List.replicate n (0 : Int)).length = n := List.length_replicate
          have A1 := addTimes_at oS P0.own.some_arg (off := 0) (m := n) (cp := n) (x := 1) (fun b' o' he => by cases he; intro e; cases e; omega) (replicate_dig n) P0.dig (by decide) (by omega) (by omega) (by omega) (by omega)
          have HA1 := Lib.hid A1
          have HP0 := Lib.hid (And.intro P0 B2)
          clear A1 P0 oS B2
          go_wp2_with fail
          refine HA1.out.mono ?_
          rintro e w3 ⟨rfl, os1, G3⟩
          have B3 : Below G w w3 := by
            have h0 := HP0.out.2
            rw [← H.out.2.2.1] at h0
            exact h0.grown G3 (by have := h0.size; have := H.out.2.2.1; omega) (fun q hq => by cases hq; exact Nat.le_refl _)
          have ks1 := addL_len (List.replicate n 0) 0 L0 1
          have ds1 := addL_dig (A := L0) (off := 0) (n := 1) (replicate_dig n)
          have eq1 := addL_eqm (S := List.replicate n 0) (A := L0) (off := 0) (n := 1) (by omega)
          obtain ⟨S1, hS1⟩ : ∃ S1, S1 = addL (List.replicate n 0) 0 L0 1 := ⟨_, rfl⟩
          rw [← hS1] at os1 ks1 ds1 eq1
          have B3' : Below w.heap.size w w3 := by rw [← H.out.2.2.1]; exact B3
          have c2 : ∀ w', Below w.heap.size w w' → Calls Tryd.prog 68 #[.slice (some ⟨ba, oa + h, none⟩) (a.length - h) (ca' - h), .slice (some ⟨bb, ob, none⟩) b.length cb'] w' fun e w'' => ∃ v L, e = .returned v ∧ Prod w' w'' v (a.drop h) b L := fun w' hb => hp w' _ _ _ _ _ _ (a.drop h) b HT.out.2.symm rfl (by rw [HT.out.2]; have := hh.out.len; omega) ((hh.out.a1.below hb).some_drop (by omega)) (hh.out.a2.below hb) (hh.out.d1.drop h) hh.out.d2 (by rw [HT.out.2]; omega) (by omega)
          have C2 := Lib.hid (c2 w3.drew B3'.drew)
          have HS1 := Lib.hid (And.intro os1 (And.intro ds1 (And.intro eq1 B3)))
          have c3 : ∀ (w4 : World) (L1 : List Int) (g1 c1 : Nat), Prod w3.drew w4 (.slice (some ⟨g1, 0, none⟩) L1.length c1) (a.drop h) b L1 → Calls Tryd.prog 78 #[.slice (some ⟨G, h, none⟩) (n - h) (n - h), .slice (some ⟨g1, 0, none⟩) L1.length c1, .int .u64 1] w4 fun e w5 => e = .returned (.tuple #[]) ∧ Own 66 .u64 G w5 (.slice (some ⟨G, 0, none⟩) n n) (addL S1 h L1 1) ∧ w4.grownBy w5 (some G) := by
            intro w4 L1 g1 c1 P1
            have k1 := P1.len (by rw [HT.out.2]; omega) (by omega)
            rw [HT.out.2] at k1
            have q1 : w3.heap.size ≤ g1 := P1.own.lt.1
            have q2 := os1.lt
            exact addTimes_at (os1.below ((Below.refl _ _).drew.trans P1.below)) P1.own.some_arg (fun b' o' he => by cases he; intro e; cases e; omega) ds1 P1.dig (by decide) (by omega) (by omega) (by omega) (by omega)
          have HA2 := Lib.hid c3
          clear c2 hS1 os1 ds1 eq1 B3 B3' G3 c3
          go_wp2_with fail
          go_region_with (first
            | (go_at_call 68; refine C2.out.mono ?_; rintro e w4 ⟨v1, L1, rfl, P1⟩; have k1 := P1.len (by rw [HT.out.2]; omega) (by omega); rw [HT.out.2] at k1; obtain ⟨g1, c1, rfl, g11, g12, g13, g14⟩ := P1.own.at (by omega))
            | (go_at_call 78; refine (HA2.out _ _ _ _ P1).mono ?_; rintro e w5 ⟨rfl, os2, G5⟩))
          go_wp2_with fail
          go_meet
          case rel =>
            have hk1 : S1.length = n := by omega
            have B4 : Below w3.heap.size w3 w4 := (Below.refl _ _).drew.trans P1.below
            have B4' : Below G w w4 := HS1.out.2.2.2.trans (B4.mono (by have := HS1.out.2.2.2.size; have := H.out.2.2.1; omega))
            refine ⟨rfl, _, os2, addL_dig HS1.out.2.1, ?_, B4'.grown G5 (by have := B4'.size; have := H.out.2.2.1; omega) (fun q hq => by cases hq; exact Nat.le_refl _)⟩
            refine (addL_eqm (by omega)).trans (((HS1.out.2.2.1.trans ((Eqm.refl _).add ((HP0.out.1.eqm.sh 0).mul 1))).add ((P1.eqm.sh h).mul 1)).trans (Eqm.of_eq fun k => ?_))
            have ev := cv_app (a.take h) (a.drop h) (cf b) k
            rw [List.take_append_drop, HT.out.1] at ev
            rw [ev, sh_zero, replicate_cf]
            omega
        · have d3 : decide ((b.length : Int) ≤ (h : Int)) = false := by rw [decide_eq_false_iff_not]; omega
          have hw1 : Below w.heap.size w w1 := by rw [← H.out.2.2.1]; exact H.out.2.1
          have c1 := halves_at hp (h := h) H.out.1 (replicate_dig n) (hh.out.a1.below hw1) (hh.out.a2.below hw1) hh.out.d1 hh.out.d2 (by omega) (by omega) hq (by omega) (by omega) (by omega) hqq.1 hqq.2 (by omega) (by omega) (by omega) hab
          have C1 := Lib.hid c1
          clear c1 hw1 hlen ta da
          go_wp2_with fail
          refine C1.out.mono ?_
          rintro e w2 ⟨rfl, S', ho', hd', he', hg'⟩
          go_wp2_with fail
          go_meet
          case rel =>
            refine ⟨rfl, S', ho', hd', he'.trans (Eqm.of_eq fun k => ?_), H.out.2.1.grown hg' (by rw [H.out.2.2.1]; exact H.out.2.1.size) (fun q hq => by cases hq; exact Nat.le_refl _)⟩
            rw [replicate_cf]; omega
end Go.Proofs.YtihgefllmkicaaaDoor
