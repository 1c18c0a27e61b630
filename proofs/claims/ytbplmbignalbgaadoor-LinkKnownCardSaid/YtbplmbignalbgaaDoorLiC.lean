/- Contracts: the items of an object behind others. Conditions: the items lie as told. -/
import Derived.Test.YtbplmbignalbgaaDoorLiB
namespace Go.Proofs.YtbplmbignalbgaaDoor
open Go.RowKit Asm
set_option linter.unusedVariables false
set_option linter.unusedSimpArgs false

theorem own_shape {w : World} {B t m n : Nat} {v : Value} {xs : List Value} (h : w.ownsRow B t m v n xs) : ∃ p c, v = .slice p n c := by
  rcases h.2 with ⟨rfl, h0⟩ | ⟨g, cap, cur, rfl, -⟩
  · exact ⟨none, 0, by rw [h0]⟩
  · exact ⟨_, _, rfl⟩
set_option maxRecDepth 100000 in
set_option maxHeartbeats 4000000 in
theorem join_at {w : World} {B c : Nat} {v : Value} {p : Option Addr} {A M : List It} {nm : ByteArray} (h : w.ownsRow B 40 8 v A.length (rowL A)) (k : Items w p M.length c (litX M)) (hm : A.length + M.length ≤ 1000) (hB : B ≤ w.heap.size) (hnm : nm.size ≤ 1000) (hok : OkI 1000 M) :
    Calls Tryd.prog 21 #[v, .string nm, .slice p M.length c] w fun e w' => ∃ v', e = .returned v' ∧ w'.ownsRow B 40 8 v' (A.length + M.length) (rowL (A ++ M.map (full nm))) ∧ Below B w w' := by
  obtain ⟨v1, w1, hrun, how, hgr⟩ := append_items h k hm hB
  have hb1 : Below B w w1 := (Below.refl B w).grown hgr hB (fun q hq => (h.lt q hq).1)
  obtain ⟨p0, c0, rfl⟩ := own_shape h
  obtain ⟨N, hN⟩ : ∃ N, N = A.length + M.length := ⟨_, rfl⟩
  rw [← hN] at how
  have HK := Lib.hid hok
  have hlab : ∀ i, i < M.length → (litX M i).lab.size ≤ 1000 := fun i hi => (hok _ (litX_mem hi)).2
  clear h k hgr hok
  have hAN : (A.length : Int) ≤ (N : Int) := by omega
  by_cases hM : M = []
  · subst hM
    replace hN : N = A.length := by rw [hN]; rfl
    subst hN
    clear hm
    have H1 := Lib.hid (And.intro how hb1)
    rcases how.2 with ⟨rfl, h0⟩ | ⟨g, cap, cur, rfl, -, -, hcap, hmax, -⟩
    · have hA0 : A = [] := List.length_eq_zero_iff.1 (by omega)
      subst hA0
      clear how hb1 h0
      go_enter Tryd.func21, Tryd.ntmps21
      go_wp2_with (first
        | (at_builtin; refine Lib.wpList_append_run w rfl _ _ 25 25 rfl _ _ rfl rfl _ w1 hrun ?_)
        | fail)
      clear hrun
      all_goals
        go_loopw [19] (fun i wr => i = .int .i64 0 ∧ wr = w1) (fun i _ => (intOf i).toNat)
        case atStart => exact ⟨rfl, rfl⟩
        case round =>
          obtain ⟨rfl, rfl⟩ := hrel
          go_wp2_with fail
          go_ret
          exact ⟨_, rfl, by simpa using H1.out.1, H1.out.2⟩
    · have hcN : (A.length : Int) ≤ (cap : Int) := by omega
      by_cases hca : cap = A.length
      · subst hca
        clear how hb1
        go_enter Tryd.func21, Tryd.ntmps21
        go_wp2_with (first
          | (at_builtin; refine Lib.wpList_append_run w rfl _ _ 25 25 rfl _ _ rfl rfl _ w1 hrun ?_)
          | fail)
        clear hrun
        all_goals
          go_loopw [19] (fun i wr => i = .int .i64 0 ∧ wr = w1) (fun i _ => (intOf i).toNat)
          case atStart => exact ⟨rfl, rfl⟩
          case round =>
            obtain ⟨rfl, rfl⟩ := hrel
            go_wp2_with fail
            go_ret
            exact ⟨_, rfl, by simpa using H1.out.1, H1.out.2⟩
      · skip
        clear how hb1
        go_enter Tryd.func21, Tryd.ntmps21
        go_wp2_with (first
          | (at_builtin; refine Lib.wpList_append_run w rfl _ _ 25 25 rfl _ _ rfl rfl _ w1 hrun ?_)
          | fail)
        clear hrun
        all_goals
          go_loopw [19] (fun i wr => i = .int .i64 0 ∧ wr = w1) (fun i _ => (intOf i).toNat)
          case atStart => exact ⟨rfl, rfl⟩
          case round =>
            obtain ⟨rfl, rfl⟩ := hrel
            go_wp2_with fail
            go_ret
            exact ⟨_, rfl, by simpa using H1.out.1, H1.out.2⟩
  · have hpos : 0 < M.length := List.length_pos_iff.2 hM
    have eNA : ((N - A.length : Nat) : Int) = (M.length : Int) := by omega
    rcases how.2 with ⟨rfl, h0⟩ | ⟨g, cap, cur, rfl, -, -, hcap, hmax, -⟩
    · omega
    have H1 := Lib.hid (And.intro how hb1)
    clear how hb1
    have hcN : (N : Int) ≤ (cap : Int) := by omega
    have hcA : ¬ (cap = A.length) := by omega
    go_enter Tryd.func21, Tryd.ntmps21
    go_wp2_with (first
      | (at_builtin; refine Lib.wpList_append_run w rfl _ _ 25 25 rfl _ _ rfl rfl _ w1 hrun ?_)
      | fail)
    clear hrun
    rw [hN] at H1
    have HM := Lib.hid (And.intro hmax (And.intro hN (And.intro hcap hcA)))
    clear hN hcap hmax hcN hcA eNA hAN
    go_loopw [19] (fun i wr => ∃ k : Nat, i = .int .i64 k ∧ k ≤ M.length ∧ wr.ownsRow B 40 8 (.slice (some ⟨g, 0, none⟩) (A.length + M.length) cap) (A.length + M.length) (rowL (mixed A M nm k)) ∧ Below B w wr) (fun i _ => M.length - (intOf i).toNat)
    case atStart => exact ⟨0, rfl, Nat.zero_le _, by rw [mixed_0]; exact H1.out.1, H1.out.2⟩
    case round =>
      obtain ⟨k, rfl, hk, ho, hb⟩ := hrel
      by_cases hlt : k < M.length
      · as_aux_lemma =>
          have d1 : decide ((k : Int) < (M.length : Int)) = true := decide_eq_true (by omega)
          have ek : (k : Int) < (M.length : Int) := by omega
          have ek2 : (A.length : Int) + (k : Int) < ((A.length + M.length : Nat) : Int) := by omega
          have hc : ∀ j, j < 8 → wr.cell? ⟨g, A.length * 8 + k * 8 + j, none⟩ = some (icell (litX M k) j) := by
            intro j hj
            have h1 := ho.cellAt ((A.length + k) * 8 + j) (by omega)
            have h2 := rowL_get (mixed A M nm k) (A.length + k) (by rw [mixed_len A M nm hk]; omega) j hj
            have h3 : (mixed A M nm k).getD (A.length + k) default = litX M k := mixed_at hlt
            rw [show A.length * 8 + k * 8 + j = (A.length + k) * 8 + j by omega, h1, h2, h3]
          have k0 := hc 0 (by decide); have k1 := hc 1 (by decide); have k2 := hc 2 (by decide); have k3 := hc 3 (by decide)
          have k4 := hc 4 (by decide); have k5 := hc 5 (by decide); have k6 := hc 6 (by decide); have k7 := hc 7 (by decide)
          rw [Nat.add_zero] at k0
          have hfz : ∀ o, (wr.alloc o).frozen? ⟨g, (A.length + k) * 8 + 6, none⟩ = false := fun o => (ho.alloc o).frozenAt ((A.length + k) * 8 + 6)
          have h6 : ∀ o, (wr.alloc o).cell? ⟨g, (A.length + k) * 8 + 6, none⟩ = some (icell (litX M k) 6) := fun o => by
            have h2 := rowL_get (mixed A M nm k) (A.length + k) (by rw [mixed_len A M nm hk]; omega) 6 (by decide)
            have h3 : (mixed A M nm k).getD (A.length + k) default = litX M k := mixed_at hlt
            rw [(ho.alloc o).cellAt ((A.length + k) * 8 + 6) (by omega), h2, h3]
          have hll := hlab k hlt
          have hst := fun o => (ho.alloc o).stored ((A.length + k) * 8 + 6) (.string (nm ++ (litX M k).lab))
          obtain ⟨x, hx⟩ : ∃ x, x = litX M k := ⟨_, rfl⟩
          have HX := Lib.hid hx
          simp only [icell, if_true, if_false, Nat.reduceEqDiff, ← hx] at k0 k1 k2 k3 k4 k5 k6 k7 h6 hll
          have HO := Lib.hid (And.intro ho (And.intro hb hst))
          clear ho hb hc hx hst hlab
          cases hloc : isLoc x.lab with
          | true =>
            go_wp2_with (first | (go_at_call 26; refine (prefix_at _ _).mono ?_; rintro e w' ⟨rfl, rfl⟩; rw [hloc]) | fail)
            go_roundw
            case rel =>
              obtain ⟨ho, hb, hst⟩ := HO.out
              obtain ⟨s1, s2⟩ := hst (.cells #[.int .i64 x.kind, .int .i64 x.op, .int .i64 x.d, .int .i64 x.a, .int .i64 x.b, .int .i64 x.imm, .string x.lab, .int .u32 x.word] 40)
              rw [HX.out, mixed_set hlt (by rw [← HX.out]; exact hloc)] at s1
              refine ⟨k + 1, by go_num, hlt, ?_, ?_⟩
              · rw [HX.out]; exact s1
              · rw [HX.out] at s2 ⊢
                exact (hb.alloc (Nat.le_trans hB hb.size) _).grown s2 (by have := hb.size; simp; omega) (fun q hq => by cases hq; exact (ho.lt g rfl).1)
            case measure => simp [intOf]; omega
          | false =>
            go_wp2_with (first | (go_at_call 26; refine (prefix_at _ _).mono ?_; rintro e w' ⟨rfl, rfl⟩; rw [hloc]) | fail)
            go_roundw
            case rel =>
              obtain ⟨ho, hb, hst⟩ := HO.out
              refine ⟨k + 1, by go_num, hlt, ?_, hb.alloc (Nat.le_trans hB hb.size) _⟩
              rw [mixed_keep hlt (by rw [← HX.out]; exact hloc)]
              exact ho.alloc _
            case measure => simp [intOf]; omega
      · as_aux_lemma =>
          have hz : k = M.length := by omega
          subst hz
          have d1 : decide ((M.length : Int) < (M.length : Int)) = false := by simp
          have HO := Lib.hid (And.intro ho hb)
          clear ho hb
          go_wp2_with fail
          go_ret
          exact ⟨_, rfl, by rw [← mixed_all]; exact HO.out.1, HO.out.2⟩
end Go.Proofs.YtbplmbignalbgaaDoor
