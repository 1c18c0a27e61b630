/- The walk of MachParts. Conditions: the setting reads as told; the forms' table is as laid. -/
import Derived.Test.YtknnmacmohpanaaDoorMaY
import Derived.Test.YtknnmacmohpanaaDoorMaW
namespace Go.Proofs.YtknnmacmohpanaaDoor
open Go.RowKit
set_option linter.unusedVariables false
set_option linter.unusedSimpArgs false

theorem run_add (n k : Nat) (m : MS) : MS.run (n + k) m = MS.run k (MS.run n m) := by
  induction n generalizing m with
  | zero => rw [Nat.zero_add]; rfl
  | succ n ih =>
    rw [show n + 1 + k = (n + k) + 1 by omega]
    show (if m.state = 0 then MS.run (n + k) m.step else m) = MS.run k (if m.state = 0 then MS.run n m.step else m)
    by_cases h : m.state = 0
    · rw [if_pos h, if_pos h]; exact ih _
    · rw [if_neg h, if_neg h, run_done h]
theorem run_bounds (n : Nat) (m : MS) : (MS.run n m).steps ≤ m.steps + n ∧ (MS.run n m).out.length ≤ m.out.length + n := by
  induction n generalizing m with
  | zero => exact ⟨by show m.steps ≤ _; omega, Nat.le_refl _⟩
  | succ n ih =>
    show (if m.state = 0 then MS.run n m.step else m).steps ≤ _ ∧ (if m.state = 0 then MS.run n m.step else m).out.length ≤ _
    have hb := step_bounds m
    have hi := ih m.step
    split
    · exact ⟨by omega, by omega⟩
    · exact ⟨by omega, by omega⟩
theorem stM_zero (ws : List Int) (size : Int) (is rs : List Int) : (stM ws size is rs).steps = 0 ∧ (stM ws size is rs).out = [] ∧ (stM ws size is rs).state = 0 := ⟨rfl, rfl, rfl⟩
theorem nat_of {x : Int} (h0 : 0 ≤ x) (h1 : x ≤ 500) : ∃ a : Nat, Value.int .i64 x = .int .i64 a ∧ a ≤ 500 := ⟨x.toNat, by rw [Int.toNat_of_nonneg h0], by omega⟩
theorem Sit.front3 {W w : World} {L : List (Lay × MS)} {p q r : Lay × MS} (s : Sit W w (p :: q :: r :: L)) : Sit W w (r :: p :: q :: L) := s.perm (List.perm_middle (l₁ := [p, q]))
theorem Sit.front4 {W w : World} {L : List (Lay × MS)} {p q r t : Lay × MS} (s : Sit W w (p :: q :: r :: t :: L)) : Sit W w (t :: p :: q :: r :: L) := s.perm (List.perm_middle (l₁ := [p, q, r]))
theorem Sit.mid {W w : World} {L : List (Lay × MS)} {p q r : Lay × MS} (s : Sit W w (p :: q :: r :: L)) : Sit W w (p :: r :: q :: L) := s.perm (List.Perm.cons _ (List.Perm.swap _ _ _))
theorem Mad.sit {W w : World} {l : Lay} {q : QL} {m : MS} (h : Mad W l q m w) (hE : Env W) : Sit W w [(l, m)] :=
  ⟨h.below, hE.below h.below, hE.size, ⟨fun p hp => by obtain rfl := List.mem_singleton.1 hp; exact h.rep, List.pairwise_singleton _ _⟩⟩

set_option maxRecDepth 100000 in
set_option maxHeartbeats 2000000 in
theorem parts_any (pw pi pr : Option Addr) (cw ci cr : Nat) (size n0 k0 : Int) (ws is rs : List Int) (w : World) (hE : Env w) (hw : Arg .u32 w pw cw ws) (hi : Arg .u8 w pi ci is) (hr : Arg .u32 w pr cr rs) (hwr : ∀ x ∈ ws, 0 ≤ x ∧ x < 4294967296) (hir : ∀ x ∈ is, 0 ≤ x ∧ x < 256) (hrr : ∀ x ∈ rs, 0 ≤ x ∧ x < 4294967296) :
    Calls Tryd.prog 5 #[.agg #[.slice pw ws.length cw, .int .i64 size, .slice pi is.length ci, .slice pr rs.length cr], .int .i64 n0, .int .i64 k0] w fun e w' => e = .returned (.bool true) ∧ Below w.heap.size w w' := by
  have hA := Lib.hid (fun w' (hb : Below w.heap.size w w') => setting_at pw pi pr cw ci cr size ws is rs w' (hE.below hb) (hw.below hb) (hi.below hb) (hr.below hb) hwr hir hrr)
  have HE := Lib.hid hE
  clear hw hi hr hwr hir hrr hE
  go_enter Tryd.func5, Tryd.ntmps5
  go_wp2_with fail
  have hb0 : Below w.heap.size w (w.alloc (.cells #[.slice pw ws.length cw, .int .i64 size, .slice pi is.length ci, .slice pr rs.length cr] 25)) := (Below.refl _ _).alloc (Nat.le_refl _) _
  refine (hA.out _ hb0).mono ?_
  rintro e w1 (⟨-, rfl, hb⟩ | ⟨-, l, q, rfl, hM⟩)
  · have hb2 := hb0.trans (hb.mono hb0.size)
    have HB := Lib.hid hb2
    clear hb hb2 hb0
    go_wp2_with fail
    refine (works_any _ (HE.out.below HB.out)).mono ?_
    rintro e wz ⟨rfl, hb⟩
    have HZ := Lib.hid (HB.out.trans (hb.mono HB.out.size))
    clear hb
    go_wp2_with fail
    go_ret
    exact ⟨rfl, HZ.out⟩
  · have S := Lib.hid ((hM.base hb0).sit HE.out)
    clear hM hb0
    obtain ⟨m, hm⟩ : ∃ m, m = stM ws size is rs := ⟨_, rfl⟩
    have hz := stM_zero ws size is rs
    rw [← hm] at S hz
    clear hm
    have HZ := Lib.hid hz
    clear hz
    go_upto_region 4 with fail
    go_cut [1, 2] (fun u v wx => wx = w1 ∧ (∃ a : Nat, u = .int .i64 a ∧ a ≤ 500) ∧ ∃ b : Nat, v = .int .i64 b ∧ b ≤ 500)
    case first =>
      go_wp2_with fail
      all_goals
        go_meet
        case rel => exact ⟨rfl, nat_of (by omega) (by omega), nat_of (by omega) (by omega)⟩
    case rest =>
      obtain ⟨rfl, ⟨n, rfl, hn⟩, k, rfl, hk⟩ := hcut
      obtain ⟨z1, z2, z3⟩ := HZ.out
      obtain ⟨m1, hm1⟩ : ∃ m1, m1 = MS.run n m := ⟨_, rfl⟩
      obtain ⟨m2, hm2⟩ : ∃ m2, m2 = MS.run k m1 := ⟨_, rfl⟩
      have b1 := run_bounds n m
      have b2 := run_bounds k m1
      rw [← hm1] at b1
      rw [← hm2] at b2
      rw [z1, z2] at b1
      have hnk : MS.run (n + k) m = m2 := by rw [run_add, ← hm1, hm2]
      have HB := Lib.hid (And.intro b1 (And.intro b2 (And.intro hm1 (And.intro hm2 hnk))))
      have o0 : m.out.length ≤ 1000000 := by rw [z2]; decide
      have o1 : m1.out.length ≤ 1000000 := by have := b1.2; simp at this; omega
      have o2 : m2.out.length ≤ 1000000 := by have := b2.2; have := b1.2; simp at this; omega
      have HO := Lib.hid (And.intro o0 (And.intro o1 o2))
      clear b1 b2 hm1 hm2 hnk z1 z2 z3 o0 o1 o2
      go_wp2_with fail
      refine (S.out.copy rfl HO.out.1).mono ?_
      rintro e w2 ⟨lb, rfl, s⟩
      replace S := Lib.hid s.swap
      clear s
      go_wp2_with fail
      refine (S.out.copy rfl HO.out.1).mono ?_
      rintro e w3 ⟨lf, rfl, s⟩
      replace S := Lib.hid s.swap
      clear s
      go_wp2_with fail
      refine (S.out.run (m' := m1) rfl n (by rw [Int.toNat_natCast]; exact HB.out.2.2.1.symm) rfl (by have := HZ.out.1; omega) (by have := HZ.out.2.1; rw [this]; simp; omega)).mono ?_
      rintro e w4 ⟨rfl, l4, h4, s⟩
      replace S := Lib.hid s
      clear s
      go_wp2_with fail
      refine (S.out.copy h4 HO.out.2.1).mono ?_
      rintro e w5 ⟨lc, rfl, s⟩
      replace S := Lib.hid s.swap
      clear s
      go_wp2_with fail
      refine (S.out.run (m' := m2) h4 k (by rw [Int.toNat_natCast]; exact HB.out.2.2.2.1.symm) rfl (by have := HB.out.1; omega) (by have := HB.out.1.2; simp at this; omega)).mono ?_
      rintro e w6 ⟨rfl, l6, h6, s⟩
      replace S := Lib.hid s.front4
      clear s
      go_wp2_with fail
      refine (S.out.run (m' := m2) rfl _ (by rw [show ((n : Int) + k).toNat = n + k by omega]; exact HB.out.2.2.2.2) rfl (by have := HZ.out.1; omega) (by have := HZ.out.2.1; rw [this]; simp; omega)).mono ?_
      rintro e w7 ⟨rfl, l7, h7, s⟩
      replace S := Lib.hid s.front3
      clear s
      obtain ⟨A, hA⟩ : ∃ A, A = l.M := ⟨_, rfl⟩
      obtain ⟨B, hB⟩ : ∃ B, B = lb.M := ⟨_, rfl⟩
      obtain ⟨C, hC⟩ : ∃ C, C = lc.M := ⟨_, rfl⟩
      obtain ⟨F, hF⟩ : ∃ F, F = lf.M := ⟨_, rfl⟩
      rw [← hA] at h6
      rw [← hB] at h7
      have HH := Lib.hid (And.intro h6 (And.intro h7 (And.intro hC.symm hF.symm)))
      rw [← hA, ← hB, ← hC, ← hF]
      clear h4 h6 h7 hA hB hF hC
      go_wp2_with fail
      go_loopw [14] (fun i wr => ∃ (j : Nat) (l8 : Lay), i = .int .i64 j ∧ j ≤ k ∧ l8.M = C ∧ Sit w wr ((l8, MS.run j m1) :: (l7, m2) :: (l6, m2) :: [(lf, m)])) (fun i _ => k - (intOf i).toNat)
      case atStart => exact ⟨0, lc, rfl, Nat.zero_le _, HH.out.2.2.1, S.out⟩
      case round =>
        obtain ⟨j, l8, rfl, hj, h8, s⟩ := hrel
        by_cases hlt : j < k
        · have d1 : decide ((j : Int) < (k : Int)) = true := by simp; omega
          have hbj := run_bounds j m1
          have hb1 := HB.out.1
          have hl1 : (MS.run j m1).steps < 1000000 := by omega
          have hl2 : (MS.run j m1).out.length < 1000000 := by have := hb1.2; simp at this; omega
          have T := Lib.hid (And.intro s (And.intro hl1 hl2))
          clear s hbj hb1 hl1 hl2
          go_wp2_with fail
          refine (T.out.1.step (m' := MS.run (j + 1) m1) h8 (run_add j 1 m1).symm rfl T.out.2.1 T.out.2.2).mono ?_
          rintro e w9 ⟨rfl, l9, h9, s⟩
          have T2 := Lib.hid s
          clear s
          go_wp2_with fail
          go_roundw
          case rel => exact ⟨j + 1, l9, by go_num, hlt, h9, T2.out⟩
          case measure => simp [intOf]; omega
        · have he : j = k := by omega
          subst he
          have d1 : decide ((j : Int) < (j : Int)) = false := by simp
          rw [← HB.out.2.2.2.1] at s
          replace S := Lib.hid s.front3.mid
          have H8 := Lib.hid h8
          clear s h8
          go_wp2_with fail
          refine (same_at S.out HH.out.1 HH.out.2.1 HO.out.2.2).mono ?_
          rintro e wa ⟨rfl, s⟩
          replace S := Lib.hid s.mid
          clear s
          go_wp2_with fail
          refine (same_at S.out HH.out.1 H8.out HO.out.2.2).mono ?_
          rintro e wb ⟨rfl, s⟩
          replace S := Lib.hid s.front4
          clear s
          have v := S.out.val HH.out.2.2.2
          rw [HZ.out.1] at v
          obtain ⟨c0, -, -, -, -, c39⟩ := v
          go_wp2_with (go_at_call 20; refine (steps_at _ _ _ c0 c39).mono ?_; rintro e w' ⟨rfl, rfl⟩)
          clear c0 c39
          refine (S.out.out (bs := []) HH.out.2.2.2 0 HO.out.1 HZ.out.2.1 rfl).mono ?_
          rintro e wd ⟨a, c, rfl, -, s⟩
          replace S := Lib.hid s.swap
          clear s
          have v := S.out.val HH.out.1
          obtain ⟨c0, -, c36, -, -, -⟩ := v
          by_cases hs : m2.state = 0
          · rw [hs] at c36
            have HS := Lib.hid hs
            clear hs
            go_wp2_with (go_at_call 22; refine (state_at _ _ _ c0 c36).mono ?_; rintro e w' ⟨rfl, rfl⟩)
            clear c0 c36
            have v := S.out.val HH.out.1
            obtain ⟨c0, -, -, -, -, c39⟩ := v
            have hst := HB.out.1
            have hst2 := HB.out.2.1.1
            have d9 : decide (m2.steps ≤ (n : Int) + (j : Int)) = true := by simp; omega
            clear hst hst2
            go_wp2_with (go_at_call 20; refine (steps_at _ _ _ c0 c39).mono ?_; rintro e w' ⟨rfl, rfl⟩)
            clear c0 c39
            have hreg := S.out.rep.regAt HH.out.1 0 (by decide)
            rw [S.out.rep.ok.zero] at hreg
            refine hreg.mono ?_
            rintro e w' ⟨rfl, rfl⟩
            clear hreg
            go_wp2_with fail
            refine (works_any _ S.out.env).mono ?_
            rintro e wz ⟨rfl, hb⟩
            replace S := Lib.hid (S.out.grow hb)
            clear hb
            go_wp2_with fail
            go_ret
            exact ⟨rfl, S.out.below⟩
          · have hs2 : (m2.state == 0) = false := beq_eq_false_iff_ne.2 hs
            have HS := Lib.hid hs
            clear hs
            go_wp2_with (go_at_call 22; refine (state_at _ _ _ c0 c36).mono ?_; rintro e w' ⟨rfl, rfl⟩)
            clear c0 c36
            refine (S.out.copy HH.out.1 HO.out.2.2).mono ?_
            rintro e we ⟨ld, rfl, s⟩
            replace S := Lib.hid s
            clear s
            go_wp2_with fail
            have hbb := HB.out
            refine (S.out.run (m' := m2) rfl 7 (run_done HS.out _) rfl (by omega) (by have := HB.out.1.2; simp at this; omega)).mono ?_
            rintro e wf ⟨rfl, le, he, s⟩
            replace S := Lib.hid s.swap
            have HLE := Lib.hid he
            clear s hbb he
            go_wp2_with fail
            refine (same_at S.out HH.out.1 HLE.out HO.out.2.2).mono ?_
            rintro e wg ⟨rfl, s⟩
            replace S := Lib.hid s.swap
            clear s
            go_wp2_with fail
            have hgo := go_not S.out.rep 0 HS.out
            rw [HLE.out] at hgo
            refine hgo.mono ?_
            rintro e w' ⟨rfl, rfl⟩
            replace S := Lib.hid S.out.tail
            clear hgo
            go_wp2_with fail
            have v := S.out.val HH.out.1
            obtain ⟨c0, -, -, -, -, c39⟩ := v
            have hst := HB.out.1
            have hst2 := HB.out.2.1.1
            have d9 : decide (m2.steps ≤ (n : Int) + (j : Int)) = true := by simp; omega
            clear hst hst2
            go_wp2_with (go_at_call 20; refine (steps_at _ _ _ c0 c39).mono ?_; rintro e w' ⟨rfl, rfl⟩)
            clear c0 c39
            have hreg := S.out.rep.regAt HH.out.1 0 (by decide)
            rw [S.out.rep.ok.zero] at hreg
            refine hreg.mono ?_
            rintro e w' ⟨rfl, rfl⟩
            clear hreg
            go_wp2_with fail
            refine (works_any _ S.out.env).mono ?_
            rintro e wz ⟨rfl, hb⟩
            replace S := Lib.hid (S.out.grow hb)
            clear hb
            go_wp2_with fail
            go_ret
            exact ⟨rfl, S.out.below⟩
end Go.Proofs.YtknnmacmohpanaaDoor
