/- Contracts: many steps of the document's machine; alike. Conditions: they lie as told. -/
import Derived.Test.YtknnmacmohpanaaDoorMaQd
import Derived.Test.YtknnmacmohpanaaDoorMaPa
import Derived.Deep.RegionHeld
namespace Go.Proofs.YtknnmacmohpanaaDoor
open Go.RowKit
set_option linter.unusedVariables false
set_option linter.unusedSimpArgs false

set_option maxRecDepth 100000 in
set_option maxHeartbeats 2000000 in
theorem rrun_at {base : Nat} {w : World} {l : QL} {m : MS} {Q : Nat} (h : QRep base w l m) (hQ : l.Q = Q) (n : Int) (hlim : m.steps + n ≤ 1000000) (hlo : (m.out.length : Int) + n ≤ 1000000) (hst : m.steps ≤ 1000000) (hot : m.out.length ≤ 1000000) :
    Calls Tryd.prog 14 #[.pointer (some ⟨Q, 0, none⟩), .int .i64 n] w fun e w' => e = .returned (.int .i64 (MS.run n.toNat m).state) ∧ ∃ l', QStp base w w' l l' (MS.run n.toNat m) := by
  have hn : n ≤ 1000000 := by have := h.ok.steps; omega
  have H := Lib.hid (And.intro h (And.intro hQ (And.intro hlim (And.intro hlo (And.intro hst hot)))))
  clear h hQ hlim hlo hst hot
  go_enter Tryd.func14, Tryd.ntmps14
  go_wp2_with fail
  go_loopw [5] (fun i wr => ∃ (j : Nat) (l' : QL), i = .int .i64 j ∧ j ≤ n.toNat ∧ QStp base w wr l l' (MS.run j m)) (fun i _ => n.toNat - (intOf i).toNat)
  case atStart => exact ⟨0, l, rfl, Nat.zero_le _, QStp.refl H.out.1⟩
  case round =>
    obtain ⟨j, l', rfl, hj, s⟩ := hrel
    have hb := run_bounds j m
    have hadd := run_add j (n.toNat - j) m
    have hsucc := run_add j 1 m
    rw [show j + (n.toNat - j) = n.toNat by omega] at hadd
    obtain ⟨mj, hmj⟩ : ∃ mj, mj = MS.run j m := ⟨_, rfl⟩
    rw [← hmj] at hb s hadd hsucc
    have c36 := s.rep.c36
    rw [s.Q, H.out.2.1] at c36
    by_cases hlt : (j : Int) < n
    · have d1 : decide ((j : Int) < n) = true := decide_eq_true hlt
      have S := Lib.hid (And.intro s (And.intro hb (And.intro hadd hsucc)))
      clear s hb hadd hsucc hmj
      by_cases hs : mj.state = 0
      · rw [hs] at c36
        have HS := Lib.hid hs
        clear hs
        have HF := Lib.hid (rstep_at S.out.1.rep (S.out.1.Q.trans H.out.2.1) (by have := H.out; have := S.out.2.1; omega) (by have := H.out; have := S.out.2.1; omega))
        go_wp2_with fail
        refine HF.out.mono ?_
        rintro e w5 ⟨rfl, l5, s5⟩
        have S5 := Lib.hid s5
        clear s5
        go_wp2_with fail
        go_roundw
        case rel => exact ⟨j + 1, l5, by go_num, by omega, by rw [S.out.2.2.2]; exact S.out.1.trans S5.out⟩
        case measure => simp [intOf]; omega
      · have e0 : (mj.state == 0) = false := beq_eq_false_iff_ne.2 hs
        have HS := Lib.hid hs
        clear hs
        go_wp2_with fail
        go_ret
        have he : MS.run n.toNat m = mj := by rw [S.out.2.2.1, run_done HS.out]
        exact ⟨by rw [he]; rfl, l', by rw [he]; exact S.out.1⟩
    · have d1 : decide ((j : Int) < n) = false := decide_eq_false hlt
      have he : MS.run n.toNat m = mj := by rw [hadd, show n.toNat - j = 0 by omega]; rfl
      have S := Lib.hid (And.intro s he)
      clear s hb hadd hsucc hmj he
      go_wp2_with fail
      go_ret
      exact ⟨by rw [S.out.2]; rfl, l', by rw [S.out.2]; exact S.out.1⟩

theorem Mad.grow {W w w' : World} {l : Lay} {q : QL} {m : MS} (h : Mad W l q m w) (hb : Below w.heap.size w w') : Mad W l q m w' :=
  ⟨h.below.trans (hb.mono h.below.size), h.rep.below hb, h.qrep.below hb, h.ap⟩
/-- The document's output, and what string makes of it. -/
theorem QRep.outq {base : Nat} {w : World} {l : QL} {m : MS} (h : QRep base w l m) : ∃ (a : Option Addr) (c : Nat), l.vo = .slice a m.out.length c ∧ ∀ w'', Below w.heap.size w w'' → (convert 23 9 (.slice a m.out.length c)).run Tryd.prog w'' = .ok (.string (strOfNums m.out)) w'' := by
  have hO := h.out
  have hc := fun g hg => hO.cells (g := g) hg
  have hlt := hO.lt
  rcases hO.2 with ⟨hv, h0⟩ | ⟨g, cap, cur, hv, -⟩
  · refine ⟨none, 0, by rw [hv, h0], fun w'' hb'' => ?_⟩
    rw [List.eq_nil_of_length_eq_zero h0]
    exact run_convert_bytes_nil w'' 23 5 Tryd.underlying23 Tryd.underlying5 _ _ 9 Tryd.underlying9
  · refine ⟨some ⟨g, 0, none⟩, cap, hv, fun w'' hb'' => ?_⟩
    have hg : l.vo.ownBlock = some g := by rw [hv]; rfl
    refine run_convert_bytes_arg w'' 23 5 Tryd.underlying23 Tryd.underlying5 g 0 _ cap m.out rfl (fun i hi => ?_) 9 Tryd.underlying9
    have h1 := hc g hg i (.int .u8 (m.out.getD i 0)) (by unfold byL; rw [List.getElem?_map, List.getElem?_eq_getElem hi]; simp [List.getD, List.getElem?_eq_getElem hi])
    exact (hb''.cell (hlt g hg).2).trans (by rw [Addr.add_mid] at h1; exact h1)

set_option maxRecDepth 100000 in
set_option maxHeartbeats 8000000 in
theorem alike_at {W w : World} {l : Lay} {q : QL} {m : MS} {M Q : Nat} (h : Mad W l q m w) (hE : Env W) (hM : l.M = M) (hQ : q.Q = Q) (ho : m.out.length ≤ 1000000) :
    Calls Tryd.prog 12 #[.pointer (some ⟨M, 0, none⟩), .pointer (some ⟨Q, 0, none⟩)] w fun e w' => e = .returned (.bool true) ∧ Mad W l q m w' := by
  subst hM hQ
  have HR := Lib.hid (show ∀ k : Nat, k < 32 → Calls Tryd.prog 23 #[.pointer (some ⟨l.M, 0, none⟩), .int .i64 k] w fun e w' => e = .returned (.int .u32 (m.regs k)) ∧ w = w' from fun k hk => h.rep.regAt rfl k hk)
  have HN := Lib.hid (show ∀ i : Int, ¬ (0 ≤ i ∧ i < 32) → Calls Tryd.prog 23 #[.pointer (some ⟨l.M, 0, none⟩), .int .i64 i] w fun e w' => e = .returned (.int .u32 0) ∧ w = w' from fun i hi => reg_out _ i w hi h.rep.c0)
  have HC := Lib.hid (show ∀ k : Nat, k < 32 → w.cell? ⟨q.Q, k, none⟩ = some (.int .u32 (m.regs k)) from fun k hk => h.qrep.cr k hk)
  have HM := Lib.hid (show ∀ k : Nat, k < m.size → Calls Tryd.prog 24 #[.pointer (some ⟨l.M, 0, none⟩), .int .i64 k] w fun e w' => e = .returned (.tuple #[.int .u32 (m.mem k), .bool true]) ∧ w = w' from fun k hk => mem_in _ k _ _ w h.rep.ok.size.2 hk h.rep.c0 h.rep.c33 (h.rep.load k hk))
  have HO := Lib.hid (show ∀ i : Int, ¬ (0 ≤ i ∧ i < m.size) → Calls Tryd.prog 24 #[.pointer (some ⟨l.M, 0, none⟩), .int .i64 i] w fun e w' => e = .returned (.tuple #[.int .u32 0, .bool false]) ∧ w = w' from fun i hi => mem_out _ _ i w h.rep.ok.size.2 hi h.rep.c0 h.rep.c33)
  have HCM := Lib.hid (show ∀ k : Nat, k < m.size → w.cell? ⟨q.B, k, none⟩ = some (.int .u32 (m.mem k)) from fun k hk => h.qrep.cm k hk)
  have c32 := h.qrep.c32
  have hsz := h.qrep.ok.size
  have H := Lib.hid (And.intro h (And.intro hE ho))
  clear h hE ho
  go_enter Tryd.func12, Tryd.ntmps12
  go_wp2_with fail
  go_loop [5] (fun i => ∃ k : Nat, k ≤ 34 ∧ i = .int .i64 ((k : Int) - 1)) (fun i => 34 - (intOf i + 1).toNat)
  case atStart => exact ⟨0, by decide, rfl⟩
  case round =>
    obtain ⟨k, hk, rfl⟩ := hrel
    by_cases h34 : k < 34
    · have d1 : decide ((k : Int) - 1 < 33) = true := by simp; omega
      by_cases hin : 1 ≤ k ∧ k ≤ 32
      · obtain ⟨j, rfl⟩ : ∃ j, k = j + 1 := ⟨k - 1, by omega⟩
        have e1 : ((j + 1 : Nat) : Int) - 1 = j := by omega
        rw [e1] at d1 ⊢
        have d2 : decide (0 ≤ (j : Int)) = true := by simp
        have d3 : decide ((j : Int) < 32) = true := by simp; omega
        have hj : j < 32 := by omega
        have hj2 : (j : Int) < 32 := by omega
        have hr := HR.out j hj
        have cj := HC.out j hj
        have HJ := Lib.hid hr
        clear hr e1
        go_wp2_with (go_at_call 23; refine HJ.out.mono ?_; rintro e w' ⟨rfl, rfl⟩)
        go_round
        case rel => exact ⟨j + 2, by omega, by go_num⟩
        case measure => simp [intOf]; omega
      · have HJ := Lib.hid (HN.out ((k : Int) - 1) (by omega))
        obtain ⟨x, hx⟩ : ∃ x : Int, x = (k : Int) - 1 := ⟨_, rfl⟩
        rw [← hx] at HJ d1 ⊢
        have hx2 : x = -1 ∨ x = 32 := by omega
        have HX := Lib.hid (And.intro hx hin)
        clear hx hin
        rcases hx2 with rfl | rfl
        · go_wp2_with (go_at_call 23; refine HJ.out.mono ?_; rintro e w' ⟨rfl, rfl⟩)
          go_round
          case rel => exact ⟨1, by omega, by go_num⟩
          case measure => have := HX.out.1; simp [intOf]
        · go_wp2_with (go_at_call 23; refine HJ.out.mono ?_; rintro e w' ⟨rfl, rfl⟩)
          go_round
          case rel => exact ⟨34, by omega, by go_num⟩
          case measure => have := HX.out.1; simp [intOf]
    · have he : k = 34 := by omega
      subst he
      rw [show (((34 : Nat) : Int) - 1) = 33 by rfl]
      clear HR HN HC h34
      go_wp2_with fail
      go_loop [7] (fun i => ∃ k : Nat, k ≤ m.size ∧ i = .int .i64 k) (fun i => m.size - (intOf i).toNat)
      case atStart => exact ⟨0, Nat.zero_le _, rfl⟩
      case round =>
        obtain ⟨k, hk, rfl⟩ := hrel
        by_cases hlt : k < m.size
        · have d1 : decide ((k : Int) < (m.size : Int)) = true := by simp; omega
          have hlt2 : (k : Int) < (m.size : Int) := by omega
          have ck := HCM.out k hlt
          have HK := Lib.hid (HM.out k hlt)
          go_wp2_with (go_at_call 24; refine HK.out.mono ?_; rintro e w' ⟨rfl, rfl⟩)
          go_round
          case rel => exact ⟨k + 1, by omega, by go_num⟩
          case measure => simp [intOf]; omega
        · have he : k = m.size := by omega
          subst he
          have d1 : decide ((m.size : Int) < (m.size : Int)) = false := by simp
          clear HM HCM hlt
          go_upto_region 17 with (go_at_call 24; refine (HO.out _ (by omega)).mono ?_; rintro e w' ⟨rfl, rfl⟩)
          obtain ⟨a9, c9, hvo, hcq⟩ := H.out.1.qrep.outq
          have q33 := H.out.1.qrep.c33
          have q35 := H.out.1.qrep.c35
          have q36 := H.out.1.qrep.c36
          have q37 := H.out.1.qrep.c37
          have q38 := H.out.1.qrep.c38
          have q39 := H.out.1.qrep.c39
          have hQl := lt_of_block H.out.1.qrep.mac
          rw [hvo] at q35
          have HD := Lib.hid (H.out.1.grow (Below.refl _ _).drew)
          have HV := Lib.hid ((HD.out.sit H.out.2.1).val rfl)
          have hout := (HD.out.sit H.out.2.1).outB rfl _ H.out.2.2 rfl rfl
          obtain ⟨bs, hbs⟩ : ∃ bs, bs = strOfNums m.out := ⟨_, rfl⟩
          obtain ⟨n, hn⟩ : ∃ n, n = m.out.length := ⟨_, rfl⟩
          rw [← hbs, ← hn] at hcq hout
          rw [← hn] at q35
          have hq0 := hcq w.drew (Below.refl _ _).drew
          have HOT := Lib.hid hout
          have HCQ := Lib.hid (show ∀ w', Below w.drew.heap.size w.drew w' → (convert 23 9 (.slice a9 n c9)).run Tryd.prog w' = .ok (.string bs) w' ∧ w'.cell? ⟨q.Q, 33, none⟩ = some (.int .u32 m.place) ∧ w'.cell? ⟨q.Q, 35, none⟩ = some (.slice a9 n c9) ∧ w'.cell? ⟨q.Q, 36, none⟩ = some (.int .i64 m.state) ∧ w'.cell? ⟨q.Q, 37, none⟩ = some (.int .u32 m.code) ∧ w'.cell? ⟨q.Q, 38, none⟩ = some (.int .i64 m.trap) ∧ w'.cell? ⟨q.Q, 39, none⟩ = some (.int .i64 m.steps) from fun w' hb => ⟨hcq w' ((Below.refl _ _).drew.trans hb), (hb.cell (p := ⟨q.Q, 33, none⟩) hQl).trans q33, (hb.cell (p := ⟨q.Q, 35, none⟩) hQl).trans q35, (hb.cell (p := ⟨q.Q, 36, none⟩) hQl).trans q36, (hb.cell (p := ⟨q.Q, 37, none⟩) hQl).trans q37, (hb.cell (p := ⟨q.Q, 38, none⟩) hQl).trans q38, (hb.cell (p := ⟨q.Q, 39, none⟩) hQl).trans q39⟩)
          clear hcq hout hbs hn hvo HO c32 hQl
          go_region_held (fun w' => w'.cell? ⟨q.Q, 33, none⟩ = some (.int .u32 m.place) ∧ w'.cell? ⟨q.Q, 35, none⟩ = some (.slice a9 n c9) ∧ w'.cell? ⟨q.Q, 36, none⟩ = some (.int .i64 m.state) ∧ w'.cell? ⟨q.Q, 37, none⟩ = some (.int .u32 m.code) ∧ w'.cell? ⟨q.Q, 38, none⟩ = some (.int .i64 m.trap) ∧ w'.cell? ⟨q.Q, 39, none⟩ = some (.int .i64 m.steps)) (go_keep) (first
            | (go_at_call 25; refine (place_at _ _ _ HV.out.1 HV.out.2.1).mono ?_; rintro e w' ⟨rfl, rfl⟩)
            | (go_at_call 22; refine (state_at _ _ _ HV.out.1 HV.out.2.2.1).mono ?_; rintro e w' ⟨rfl, rfl⟩)
            | (go_at_call 29; refine (code_at _ _ _ HV.out.1 HV.out.2.2.2.1).mono ?_; rintro e w' ⟨rfl, rfl⟩)
            | (go_at_call 30; refine (trap_at _ _ _ HV.out.1 HV.out.2.2.2.2.1).mono ?_; rintro e w' ⟨rfl, rfl⟩)
            | (go_at_call 20; refine (steps_at _ _ _ HV.out.1 HV.out.2.2.2.2.2).mono ?_; rintro e w' ⟨rfl, rfl⟩)
            | (go_at_call 21; refine HOT.out.mono ?_; rintro e w9 ⟨a, c, rfl, hb9, hc, -⟩; have hcv := hc w9 (Below.refl _ _); obtain ⟨hq1, k33, k35, k36, k37, k38, k39⟩ := HCQ.out w9 hb9))
          all_goals
            go_wp2_with fail
            go_ret
            exact ⟨rfl, HD.out.grow hb9⟩
end Go.Proofs.YtknnmacmohpanaaDoor
