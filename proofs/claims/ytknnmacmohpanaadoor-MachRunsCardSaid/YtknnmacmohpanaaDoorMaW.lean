/- The walk of same: two machines that are alike. Conditions: both lie as told. -/
import Derived.Test.YtknnmacmohpanaaDoorMaU
import Derived.Deep.RegionHeld3
namespace Go.Proofs.YtknnmacmohpanaaDoor
open Go.RowKit

/-- What Mem answers. -/
def memV (m : MS) (k : Nat) : Int := if k < m.size then m.mem k else 0
def memB (m : MS) (k : Nat) : Bool := decide (k < m.size)
theorem MRep.memAt {base : Nat} {w : World} {l : Lay} {m : MS} (h : MRep base w l m) {M : Nat} (hM : l.M = M) (k : Nat) :
    Calls Tryd.prog 24 #[.pointer (some ⟨M, 0, none⟩), .int .i64 k] w fun e w' => e = .returned (.tuple #[.int .u32 (memV m k), .bool (memB m k)]) ∧ w = w' := by
  subst hM
  unfold memV memB
  by_cases hk : k < m.size
  · rw [if_pos hk, decide_eq_true hk]
    exact mem_in _ k _ _ w h.ok.size.2 hk h.c0 h.c33 (h.load k hk)
  · rw [if_neg hk, decide_eq_false hk]
    exact mem_out _ _ _ w h.ok.size.2 (by omega) h.c0 h.c33
theorem MRep.regAt {base : Nat} {w : World} {l : Lay} {m : MS} (h : MRep base w l m) {M : Nat} (hM : l.M = M) (k : Nat) (hk : k < 32) :
    Calls Tryd.prog 23 #[.pointer (some ⟨M, 0, none⟩), .int .i64 k] w fun e w' => e = .returned (.int .u32 (m.regs k)) ∧ w = w' := by
  subst hM
  exact reg_in _ k _ w hk h.c0 (h.cr k hk)

theorem Sit.outB {W w : World} {L : List (Lay × MS)} {l : Lay} {m : MS} {bs : List Int} {M : Nat} (s : Sit W w ((l, m) :: L)) (hM : l.M = M) (n : Nat) (ho : m.out.length ≤ 1000000) (hb : m.out = bs) (hn : bs.length = n) :
    Calls Tryd.prog 21 #[.pointer (some ⟨M, 0, none⟩)] w fun e w' => ∃ a c, e = .returned (.slice a n c) ∧ Below w.heap.size w w' ∧ (∀ w'', Below w'.heap.size w' w'' → (convert 23 9 (.slice a n c)).run Tryd.prog w'' = .ok (.string (strOfNums bs)) w'') ∧ Sit W w' ((l, m) :: L) := by
  subst hb hn hM
  refine (out_at s.rep ho).mono ?_
  rintro _ w' ⟨v, he, hO, hb⟩
  have hc := fun g hg => hO.cells (g := g) hg
  have hlt := hO.lt
  rcases hO.2 with ⟨rfl, h0⟩ | ⟨g, cap, cur, rfl, -⟩
  · refine ⟨none, 0, by rw [he, h0], hb, fun w'' hb'' => ?_, s.grow hb⟩
    rw [List.eq_nil_of_length_eq_zero h0]
    exact run_convert_bytes_nil w'' 23 5 Tryd.underlying23 Tryd.underlying5 _ _ 9 Tryd.underlying9
  · refine ⟨some ⟨g, 0, none⟩, cap, he, hb, fun w'' hb'' => ?_, s.grow hb⟩
    refine run_convert_bytes_arg w'' 23 5 Tryd.underlying23 Tryd.underlying5 g 0 _ cap m.out rfl (fun i hi => ?_) 9 Tryd.underlying9
    have h1 := hc g rfl i (.int .u8 (m.out.getD i 0)) (by unfold byL; rw [List.getElem?_map, List.getElem?_eq_getElem hi]; simp [List.getD, List.getElem?_eq_getElem hi])
    exact (hb''.cell (hlt g rfl).2).trans (by rw [Addr.add_mid] at h1; exact h1)
theorem cell_drew (w : World) (a : Addr) : w.drew.cell? a = w.cell? a := rfl
set_option maxRecDepth 100000 in
set_option maxHeartbeats 6000000 in
theorem same_at {W w : World} {L : List (Lay × MS)} {l1 l2 : Lay} {m : MS} {M1 M2 : Nat} (s : Sit W w ((l1, m) :: (l2, m) :: L)) (h1 : l1.M = M1) (h2 : l2.M = M2) (ho : m.out.length ≤ 1000000) :
    Calls Tryd.prog 19 #[.pointer (some ⟨M1, 0, none⟩), .pointer (some ⟨M2, 0, none⟩), .int .i64 300] w fun e w' => e = .returned (.bool true) ∧ Sit W w' ((l1, m) :: (l2, m) :: L) := by
  have S := Lib.hid (And.intro s ho)
  have HR := Lib.hid (show ∀ M, (M = M1 ∨ M = M2) → ∀ k : Nat, k < 32 → Calls Tryd.prog 23 #[.pointer (some ⟨M, 0, none⟩), .int .i64 k] w fun e w' => e = .returned (.int .u32 (m.regs k)) ∧ w = w' from
    fun M hM k hk => hM.elim (fun e => s.rep.regAt (h1.trans e.symm) k hk) (fun e => s.tail.rep.regAt (h2.trans e.symm) k hk))
  have HM := Lib.hid (show ∀ M, (M = M1 ∨ M = M2) → ∀ k : Nat, Calls Tryd.prog 24 #[.pointer (some ⟨M, 0, none⟩), .int .i64 k] w fun e w' => e = .returned (.tuple #[.int .u32 (memV m k), .bool (memB m k)]) ∧ w = w' from
    fun M hM k => hM.elim (fun e => s.rep.memAt (h1.trans e.symm) k) (fun e => s.tail.rep.memAt (h2.trans e.symm) k))
  have HV := Lib.hid (show ∀ M, (M = M1 ∨ M = M2) → w.drew.cell? ⟨M, 0, none⟩ = some (.pointer (some ⟨M, 0, none⟩)) ∧ w.drew.cell? ⟨M, 35, none⟩ = some (.int .u32 m.place) ∧ w.drew.cell? ⟨M, 36, none⟩ = some (.int .i64 m.state) ∧ w.drew.cell? ⟨M, 37, none⟩ = some (.int .u32 m.code) ∧ w.drew.cell? ⟨M, 38, none⟩ = some (.int .i64 m.trap) ∧ w.drew.cell? ⟨M, 39, none⟩ = some (.int .i64 m.steps) from
    fun M hM => hM.elim (fun e => s.drew.val (h1.trans e.symm)) (fun e => s.drew.tail.val (h2.trans e.symm)))
  have HO := Lib.hid (show ∀ w', Sit W w' ((l1, m) :: (l2, m) :: L) → ∀ M, (M = M1 ∨ M = M2) → Calls Tryd.prog 21 #[.pointer (some ⟨M, 0, none⟩)] w' fun e w'' => ∃ a c, e = .returned (.slice a m.out.length c) ∧ Below w'.heap.size w' w'' ∧ (∀ w3, Below w''.heap.size w'' w3 → (convert 23 9 (.slice a m.out.length c)).run Tryd.prog w3 = .ok (.string (strOfNums m.out)) w3) ∧ Sit W w'' ((l1, m) :: (l2, m) :: L) from
    fun w' s' M hM => hM.elim (fun e => s'.outB (h1.trans e.symm) _ ho rfl rfl) (fun e => (s'.swap.outB (h2.trans e.symm) _ ho rfl rfl).mono fun _ _ ⟨a, c, he, hb, hc, hs⟩ => ⟨a, c, he, hb, hc, hs.swap⟩))
  clear h1 h2 ho
  obtain ⟨bs, hbs⟩ : ∃ bs, bs = strOfNums m.out := ⟨_, rfl⟩
  obtain ⟨n, hn⟩ : ∃ n, n = m.out.length := ⟨_, rfl⟩
  rw [← hbs, ← hn] at HO
  clear hbs hn
  have s0 := S.out.1.drew
  clear S
  go_enter Tryd.func19, Tryd.ntmps19
  go_wp2_with fail
  go_loop [7] (fun i => ∃ k : Nat, k ≤ 32 ∧ i = .int .i64 k) (fun i => 32 - (intOf i).toNat)
  case atStart => exact ⟨0, by decide, rfl⟩
  case round =>
    obtain ⟨k, hk, rfl⟩ := hrel
    by_cases hlt : k < 32
    · have hd : decide ((k : Int) < 32) = true := by simp; omega
      go_wp2_with (go_at_call 23; refine (HR.out _ (by first | exact Or.inl rfl | exact Or.inr rfl) k hlt).mono ?_; rintro e w' ⟨rfl, rfl⟩)
      go_round
      case rel => exact ⟨k + 1, by omega, by go_num⟩
      case measure => simp [intOf]; omega
    · have he : k = 32 := by omega
      subst he
      go_wp2_with fail
      go_loop [8] (fun i => ∃ k : Nat, k ≤ 300 ∧ i = .int .i64 k) (fun i => 300 - (intOf i).toNat)
      case atStart => exact ⟨0, by decide, rfl⟩
      case round =>
        obtain ⟨k, hk, rfl⟩ := hrel
        by_cases hlt : k < 300
        · have hd : decide ((k : Int) < 300) = true := by simp; omega
          go_wp2_with (go_at_call 24; refine (HM.out _ (by first | exact Or.inl rfl | exact Or.inr rfl) k).mono ?_; rintro e w' ⟨rfl, rfl⟩)
          go_round
          case rel => exact ⟨k + 1, by omega, by go_num⟩
          case measure => simp [intOf]; omega
        · have he : k = 300 := by omega
          subst he
          go_wp2_with fail
          go_region_with (first
            | (go_at_call 25; refine (place_at _ _ _ (HV.out _ (by first | exact Or.inl rfl | exact Or.inr rfl)).1 (HV.out _ (by first | exact Or.inl rfl | exact Or.inr rfl)).2.1).mono ?_; rintro e w' ⟨rfl, rfl⟩)
            | (go_at_call 22; refine (state_at _ _ _ (HV.out _ (by first | exact Or.inl rfl | exact Or.inr rfl)).1 (HV.out _ (by first | exact Or.inl rfl | exact Or.inr rfl)).2.2.1).mono ?_; rintro e w' ⟨rfl, rfl⟩)
            | (go_at_call 29; refine (code_at _ _ _ (HV.out _ (by first | exact Or.inl rfl | exact Or.inr rfl)).1 (HV.out _ (by first | exact Or.inl rfl | exact Or.inr rfl)).2.2.2.1).mono ?_; rintro e w' ⟨rfl, rfl⟩)
            | (go_at_call 30; refine (trap_at _ _ _ (HV.out _ (by first | exact Or.inl rfl | exact Or.inr rfl)).1 (HV.out _ (by first | exact Or.inl rfl | exact Or.inr rfl)).2.2.2.2.1).mono ?_; rintro e w' ⟨rfl, rfl⟩)
            | (go_at_call 20; refine (steps_at _ _ _ (HV.out _ (by first | exact Or.inl rfl | exact Or.inr rfl)).1 (HV.out _ (by first | exact Or.inl rfl | exact Or.inr rfl)).2.2.2.2.2).mono ?_; rintro e w' ⟨rfl, rfl⟩)
            | (go_at_call 21; (try have hold := hc); refine (HO.out _ (by assumption) _ (by first | exact Or.inl rfl | exact Or.inr rfl)).mono ?_; rintro e w9 ⟨a, c, rfl, hb9, hc, s9⟩; have hcv := hc w9 (Below.refl _ _); (try have hcv2 := hold w9 hb9)))
          all_goals
            go_wp2_with fail
            go_ret
            exact ⟨rfl, by assumption⟩
end Go.Proofs.YtknnmacmohpanaaDoor
