/- same of two machines that part in their input alone; such machines step alike, but for In. Conditions: both lie as told. -/
import Derived.Test.YtknnmacmohpanaaDoorMaW
namespace Go.Proofs.YtknnmacmohpanaaDoor
open Go.RowKit

/-- The machine with another input. -/
def MS.inTo (m : MS) (i : List Int) : MS := { m with inp := i }
theorem inTo_same (m : MS) : m.inTo m.inp = m := rfl
/-- Does the machine stand at an In? -/
def MS.atIn (m : MS) : Bool := memB m m.place.toNat && (Isa.dOk (memV m m.place.toNat) && decide (Isa.dOp (memV m m.place.toNat) = 34))
theorem exec_in (m : MS) (i2 : List Int) (op : Int) (d : Nat) (a b i : Int) (h : op ≠ 34) : (m.inTo i2).exec op d a b i = (m.exec op d a b i).inTo i2 := by
  unfold MS.exec
  rw [if_neg h, if_neg h, show (m.inTo i2).size = m.size from rfl]
  (repeat' split) <;> rfl
theorem step_in (m : MS) (i2 : List Int) (h0 : 0 ≤ m.place) (h : m.atIn = false) : (m.inTo i2).step = m.step.inTo i2 := by
  by_cases h1 : (m.size : Int) ≤ m.place
  · show (if (m.size : Int) ≤ m.place then (m.inTo i2).stop 3 else _) = (if (m.size : Int) ≤ m.place then m.stop 3 else _).inTo i2
    rw [if_pos h1, if_pos h1]; rfl
  · have h2 : m.place.toNat < m.size := by omega
    by_cases h3 : Isa.dOk (m.mem m.place.toNat) = false
    · show (if (m.size : Int) ≤ m.place then _ else if Isa.dOk (m.mem m.place.toNat) = false then (m.inTo i2).stop 1 else _) = (if (m.size : Int) ≤ m.place then _ else if Isa.dOk (m.mem m.place.toNat) = false then m.stop 1 else _).inTo i2
      rw [if_neg h1, if_neg h1, if_pos h3, if_pos h3]; rfl
    · have h4 : Isa.dOp (m.mem m.place.toNat) ≠ 34 := by
        intro e
        unfold MS.atIn memB memV at h
        rw [if_pos h2, decide_eq_true h2, e] at h
        simp at h
        exact h3 h
      unfold MS.step
      show (if (m.size : Int) ≤ m.place then _ else if Isa.dOk (m.mem m.place.toNat) = false then _ else (m.inTo i2).exec _ _ _ _ _) = _
      rw [if_neg h1, if_neg h1, if_neg h3, if_neg h3]
      exact exec_in m i2 _ _ _ _ _ h4
theorem run1_in (m : MS) (i2 : List Int) (h0 : 0 ≤ m.place) (h : m.state = 0 → m.atIn = false) : MS.run 1 (m.inTo i2) = (MS.run 1 m).inTo i2 := by
  show (if m.state = 0 then (m.inTo i2).step else m.inTo i2) = (if m.state = 0 then m.step else m).inTo i2
  by_cases hs : m.state = 0
  · rw [if_pos hs, if_pos hs]; exact step_in m i2 h0 (h hs)
  · rw [if_neg hs, if_neg hs]
set_option maxRecDepth 100000 in
set_option maxHeartbeats 6000000 in
theorem same_in {W w : World} {L : List (Lay × MS)} {l1 l2 : Lay} {m : MS} {i2 : List Int} {M1 M2 : Nat} (s : Sit W w ((l1, m) :: (l2, m.inTo i2) :: L)) (h1 : l1.M = M1) (h2 : l2.M = M2) (ho : m.out.length ≤ 1000000) :
    Calls Tryd.prog 19 #[.pointer (some ⟨M1, 0, none⟩), .pointer (some ⟨M2, 0, none⟩), .int .i64 300] w fun e w' => e = .returned (.bool true) ∧ Sit W w' ((l1, m) :: (l2, m.inTo i2) :: L) := by
  have S := Lib.hid (And.intro s ho)
  have HR := Lib.hid (show ∀ M, (M = M1 ∨ M = M2) → ∀ k : Nat, k < 32 → Calls Tryd.prog 23 #[.pointer (some ⟨M, 0, none⟩), .int .i64 k] w fun e w' => e = .returned (.int .u32 (m.regs k)) ∧ w = w' from
    fun M hM k hk => hM.elim (fun e => s.rep.regAt (h1.trans e.symm) k hk) (fun e => s.tail.rep.regAt (h2.trans e.symm) k hk))
  have HM := Lib.hid (show ∀ M, (M = M1 ∨ M = M2) → ∀ k : Nat, Calls Tryd.prog 24 #[.pointer (some ⟨M, 0, none⟩), .int .i64 k] w fun e w' => e = .returned (.tuple #[.int .u32 (memV m k), .bool (memB m k)]) ∧ w = w' from
    fun M hM k => hM.elim (fun e => s.rep.memAt (h1.trans e.symm) k) (fun e => s.tail.rep.memAt (h2.trans e.symm) k))
  have HV := Lib.hid (show ∀ M, (M = M1 ∨ M = M2) → w.drew.cell? ⟨M, 0, none⟩ = some (.pointer (some ⟨M, 0, none⟩)) ∧ w.drew.cell? ⟨M, 35, none⟩ = some (.int .u32 m.place) ∧ w.drew.cell? ⟨M, 36, none⟩ = some (.int .i64 m.state) ∧ w.drew.cell? ⟨M, 37, none⟩ = some (.int .u32 m.code) ∧ w.drew.cell? ⟨M, 38, none⟩ = some (.int .i64 m.trap) ∧ w.drew.cell? ⟨M, 39, none⟩ = some (.int .i64 m.steps) from
    fun M hM => hM.elim (fun e => s.drew.val (h1.trans e.symm)) (fun e => s.drew.tail.val (h2.trans e.symm)))
  have HO := Lib.hid (show ∀ w', Sit W w' ((l1, m) :: (l2, m.inTo i2) :: L) → ∀ M, (M = M1 ∨ M = M2) → Calls Tryd.prog 21 #[.pointer (some ⟨M, 0, none⟩)] w' fun e w'' => ∃ a c, e = .returned (.slice a m.out.length c) ∧ Below w'.heap.size w' w'' ∧ (∀ w3, Below w''.heap.size w'' w3 → (convert 23 9 (.slice a m.out.length c)).run Tryd.prog w3 = .ok (.string (strOfNums m.out)) w3) ∧ Sit W w'' ((l1, m) :: (l2, m.inTo i2) :: L) from
    fun w' s' M hM => hM.elim (fun e => s'.outB (h1.trans e.symm) _ ho rfl rfl) (fun e => (Sit.outB (m := m.inTo i2) (bs := m.out) s'.swap (h2.trans e.symm) _ ho rfl rfl).mono fun _ _ ⟨a, c, he, hb, hc, hs⟩ => ⟨a, c, he, hb, hc, hs.swap⟩))
  clear h1 h2 ho
  obtain ⟨bs, hbs⟩ : ∃ bs, bs = strOfNums m.out := ⟨_, rfl⟩
  obtain ⟨n, hn⟩ : ∃ n, n = m.out.length := ⟨_, rfl⟩
  rw [← hbs, ← hn] at HO
  clear hbs hn
  have s0 := S.out.1.drew
  clear S
  go_enter Tryd.func19, Tryd.ntmps19
  go_wp2_with fail
  go_loop [7] (fun i => ∃ k : Nat, k ≤ 32 ∧ i = .int .i64 k) (fun i => 32 - (intOf i).toNat)
  case atStart => exact ⟨0, by decide, rfl⟩
  case round =>
    obtain ⟨k, hk, rfl⟩ := hrel
    by_cases hlt : k < 32
    · have hd : decide ((k : Int) < 32) = true := by simp; omega
      go_wp2_with (go_at_call 23; refine (HR.out _ (by first | exact Or.inl rfl | exact Or.inr rfl) k hlt).mono ?_; rintro e w' ⟨rfl, rfl⟩)
      go_round
      case rel => exact ⟨k + 1, by omega, by go_num⟩
      case measure => simp [intOf]; omega
    · have he : k = 32 := by omega
      subst he
      go_wp2_with fail
      go_loop [8] (fun i => ∃ k : Nat, k ≤ 300 ∧ i = .int .i64 k) (fun i => 300 - (intOf i).toNat)
      case atStart => exact ⟨0, by decide, rfl⟩
      case round =>
        obtain ⟨k, hk, rfl⟩ := hrel
        by_cases hlt : k < 300
        · have hd : decide ((k : Int) < 300) = true := by simp; omega
          go_wp2_with (go_at_call 24; refine (HM.out _ (by first | exact Or.inl rfl | exact Or.inr rfl) k).mono ?_; rintro e w' ⟨rfl, rfl⟩)
          go_round
          case rel => exact ⟨k + 1, by omega, by go_num⟩
          case measure => simp [intOf]; omega
        · have he : k = 300 := by omega
          subst he
          go_wp2_with fail
          go_region_with (first
            | (go_at_call 25; refine (place_at _ _ _ (HV.out _ (by first | exact Or.inl rfl | exact Or.inr rfl)).1 (HV.out _ (by first | exact Or.inl rfl | exact Or.inr rfl)).2.1).mono ?_; rintro e w' ⟨rfl, rfl⟩)
            | (go_at_call 22; refine (state_at _ _ _ (HV.out _ (by first | exact Or.inl rfl | exact Or.inr rfl)).1 (HV.out _ (by first | exact Or.inl rfl | exact Or.inr rfl)).2.2.1).mono ?_; rintro e w' ⟨rfl, rfl⟩)
            | (go_at_call 29; refine (code_at _ _ _ (HV.out _ (by first | exact Or.inl rfl | exact Or.inr rfl)).1 (HV.out _ (by first | exact Or.inl rfl | exact Or.inr rfl)).2.2.2.1).mono ?_; rintro e w' ⟨rfl, rfl⟩)
            | (go_at_call 30; refine (trap_at _ _ _ (HV.out _ (by first | exact Or.inl rfl | exact Or.inr rfl)).1 (HV.out _ (by first | exact Or.inl rfl | exact Or.inr rfl)).2.2.2.2.1).mono ?_; rintro e w' ⟨rfl, rfl⟩)
            | (go_at_call 20; refine (steps_at _ _ _ (HV.out _ (by first | exact Or.inl rfl | exact Or.inr rfl)).1 (HV.out _ (by first | exact Or.inl rfl | exact Or.inr rfl)).2.2.2.2.2).mono ?_; rintro e w' ⟨rfl, rfl⟩)
            | (go_at_call 21; (try have hold := hc); refine (HO.out _ (by assumption) _ (by first | exact Or.inl rfl | exact Or.inr rfl)).mono ?_; rintro e w9 ⟨a, c, rfl, hb9, hc, s9⟩; have hcv := hc w9 (Below.refl _ _); (try have hcv2 := hold w9 hb9)))
          all_goals
            go_wp2_with fail
            go_ret
            exact ⟨rfl, by assumption⟩
end Go.Proofs.YtknnmacmohpanaaDoor
