/- Contracts: whether a form fits, by the document's answer. Conditions: items, forms and addresses lie as told. -/
import Derived.Test.YtbplmbignalbgaaDoorAsAa
import Derived.Deep.QuietTactic
namespace Go.Proofs.YtbplmbignalbgaaDoor
open Go.RowKit Asm
set_option linter.unusedVariables false
set_option linter.unusedSimpArgs false

theorem fits_range {X : Nat → It} {n : Nat} {base : Int} {f : Nat → Nat} {i : Nat} {R : Int} (hR : reach (X i) (f i) = R) (h0 : R ≠ 0) {b : Bool} (hb : b = (decide (-R ≤ dist X n base f i) && decide (dist X n base f i ≤ R - 1))) : b = decide (fits X n base f i) := by
  rw [hb]
  have e : fits X n base f i ↔ (-R ≤ dist X n base f i ∧ dist X n base f i ≤ R - 1) := by
    unfold fits
    rw [hR]
    unfold far
    constructor
    · rintro (h | h)
      · exact absurd h h0
      · split at h <;> omega
    · intro h
      right
      split <;> omega
  by_cases hf : fits X n base f i
  · have := e.1 hf
    simp [hf, this.1, this.2]
  · have : ¬ (-R ≤ dist X n base f i ∧ dist X n base f i ≤ R - 1) := fun h => hf (e.2 h)
    by_cases h1 : -R ≤ dist X n base f i
    · have h2 : ¬ dist X n base f i ≤ R - 1 := fun h => this ⟨h1, h⟩
      simp [hf, h1, h2]
    · simp [hf, h1]
/-- What fits is asked over. -/
structure FQ (w : World) (p : Option Addr) (n c : Nat) (X : Nat → It) (base : Int) (f : Nat → Nat) (F cf A ca i : Nat) : Prop where
  items : Items w p n c X
  forms : Row w (.slice (some ⟨F, 0, none⟩) n cf) n (fun i => f i)
  ats : Row w (.slice (some ⟨A, 0, none⟩) (n + 1) ca) (n + 1) (ad X base f)
  n60 : n ≤ 480
  valid : valid X n f
  base : 0 ≤ base ∧ base ≤ 67108864
  lt : i < n
  named : (X i).kind = 3 ∨ (X i).kind = 4 → st X (X i).lab n = some (tgt X n i)

set_option maxRecDepth 100000 in
set_option maxHeartbeats 2000000 in
theorem rfits_other {w : World} {p : Option Addr} {n c : Nat} {X : Nat → It} {base : Int} {f : Nat → Nat} {F cf A ca i : Nat} (h : FQ w p n c X base f F cf A ca i) (hk : (X i).kind ≠ 3 ∧ (X i).kind ≠ 4) :
    Calls Tryd.prog 39 #[.slice p n c, .slice (some ⟨F, 0, none⟩) n cf, .slice (some ⟨A, 0, none⟩) (n + 1) ca, .int .i64 i] w fun e w' => e = .returned (.bool (decide (fits X n base f i))) ∧ Below w.heap.size w w' := by
  obtain ⟨b, off, hp, k0, k1, k2, k3, k4, k5, k6, k7⟩ := h.items.at h.lt
  have ei : (i : Int) < n := by have := h.lt; omega
  obtain ⟨w1, hw1⟩ : ∃ w1, w1 = w.alloc (.cells #[.int .i64 (X i).kind, .int .i64 (X i).op, .int .i64 (X i).d, .int .i64 (X i).a, .int .i64 (X i).b, .int .i64 (X i).imm, .string (X i).lab, .int .u32 (X i).word] 40) := ⟨_, rfl⟩
  have hN := heap_new w (.cells #[.int .i64 (X i).kind, .int .i64 (X i).op, .int .i64 (X i).d, .int .i64 (X i).a, .int .i64 (X i).b, .int .i64 (X i).imm, .string (X i).lab, .int .u32 (X i).word] 40)
  have hb1 : Below w.heap.size w w1 := by rw [hw1]; exact (Below.refl _ _).alloc (Nat.le_refl _) _
  rw [← hw1] at hN
  obtain ⟨N, hNe⟩ : ∃ N, N = w.heap.size := ⟨_, rfl⟩
  rw [← hNe] at hN
  obtain ⟨n0, n1, n2, n3, n4, n5, n6, n7⟩ := cells8 hN
  have cf1 := (h.forms.below hb1).cell h.lt
  have H := Lib.hid (And.intro h (And.intro hb1 (h.items.below hb1)))
  have HA := Lib.hid (h.ats.below hb1)
  rw [hp]
  have HP := Lib.hid hp
  clear hN hb1 hp n1 n2 n3 n4 n5 n7
  have d3 : ((X i).kind != 3) = true := by simp [hk.1]
  have d4 : ((X i).kind != 4) = true := by simp [hk.2]
  have HF := Lib.hid (show decide (fits X n base f i) = true by simpa using (fits_other (X := X) (n := n) (b0 := base) (f := f) (i := i) (by unfold turns; simp [hk.1, hk.2])))
  clear hk
  clear h
  go_enter Tryd.func39, Tryd.ntmps39
  go_upto_region 2 with fail
  rw [← hNe, ← hw1]
  clear hNe hw1 k0 k1 k2 k3 k4 k5 k6 k7
  go_wp2_with fail
  go_ret
  exact ⟨retB HF.out.symm, H.out.2.1⟩
set_option maxRecDepth 100000 in
set_option maxHeartbeats 2000000 in
theorem rfits_last3 {w : World} {p : Option Addr} {n c : Nat} {X : Nat → It} {base : Int} {f : Nat → Nat} {F cf A ca i : Nat} (h : FQ w p n c X base f F cf A ca i) (hk : (X i).kind = 3 ∧ f i = 3) :
    Calls Tryd.prog 39 #[.slice p n c, .slice (some ⟨F, 0, none⟩) n cf, .slice (some ⟨A, 0, none⟩) (n + 1) ca, .int .i64 i] w fun e w' => e = .returned (.bool (decide (fits X n base f i))) ∧ Below w.heap.size w w' := by
  obtain ⟨b, off, hp, k0, k1, k2, k3, k4, k5, k6, k7⟩ := h.items.at h.lt
  have ei : (i : Int) < n := by have := h.lt; omega
  obtain ⟨w1, hw1⟩ : ∃ w1, w1 = w.alloc (.cells #[.int .i64 (X i).kind, .int .i64 (X i).op, .int .i64 (X i).d, .int .i64 (X i).a, .int .i64 (X i).b, .int .i64 (X i).imm, .string (X i).lab, .int .u32 (X i).word] 40) := ⟨_, rfl⟩
  have hN := heap_new w (.cells #[.int .i64 (X i).kind, .int .i64 (X i).op, .int .i64 (X i).d, .int .i64 (X i).a, .int .i64 (X i).b, .int .i64 (X i).imm, .string (X i).lab, .int .u32 (X i).word] 40)
  have hb1 : Below w.heap.size w w1 := by rw [hw1]; exact (Below.refl _ _).alloc (Nat.le_refl _) _
  rw [← hw1] at hN
  obtain ⟨N, hNe⟩ : ∃ N, N = w.heap.size := ⟨_, rfl⟩
  rw [← hNe] at hN
  obtain ⟨n0, n1, n2, n3, n4, n5, n6, n7⟩ := cells8 hN
  have cf1 := (h.forms.below hb1).cell h.lt
  have H := Lib.hid (And.intro h (And.intro hb1 (h.items.below hb1)))
  have HA := Lib.hid (h.ats.below hb1)
  rw [hp]
  have HP := Lib.hid hp
  clear hN hb1 hp n1 n2 n3 n4 n5 n7
  have HF := Lib.hid (show decide (fits X n base f i) = true by simpa using (show fits X n base f i from Or.inl (by unfold reach; simp [hk.1, hk.2])))
  rw [hk.1] at n0
  rw [hk.2] at cf1
  clear hk
  clear h
  go_enter Tryd.func39, Tryd.ntmps39
  go_upto_region 2 with fail
  rw [← hNe, ← hw1]
  clear hNe hw1 k0 k1 k2 k3 k4 k5 k6 k7
  go_wp2_with fail
  go_ret
  exact ⟨retB HF.out.symm, H.out.2.1⟩
set_option maxRecDepth 100000 in
set_option maxHeartbeats 2000000 in
theorem rfits_last4 {w : World} {p : Option Addr} {n c : Nat} {X : Nat → It} {base : Int} {f : Nat → Nat} {F cf A ca i : Nat} (h : FQ w p n c X base f F cf A ca i) (hk : (X i).kind = 4 ∧ f i = 2) :
    Calls Tryd.prog 39 #[.slice p n c, .slice (some ⟨F, 0, none⟩) n cf, .slice (some ⟨A, 0, none⟩) (n + 1) ca, .int .i64 i] w fun e w' => e = .returned (.bool (decide (fits X n base f i))) ∧ Below w.heap.size w w' := by
  obtain ⟨b, off, hp, k0, k1, k2, k3, k4, k5, k6, k7⟩ := h.items.at h.lt
  have ei : (i : Int) < n := by have := h.lt; omega
  obtain ⟨w1, hw1⟩ : ∃ w1, w1 = w.alloc (.cells #[.int .i64 (X i).kind, .int .i64 (X i).op, .int .i64 (X i).d, .int .i64 (X i).a, .int .i64 (X i).b, .int .i64 (X i).imm, .string (X i).lab, .int .u32 (X i).word] 40) := ⟨_, rfl⟩
  have hN := heap_new w (.cells #[.int .i64 (X i).kind, .int .i64 (X i).op, .int .i64 (X i).d, .int .i64 (X i).a, .int .i64 (X i).b, .int .i64 (X i).imm, .string (X i).lab, .int .u32 (X i).word] 40)
  have hb1 : Below w.heap.size w w1 := by rw [hw1]; exact (Below.refl _ _).alloc (Nat.le_refl _) _
  rw [← hw1] at hN
  obtain ⟨N, hNe⟩ : ∃ N, N = w.heap.size := ⟨_, rfl⟩
  rw [← hNe] at hN
  obtain ⟨n0, n1, n2, n3, n4, n5, n6, n7⟩ := cells8 hN
  have cf1 := (h.forms.below hb1).cell h.lt
  have H := Lib.hid (And.intro h (And.intro hb1 (h.items.below hb1)))
  have HA := Lib.hid (h.ats.below hb1)
  rw [hp]
  have HP := Lib.hid hp
  clear hN hb1 hp n1 n2 n3 n4 n5 n7
  have HF := Lib.hid (show decide (fits X n base f i) = true by simpa using (show fits X n base f i from Or.inl (by unfold reach; simp [hk.1, hk.2])))
  rw [hk.1] at n0
  rw [hk.2] at cf1
  clear hk
  clear h
  go_enter Tryd.func39, Tryd.ntmps39
  go_upto_region 2 with fail
  rw [← hNe, ← hw1]
  clear hNe hw1 k0 k1 k2 k3 k4 k5 k6 k7
  go_wp2_with fail
  go_ret
  exact ⟨retB HF.out.symm, H.out.2.1⟩
set_option maxRecDepth 100000 in
set_option maxHeartbeats 2000000 in
theorem rfits_mid1 {w : World} {p : Option Addr} {n c : Nat} {X : Nat → It} {base : Int} {f : Nat → Nat} {F cf A ca i : Nat} (h : FQ w p n c X base f F cf A ca i) (hk : (X i).kind = 3 ∧ f i = 1) :
    Calls Tryd.prog 39 #[.slice p n c, .slice (some ⟨F, 0, none⟩) n cf, .slice (some ⟨A, 0, none⟩) (n + 1) ca, .int .i64 i] w fun e w' => e = .returned (.bool (decide (fits X n base f i))) ∧ Below w.heap.size w w' := by
  obtain ⟨b, off, hp, k0, k1, k2, k3, k4, k5, k6, k7⟩ := h.items.at h.lt
  have ei : (i : Int) < n := by have := h.lt; omega
  obtain ⟨w1, hw1⟩ : ∃ w1, w1 = w.alloc (.cells #[.int .i64 (X i).kind, .int .i64 (X i).op, .int .i64 (X i).d, .int .i64 (X i).a, .int .i64 (X i).b, .int .i64 (X i).imm, .string (X i).lab, .int .u32 (X i).word] 40) := ⟨_, rfl⟩
  have hN := heap_new w (.cells #[.int .i64 (X i).kind, .int .i64 (X i).op, .int .i64 (X i).d, .int .i64 (X i).a, .int .i64 (X i).b, .int .i64 (X i).imm, .string (X i).lab, .int .u32 (X i).word] 40)
  have hb1 : Below w.heap.size w w1 := by rw [hw1]; exact (Below.refl _ _).alloc (Nat.le_refl _) _
  rw [← hw1] at hN
  obtain ⟨N, hNe⟩ : ∃ N, N = w.heap.size := ⟨_, rfl⟩
  rw [← hNe] at hN
  obtain ⟨n0, n1, n2, n3, n4, n5, n6, n7⟩ := cells8 hN
  have cf1 := (h.forms.below hb1).cell h.lt
  have H := Lib.hid (And.intro h (And.intro hb1 (h.items.below hb1)))
  have HA := Lib.hid (h.ats.below hb1)
  rw [hp]
  have HP := Lib.hid hp
  clear hN hb1 hp n1 n2 n3 n4 n5 n7
  have hst := h.named (by omega)
  have hti := tgt_lt (X := X) h.lt
  have hsi := stI_some hst
  have hsa := fun m => rstands_at ((h.items.below H.out.2.1).below (below_drewN (Below.refl w1.heap.size w1) m)) h.n60 (X i).lab
  rw [hsi, HP.out] at hsa
  have hct := HA.out.cell (show tgt X n i < n + 1 by omega)
  have hci := HA.out.cell (show i + 1 < n + 1 by have := h.lt; omega)
  have eti : ((tgt X n i : Nat) : Int) < (n : Int) + 1 := by omega
  have ei1 : (i : Int) + 1 < (n : Int) + 1 := by have := h.lt; omega
  have hwr : IntKind.i64.wrap ((i : Int) + 1) = (i : Int) + 1 := by have := h.lt; have := h.n60; rw [IntKind.wrap_i64]; omega
  have hd : ∃ d, d = dist X n base f i := ⟨_, rfl⟩
  obtain ⟨d, hd⟩ := hd
  have had := ad_bounds (X := X) (b0 := base) (f := f) h.items.word (show tgt X n i ≤ n by omega)
  have had2 := ad_bounds (X := X) (b0 := base) (f := f) h.items.word (show i + 1 ≤ n by have := h.lt; omega)
  have hb0 := h.base
  have hn60 := h.n60
  have hdv : wrap64 (ad X base f (tgt X n i) - ad X base f (i + 1)) = d := by rw [hd]; unfold dist wrap64; omega
  have HD := Lib.hid (And.intro hd hdv)
  obtain ⟨t, ht⟩ : ∃ t, t = tgt X n i := ⟨_, rfl⟩
  rw [← ht] at hsa hct eti hti
  have hsq : ∀ m, Calls Tryd.prog 30 #[.slice (some ⟨b, off, none⟩) n c, .string (X i).lab] (w1.drewN m) fun e w' => e = .returned (.int .i64 t) ∧ w' = w1.drewN m := fun m => (hsa m).mono fun _ _ ⟨he, hw⟩ => ⟨he, hw.symm⟩
  have HS := Lib.hid (And.intro hsq ht)
  have HR := Lib.hid (show reach (X i) (f i) = 32768 by unfold reach; simp [hk.1, hk.2])
  rw [hk.1] at n0
  rw [hk.2] at cf1
  clear hk hst hsi hsa hd had had2 hdv hsq ht hti hb0 hn60
  clear h
  go_enter Tryd.func39, Tryd.ntmps39
  go_upto_region 2 with fail
  rw [← hNe, ← hw1]
  clear hNe hw1 k0 k1 k2 k3 k4 k5 k6 k7
  go_wp2_with fail
  go_quiet ((go_at_call 30; exact Calls.quiet_of_same (HS.out.1 _)))
  rw [show ad X base f t - ad X base f (i + 1) = ad X base f (tgt X n i) - ad X base f (i + 1) by rw [HS.out.2], HD.out.2]
  have hbq : Below w.heap.size w (w1.drewN nq) := below_drewN H.out.2.1 nq
  have HQ := Lib.hid hbq
  clear hbq
  by_cases h1 : -32768 ≤ d
  · have e1 : decide (-32768 ≤ d) = true := by simp [h1]
    by_cases h2 : d ≤ 32767
    · have e2 : decide (d ≤ 32767) = true := by simp; omega
      have HF := Lib.hid (fits_range (X := X) (n := n) (base := base) (f := f) (i := i) (b := true) HR.out (by decide) (by rw [← HD.out.1]; simp [h1, h2]))
      clear h1 h2
      go_wp2_with fail
      go_ret
      exact ⟨retB HF.out, HQ.out⟩
    · have e2 : decide (d ≤ 32767) = false := by simp; omega
      have HF := Lib.hid (fits_range (X := X) (n := n) (base := base) (f := f) (i := i) (b := false) HR.out (by decide) (by rw [← HD.out.1]; simp [h1, h2]))
      clear h1 h2
      go_wp2_with fail
      go_ret
      exact ⟨retB HF.out, HQ.out⟩
  · have e1 : decide (-32768 ≤ d) = false := by simp; omega
    have HF := Lib.hid (fits_range (X := X) (n := n) (base := base) (f := f) (i := i) (b := false) HR.out (by decide) (by rw [← HD.out.1]; simp [h1]))
    clear h1
    go_wp2_with fail
    go_ret
    exact ⟨retB HF.out, HQ.out⟩
set_option maxRecDepth 100000 in
set_option maxHeartbeats 2000000 in
theorem rfits_mid2 {w : World} {p : Option Addr} {n c : Nat} {X : Nat → It} {base : Int} {f : Nat → Nat} {F cf A ca i : Nat} (h : FQ w p n c X base f F cf A ca i) (hk : (X i).kind = 3 ∧ f i = 2) :
    Calls Tryd.prog 39 #[.slice p n c, .slice (some ⟨F, 0, none⟩) n cf, .slice (some ⟨A, 0, none⟩) (n + 1) ca, .int .i64 i] w fun e w' => e = .returned (.bool (decide (fits X n base f i))) ∧ Below w.heap.size w w' := by
  obtain ⟨b, off, hp, k0, k1, k2, k3, k4, k5, k6, k7⟩ := h.items.at h.lt
  have ei : (i : Int) < n := by have := h.lt; omega
  obtain ⟨w1, hw1⟩ : ∃ w1, w1 = w.alloc (.cells #[.int .i64 (X i).kind, .int .i64 (X i).op, .int .i64 (X i).d, .int .i64 (X i).a, .int .i64 (X i).b, .int .i64 (X i).imm, .string (X i).lab, .int .u32 (X i).word] 40) := ⟨_, rfl⟩
  have hN := heap_new w (.cells #[.int .i64 (X i).kind, .int .i64 (X i).op, .int .i64 (X i).d, .int .i64 (X i).a, .int .i64 (X i).b, .int .i64 (X i).imm, .string (X i).lab, .int .u32 (X i).word] 40)
  have hb1 : Below w.heap.size w w1 := by rw [hw1]; exact (Below.refl _ _).alloc (Nat.le_refl _) _
  rw [← hw1] at hN
  obtain ⟨N, hNe⟩ : ∃ N, N = w.heap.size := ⟨_, rfl⟩
  rw [← hNe] at hN
  obtain ⟨n0, n1, n2, n3, n4, n5, n6, n7⟩ := cells8 hN
  have cf1 := (h.forms.below hb1).cell h.lt
  have H := Lib.hid (And.intro h (And.intro hb1 (h.items.below hb1)))
  have HA := Lib.hid (h.ats.below hb1)
  rw [hp]
  have HP := Lib.hid hp
  clear hN hb1 hp n1 n2 n3 n4 n5 n7
  have hst := h.named (by omega)
  have hti := tgt_lt (X := X) h.lt
  have hsi := stI_some hst
  have hsa := fun m => rstands_at ((h.items.below H.out.2.1).below (below_drewN (Below.refl w1.heap.size w1) m)) h.n60 (X i).lab
  rw [hsi, HP.out] at hsa
  have hct := HA.out.cell (show tgt X n i < n + 1 by omega)
  have hci := HA.out.cell (show i + 1 < n + 1 by have := h.lt; omega)
  have eti : ((tgt X n i : Nat) : Int) < (n : Int) + 1 := by omega
  have ei1 : (i : Int) + 1 < (n : Int) + 1 := by have := h.lt; omega
  have hwr : IntKind.i64.wrap ((i : Int) + 1) = (i : Int) + 1 := by have := h.lt; have := h.n60; rw [IntKind.wrap_i64]; omega
  have hd : ∃ d, d = dist X n base f i := ⟨_, rfl⟩
  obtain ⟨d, hd⟩ := hd
  have had := ad_bounds (X := X) (b0 := base) (f := f) h.items.word (show tgt X n i ≤ n by omega)
  have had2 := ad_bounds (X := X) (b0 := base) (f := f) h.items.word (show i + 1 ≤ n by have := h.lt; omega)
  have hb0 := h.base
  have hn60 := h.n60
  have hdv : wrap64 (ad X base f (tgt X n i) - ad X base f (i + 1)) = d := by rw [hd]; unfold dist wrap64; omega
  have HD := Lib.hid (And.intro hd hdv)
  obtain ⟨t, ht⟩ : ∃ t, t = tgt X n i := ⟨_, rfl⟩
  rw [← ht] at hsa hct eti hti
  have hsq : ∀ m, Calls Tryd.prog 30 #[.slice (some ⟨b, off, none⟩) n c, .string (X i).lab] (w1.drewN m) fun e w' => e = .returned (.int .i64 t) ∧ w' = w1.drewN m := fun m => (hsa m).mono fun _ _ ⟨he, hw⟩ => ⟨he, hw.symm⟩
  have HS := Lib.hid (And.intro hsq ht)
  have HR := Lib.hid (show reach (X i) (f i) = 1048576 by unfold reach; simp [hk.1, hk.2])
  rw [hk.1] at n0
  rw [hk.2] at cf1
  clear hk hst hsi hsa hd had had2 hdv hsq ht hti hb0 hn60
  clear h
  go_enter Tryd.func39, Tryd.ntmps39
  go_upto_region 2 with fail
  rw [← hNe, ← hw1]
  clear hNe hw1 k0 k1 k2 k3 k4 k5 k6 k7
  go_wp2_with fail
  go_quiet ((go_at_call 30; exact Calls.quiet_of_same (HS.out.1 _)))
  rw [show ad X base f t - ad X base f (i + 1) = ad X base f (tgt X n i) - ad X base f (i + 1) by rw [HS.out.2], HD.out.2]
  have hbq : Below w.heap.size w (w1.drewN nq) := below_drewN H.out.2.1 nq
  have HQ := Lib.hid hbq
  clear hbq
  by_cases h1 : -1048576 ≤ d
  · have e1 : decide (-1048576 ≤ d) = true := by simp [h1]
    by_cases h2 : d ≤ 1048575
    · have e2 : decide (d ≤ 1048575) = true := by simp; omega
      have HF := Lib.hid (fits_range (X := X) (n := n) (base := base) (f := f) (i := i) (b := true) HR.out (by decide) (by rw [← HD.out.1]; simp [h1, h2]))
      clear h1 h2
      go_wp2_with fail
      go_ret
      exact ⟨retB HF.out, HQ.out⟩
    · have e2 : decide (d ≤ 1048575) = false := by simp; omega
      have HF := Lib.hid (fits_range (X := X) (n := n) (base := base) (f := f) (i := i) (b := false) HR.out (by decide) (by rw [← HD.out.1]; simp [h1, h2]))
      clear h1 h2
      go_wp2_with fail
      go_ret
      exact ⟨retB HF.out, HQ.out⟩
  · have e1 : decide (-1048576 ≤ d) = false := by simp; omega
    have HF := Lib.hid (fits_range (X := X) (n := n) (base := base) (f := f) (i := i) (b := false) HR.out (by decide) (by rw [← HD.out.1]; simp [h1]))
    clear h1
    go_wp2_with fail
    go_ret
    exact ⟨retB HF.out, HQ.out⟩
set_option maxRecDepth 100000 in
set_option maxHeartbeats 2000000 in
theorem rfits_mid4 {w : World} {p : Option Addr} {n c : Nat} {X : Nat → It} {base : Int} {f : Nat → Nat} {F cf A ca i : Nat} (h : FQ w p n c X base f F cf A ca i) (hk : (X i).kind = 4 ∧ f i = 1) :
    Calls Tryd.prog 39 #[.slice p n c, .slice (some ⟨F, 0, none⟩) n cf, .slice (some ⟨A, 0, none⟩) (n + 1) ca, .int .i64 i] w fun e w' => e = .returned (.bool (decide (fits X n base f i))) ∧ Below w.heap.size w w' := by
  obtain ⟨b, off, hp, k0, k1, k2, k3, k4, k5, k6, k7⟩ := h.items.at h.lt
  have ei : (i : Int) < n := by have := h.lt; omega
  obtain ⟨w1, hw1⟩ : ∃ w1, w1 = w.alloc (.cells #[.int .i64 (X i).kind, .int .i64 (X i).op, .int .i64 (X i).d, .int .i64 (X i).a, .int .i64 (X i).b, .int .i64 (X i).imm, .string (X i).lab, .int .u32 (X i).word] 40) := ⟨_, rfl⟩
  have hN := heap_new w (.cells #[.int .i64 (X i).kind, .int .i64 (X i).op, .int .i64 (X i).d, .int .i64 (X i).a, .int .i64 (X i).b, .int .i64 (X i).imm, .string (X i).lab, .int .u32 (X i).word] 40)
  have hb1 : Below w.heap.size w w1 := by rw [hw1]; exact (Below.refl _ _).alloc (Nat.le_refl _) _
  rw [← hw1] at hN
  obtain ⟨N, hNe⟩ : ∃ N, N = w.heap.size := ⟨_, rfl⟩
  rw [← hNe] at hN
  obtain ⟨n0, n1, n2, n3, n4, n5, n6, n7⟩ := cells8 hN
  have cf1 := (h.forms.below hb1).cell h.lt
  have H := Lib.hid (And.intro h (And.intro hb1 (h.items.below hb1)))
  have HA := Lib.hid (h.ats.below hb1)
  rw [hp]
  have HP := Lib.hid hp
  clear hN hb1 hp n1 n2 n3 n4 n5 n7
  have hst := h.named (by omega)
  have hti := tgt_lt (X := X) h.lt
  have hsi := stI_some hst
  have hsa := fun m => rstands_at ((h.items.below H.out.2.1).below (below_drewN (Below.refl w1.heap.size w1) m)) h.n60 (X i).lab
  rw [hsi, HP.out] at hsa
  have hct := HA.out.cell (show tgt X n i < n + 1 by omega)
  have hci := HA.out.cell (show i + 1 < n + 1 by have := h.lt; omega)
  have eti : ((tgt X n i : Nat) : Int) < (n : Int) + 1 := by omega
  have ei1 : (i : Int) + 1 < (n : Int) + 1 := by have := h.lt; omega
  have hwr : IntKind.i64.wrap ((i : Int) + 1) = (i : Int) + 1 := by have := h.lt; have := h.n60; rw [IntKind.wrap_i64]; omega
  have hd : ∃ d, d = dist X n base f i := ⟨_, rfl⟩
  obtain ⟨d, hd⟩ := hd
  have had := ad_bounds (X := X) (b0 := base) (f := f) h.items.word (show tgt X n i ≤ n by omega)
  have had2 := ad_bounds (X := X) (b0 := base) (f := f) h.items.word (show i + 1 ≤ n by have := h.lt; omega)
  have hb0 := h.base
  have hn60 := h.n60
  have hdv : wrap64 (ad X base f (tgt X n i) - ad X base f (i + 1)) = d := by rw [hd]; unfold dist wrap64; omega
  have HD := Lib.hid (And.intro hd hdv)
  obtain ⟨t, ht⟩ : ∃ t, t = tgt X n i := ⟨_, rfl⟩
  rw [← ht] at hsa hct eti hti
  have hsq : ∀ m, Calls Tryd.prog 30 #[.slice (some ⟨b, off, none⟩) n c, .string (X i).lab] (w1.drewN m) fun e w' => e = .returned (.int .i64 t) ∧ w' = w1.drewN m := fun m => (hsa m).mono fun _ _ ⟨he, hw⟩ => ⟨he, hw.symm⟩
  have HS := Lib.hid (And.intro hsq ht)
  have HR := Lib.hid (show reach (X i) (f i) = 1048576 by unfold reach; simp [hk.1, hk.2])
  rw [hk.1] at n0
  rw [hk.2] at cf1
  clear hk hst hsi hsa hd had had2 hdv hsq ht hti hb0 hn60
  clear h
  go_enter Tryd.func39, Tryd.ntmps39
  go_upto_region 2 with fail
  rw [← hNe, ← hw1]
  clear hNe hw1 k0 k1 k2 k3 k4 k5 k6 k7
  go_wp2_with fail
  go_quiet ((go_at_call 30; exact Calls.quiet_of_same (HS.out.1 _)))
  rw [show ad X base f t - ad X base f (i + 1) = ad X base f (tgt X n i) - ad X base f (i + 1) by rw [HS.out.2], HD.out.2]
  have hbq : Below w.heap.size w (w1.drewN nq) := below_drewN H.out.2.1 nq
  have HQ := Lib.hid hbq
  clear hbq
  by_cases h1 : -1048576 ≤ d
  · have e1 : decide (-1048576 ≤ d) = true := by simp [h1]
    by_cases h2 : d ≤ 1048575
    · have e2 : decide (d ≤ 1048575) = true := by simp; omega
      have HF := Lib.hid (fits_range (X := X) (n := n) (base := base) (f := f) (i := i) (b := true) HR.out (by decide) (by rw [← HD.out.1]; simp [h1, h2]))
      clear h1 h2
      go_wp2_with fail
      go_ret
      exact ⟨retB HF.out, HQ.out⟩
    · have e2 : decide (d ≤ 1048575) = false := by simp; omega
      have HF := Lib.hid (fits_range (X := X) (n := n) (base := base) (f := f) (i := i) (b := false) HR.out (by decide) (by rw [← HD.out.1]; simp [h1, h2]))
      clear h1 h2
      go_wp2_with fail
      go_ret
      exact ⟨retB HF.out, HQ.out⟩
  · have e1 : decide (-1048576 ≤ d) = false := by simp; omega
    have HF := Lib.hid (fits_range (X := X) (n := n) (base := base) (f := f) (i := i) (b := false) HR.out (by decide) (by rw [← HD.out.1]; simp [h1]))
    clear h1
    go_wp2_with fail
    go_ret
    exact ⟨retB HF.out, HQ.out⟩
theorem rfits_at {w : World} {p : Option Addr} {n c : Nat} {X : Nat → It} {base : Int} {f : Nat → Nat} {F cf A ca i : Nat} (h : FQ w p n c X base f F cf A ca i) :
    Calls Tryd.prog 39 #[.slice p n c, .slice (some ⟨F, 0, none⟩) n cf, .slice (some ⟨A, 0, none⟩) (n + 1) ca, .int .i64 i] w fun e w' => e = .returned (.bool (decide (fits X n base f i))) ∧ Below w.heap.size w w' := by
  have hv := h.valid i h.lt
  by_cases h3 : (X i).kind = 3
  · rw [if_pos h3] at hv
    rcases (show f i = 1 ∨ f i = 2 ∨ f i = 3 by omega) with e | e | e
    · exact rfits_mid1 h ⟨h3, e⟩
    · exact rfits_mid2 h ⟨h3, e⟩
    · exact rfits_last3 h ⟨h3, e⟩
  · by_cases h4 : (X i).kind = 4
    · rw [if_neg h3, if_pos h4] at hv
      rcases (show f i = 1 ∨ f i = 2 by omega) with e | e
      · exact rfits_mid4 h ⟨h4, e⟩
      · exact rfits_last4 h ⟨h4, e⟩
    · exact rfits_other h ⟨h3, h4⟩
end Go.Proofs.YtbplmbignalbgaaDoor
