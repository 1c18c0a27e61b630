/- Contracts: an item gets the least form that fits. Conditions: the layout lies as told. -/
import Derived.Test.YtbplmbignalbgaaDoorAsI
namespace Go.Proofs.YtbplmbignalbgaaDoor
open Go.RowKit Asm
set_option linter.unusedVariables false
set_option linter.unusedSimpArgs false

def cellNum (w : World) (a : Addr) : Int := match w.cell? a with | some (.int _ x) => x | _ => 0
theorem LRep.num {base : Nat} {w : World} {l : LL} {X : Nat → It} {b0 : Int} {s : LS} (h : LRep base w l X b0 s) {i : Nat} (hi : i < l.n) : cellNum w ⟨l.F, i, none⟩ = s.f i := by unfold cellNum; rw [h.cf hi]
theorem longer_f (s : LS) (X : Nat → It) (i : Nat) : (s.longer X i).f = updN s.f i (s.f i + 1) := rfl

/-- What a raise leaves. -/
structure Raised (X : Nat → It) (n : Nat) (b0 : Int) (i : Nat) (f g : Nat → Nat) : Prop where
  under : Under X n b0 g
  other : ∀ j, j ≠ i → g j = f j
  le : f i ≤ g i

set_option maxRecDepth 100000 in
set_option maxHeartbeats 2000000 in
theorem raise_at {base : Nat} {w : World} {l : LL} {X : Nat → It} {b0 : Int} {s : LS} (h : LRep base w l X b0 s) (i : Nat) (hi : i < l.n) (hu : Under X l.n b0 s.f) :
    Calls Tryd.prog 47 #[.pointer (some ⟨l.L, 0, none⟩), .int .i64 i] w fun e w' => ∃ s', e = .returned (.bool (decide (s'.f i ≠ s.f i))) ∧ LRep base w' l X b0 s' ∧ Chg l.fp w w' ∧ Raised X l.n b0 i s.f s'.f ∧ fits X l.n b0 s'.f i := by
  have c2 := h.c2
  have cf := h.cf hi
  have ei : (i : Int) < l.n := by omega
  have HH := Lib.hid (And.intro h hu)
  have hw : ∀ k, k < l.n → 0 ≤ (X k).word := fun k hk => (h.items.word k hk).1
  have HW := Lib.hid hw
  clear h hu hw
  go_enter Tryd.func47, Tryd.ntmps47
  go_wp2_with fail
  clear c2 cf
  go_loopw [16] (fun _ wr => ∃ s1, LRep base wr l X b0 s1 ∧ Chg l.fp w wr ∧ Raised X l.n b0 i s.f s1.f) (fun _ wr => 4 - (cellNum wr ⟨l.F, i, none⟩).toNat)
  case atStart => exact ⟨s, HH.out.1, Chg.refl _ _, HH.out.2, fun _ _ => rfl, Nat.le_refl _⟩
  case round =>
    obtain ⟨s1, h1, hC, hR⟩ := hrel
    have HR := Lib.hid (And.intro h1 (And.intro hC hR))
    clear h1 hC hR
    go_wp2_with fail
    refine (fits_at HR.out.1 i hi).mono ?_
    rintro e w2 ⟨rfl, s2, hf2, h2, hC2⟩
    have hC3 := HR.out.2.1.trans hC2 (fun _ h => Or.inl h)
    have hR2 := HR.out.2.2
    rw [← hf2] at hR2
    have hnum := HR.out.1.num hi
    rw [← hf2] at hnum ⊢
    have c2 := h2.c2
    have cf := h2.cf hi
    have H2 := Lib.hid (And.intro h2 (And.intro hC3 (And.intro hR2 hnum)))
    clear h2 hC2 hC3 hR2 hf2 hnum
    by_cases hfit : fits X l.n b0 s2.f i
    · have d1 : decide (fits X l.n b0 s2.f i) = true := by simp [hfit]
      have HF := Lib.hid hfit
      clear hfit
      go_wp2_with fail
      go_ret
      refine ⟨s2, retB ?_, H2.out.1, H2.out.2.1, H2.out.2.2.1, HF.out⟩
      by_cases he : s2.f i = s.f i
      · simp [he]
      · have : ¬ ((s2.f i : Int) = (s.f i : Int)) := by omega
        simp [he, this]
    · have d1 : decide (fits X l.n b0 s2.f i) = false := by simp [hfit]
      have HF := Lib.hid hfit
      clear hfit c2 cf
      go_wp2_with fail
      refine (lengthen_at H2.out.1 i hi HF.out).mono ?_
      rintro e w3 ⟨rfl, h3, hC3⟩
      have H3 := Lib.hid (And.intro h3 hC3)
      clear h3 hC3
      go_wp2_with fail
      go_roundw
      case rel =>
        have hg := H2.out.2.2.1
        refine ⟨_, H3.out.1, H2.out.2.1.trans H3.out.2 (fun _ h => Or.inl h), ?_, fun j hj => ?_, ?_⟩
        · exact hg.under.grow HW.out hi HF.out
        · rw [longer_f]; unfold updN; rw [if_neg hj]; exact hg.other j hj
        · rw [longer_f]; unfold updN; rw [if_pos rfl]; have := hg.le; omega
      case measure =>
        have e1 := H3.out.1.num hi
        have e2 := H2.out.2.2.2
        have e3 := H3.out.1.f_lt hi
        rw [longer_f] at e1 e3
        have e4 : updN s2.f i (s2.f i + 1) i = s2.f i + 1 := by unfold updN; rw [if_pos rfl]
        rw [e4] at e1 e3
        rw [e1, e2]
        omega
end Go.Proofs.YtbplmbignalbgaaDoor
