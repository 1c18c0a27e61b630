/- Contracts: a number held against the document's. Conditions: the digits lie as told. -/
import Derived.Test.YtihgefllmkicaaaDoorRbD
import Derived.Test.YtihgefllmkicaaaDoorBbA
namespace Go.Proofs.YtihgefllmkicaaaDoor
open Go.RowKit Bg
set_option linter.unusedVariables false
set_option linter.unusedSimpArgs false


/-- A number of the document's, as it lies. -/
structure Dn (w : World) (s : Bool) (p : Option Addr) (c : Nat) (D : List Int) (x : Int) : Prop where
  arg : Arg .i64 w p c D
  can : Bg.Can 10 s D
  val : nv 10 s D = x
theorem Dn.below {w w' : World} {s : Bool} {p : Option Addr} {c : Nat} {D : List Int} {x : Int} (h : Dn w s p c D x) (hb : Below w.heap.size w w') : Dn w' s p c D x := ⟨h.arg.below hb, h.can, h.val⟩
theorem can_val {B : Int} (hB : 1 ≤ B) {s : Bool} {l : List Int} (h : Bg.Can B s l) {x : Int} (hv : nv B s l = x) : s = decide (x < 0) ∧ Bg.val B l = x.natAbs := by
  have h0 := val_nonneg (show (0 : Int) ≤ B by omega) h.dig
  cases s
  · unfold nv at hv
    simp only [Bool.false_eq_true, if_false] at hv
    exact ⟨(decide_eq_false (by omega)).symm, by omega⟩
  · have h1 := Bg.Can.pos hB h rfl
    unfold nv at hv
    simp only [if_true] at hv
    exact ⟨(decide_eq_true (by omega)).symm, by omega⟩
set_option maxRecDepth 100000 in
set_option maxHeartbeats 4000000 in
theorem alike_at {w : World} {p q : Option Addr} {c d : Nat} {l D : List Int} {s t : Bool} {x : Int} (a : Nm w s p c l x) (ka : Bg.Can 65536 s l) (b : Dn w t q d D x) (hn : D.length ≤ 1000000) :
    Calls Tryd.prog 13 #[.agg #[.bool s, .slice p l.length c], .agg #[.bool t, .slice q D.length d]] w fun e w' => e = .returned (.bool true) ∧ Below w.heap.size w w' := by
  obtain ⟨e1, e2⟩ := can_val (by decide) ka a.val
  obtain ⟨e3, e4⟩ := can_val (by decide) b.can b.val
  have est : s = t := e1.trans e3.symm
  subst est
  obtain ⟨W, hW⟩ : ∃ W, W = (w.alloc (.cells #[.bool s, .slice p l.length c] 24)).alloc (.cells #[.bool s, .slice q D.length d] 28) := ⟨_, rfl⟩
  have hB : Below w.heap.size w W := by rw [hW]; exact ((Below.refl _ _).alloc (Nat.le_refl _) _).alloc (by simp) _
  have x0 : Box W w.heap.size (.bool s) (.slice p l.length c) := by rw [hW]; exact (Box.fresh _ _ _ rfl).alloc _
  have x1 : Box W (w.heap.size + 1) (.bool s) (.slice q D.length d) := by rw [hW]; exact box_fresh 28 _ _ _ (by simp)
  have T := Lib.hid (rdigits_at (s := s) (b.arg.below hB) b.can.dig b.can.tidy hn)
  have c2 := x1.c0
  have c3 := x1.c1
  have A := Lib.hid (And.intro (a.arg.below hB) (And.intro hB (And.intro x0 (And.intro x1 (And.intro ka (e2.trans e4.symm))))))
  have mx1 := a.arg.max
  have le1 := a.arg.le
  clear a ka b hn e1 e2 e3 e4 hB x0 x1
  go_enter Tryd.func13, Tryd.ntmps13
  go_wp2_with fail
  rw [← hW]
  clear hW
  refine T.out.mono ?_
  rintro e w3 ⟨v, E, rfl, oE, dE, tE, vE, B3⟩
  have hEl : l = E := val_inj (by decide) A.out.2.2.2.2.1.dig dE A.out.2.2.2.2.1.tidy tE (A.out.2.2.2.2.2.trans vE.symm)
  subst hEl
  obtain ⟨p5, c5, rfl, a5, -⟩ := oE.arg
  have y0 := A.out.2.2.1.below B3
  have y1 := A.out.2.2.2.1.below B3
  have f0 := y0.c0
  have f1 := y0.c1
  have f2 := y1.c0
  have f3 := y1.c1
  have mx5 := a5.max
  have le5 := a5.le
  have HW := Lib.hid (And.intro (A.out.1.below B3) (And.intro a5 (And.intro (A.out.2.1.trans (B3.mono A.out.2.1.size)) (And.intro y0 y1))))
  have q2 : ((l.length : Int) != (l.length : Int)) = false := by simp
  have q3 : (s != s) = false := by simp
  clear oE dE tE vE B3 y0 y1 a5 c2 c3 T
  go_wp2_with fail
  clear q2 q3 f0 f1 f2 f3
  go_loopw [6] (fun t wr => ∃ k : Nat, t = .int .i64 k ∧ k ≤ l.length ∧ Hid (Below w3.heap.size w3 wr)) (fun t _ => l.length - (intOf t).toNat)
  case atStart => exact ⟨0, rfl, Nat.zero_le _, Below.refl _ _⟩
  case round =>
    obtain ⟨k, rfl, hk, hS⟩ := hrel
    have y0 := HW.out.2.2.2.1.below hS.out
    have b0 := y0.c0
    have b1 := y0.c1
    have HBw := Lib.hid (HW.out.2.2.1.trans (hS.out.mono HW.out.2.2.1.size))
    clear y0
    by_cases hlt : k < l.length
    · obtain ⟨b, off, rfl, k1⟩ := HW.out.1.at (by omega)
      obtain ⟨b', off', rfl, k2⟩ := HW.out.2.1.at (by omega)
      have d1 := (hS.out.cell (p := ⟨b, off + k, none⟩) (World.block_lt_of_cell? w3 _ (k1 k hlt))).trans (k1 k hlt)
      have d2 := (hS.out.cell (p := ⟨b', off' + k, none⟩) (World.block_lt_of_cell? w3 _ (k2 k hlt))).trans (k2 k hlt)
      have q1 : decide ((k : Int) < (l.length : Int)) = true := by rw [decide_eq_true_eq]; omega
      have g1 : (k : Int) < (l.length : Int) := by omega
      obtain ⟨z, hz⟩ : ∃ z, z = l.getD k 0 := ⟨_, rfl⟩
      rw [← hz] at d1 d2
      have q2 : (z != z) = false := by simp
      clear hz k1 k2
      go_wp2_with fail
      go_quiet (fail)
      go_wp2_with fail
      go_roundw
      case rel => exact ⟨k + 1, by go_num, hlt, below_drewN hS.out _⟩
      case measure => simp [intOf]; omega
    · have hz : k = l.length := by omega
      rw [hz]
      clear hk hlt hz
      have q1 : decide ((l.length : Int) < (l.length : Int)) = false := by simp
      go_wp2_with fail
      go_ret
      exact ⟨rfl, HBw.out⟩
end Go.Proofs.YtihgefllmkicaaaDoor
