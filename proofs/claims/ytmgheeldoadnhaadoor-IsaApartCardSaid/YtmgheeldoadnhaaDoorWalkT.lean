/- The walk of IsaApart at two instructions. Conditions: the tables are as laid. -/
import Derived.Test.YtmgheeldoadnhaaDoorWalkS
import Derived.Deep.RegionHeld3
namespace Go.Proofs.YtmgheeldoadnhaaDoor
open Go.RowKit

/-- Two instructions' blocks, one behind the other. -/
structure Ap (W : World) (A : Nat) (op d a b imm op2 d2 a2 b2 imm2 : Int) (w : World) : Prop where
  below : Below W.heap.size W w
  first : w.heap[A]? = some (.cells #[.int .i64 op, .int .i64 d, .int .i64 a, .int .i64 b, .int .i64 imm] 27 (0, 0))
  second : w.heap[A + 1]? = some (.cells #[.int .i64 op2, .int .i64 d2, .int .i64 a2, .int .i64 b2, .int .i64 imm2] 27 (0, 0))
theorem Ap.grow {W : World} {A : Nat} {op d a b imm op2 d2 a2 b2 imm2 : Int} {w w2 : World} (s : Ap W A op d a b imm op2 d2 a2 b2 imm2 w) (hb : Below w.heap.size w w2) : Ap W A op d a b imm op2 d2 a2 b2 imm2 w2 :=
  ⟨s.below.trans (hb.mono s.below.size), (hb.block A (lt_of_block s.first)).trans s.first, (hb.block (A + 1) (lt_of_block s.second)).trans s.second⟩
theorem Ap.drew {W : World} {A : Nat} {op d a b imm op2 d2 a2 b2 imm2 : Int} {w : World} (s : Ap W A op d a b imm op2 d2 a2 b2 imm2 w) : Ap W A op d a b imm op2 d2 a2 b2 imm2 w.drew := ⟨s.below.drew, s.first, s.second⟩
theorem Ap.facts {W : World} {A : Nat} {op d a b imm op2 d2 a2 b2 imm2 : Int} {w : World} (s : Ap W A op d a b imm op2 d2 a2 b2 imm2 w) :
    w.cell? ⟨A, 0, none⟩ = some (.int .i64 op) ∧ w.cell? ⟨A, 1, none⟩ = some (.int .i64 d) ∧ w.cell? ⟨A, 2, none⟩ = some (.int .i64 a) ∧ w.cell? ⟨A, 3, none⟩ = some (.int .i64 b) ∧ w.cell? ⟨A, 4, none⟩ = some (.int .i64 imm) ∧
      w.cell? ⟨A + 1, 0, none⟩ = some (.int .i64 op2) ∧ w.cell? ⟨A + 1, 1, none⟩ = some (.int .i64 d2) ∧ w.cell? ⟨A + 1, 2, none⟩ = some (.int .i64 a2) ∧ w.cell? ⟨A + 1, 3, none⟩ = some (.int .i64 b2) ∧ w.cell? ⟨A + 1, 4, none⟩ = some (.int .i64 imm2) := by
  obtain ⟨c0, c1, c2, c3, c4⟩ := cells5 s.first
  obtain ⟨d0, d1, d2, d3, d4⟩ := cells5 s.second
  exact ⟨c0, c1, c2, c3, c4, d0, d1, d2, d3, d4⟩
theorem text_at {W : World} {A : Nat} {op d a b imm op2 d2 a2 b2 imm2 q0 q1 q2 q3 q4 : Int} {w : World} (h : Env2 W) (ho : Isa.ok q0 q1 q2 q3 q4 = true) (s : Ap W A op d a b imm op2 d2 a2 b2 imm2 w) :
    Calls Tryd.prog 21 #[.agg #[.int .i64 q0, .int .i64 q1, .int .i64 q2, .int .i64 q3, .int .i64 q4]] w fun e w' => e = .returned (.string ⟨(Isa.text q0 q1 q2 q3 q4).toArray⟩) ∧ Ap W A op d a b imm op2 d2 a2 b2 imm2 w' :=
  (text_ok q0 q1 q2 q3 q4 w (h.below s.below) ho).mono fun _ _ ⟨he, hb⟩ => ⟨he, s.grow hb⟩
theorem awake_at {W : World} {A : Nat} {op d a b imm op2 d2 a2 b2 imm2 : Int} {w : World} (h : Env2 W) (s : Ap W A op d a b imm op2 d2 a2 b2 imm2 w) :
    Calls Tryd.prog 17 #[] w fun e w' => e = .returned (.bool true) ∧ Ap W A op d a b imm op2 d2 a2 b2 imm2 w' :=
  (awake_any w (h.below s.below)).mono fun _ _ ⟨he, hb⟩ => ⟨he, s.grow hb⟩

set_option maxRecDepth 100000 in
set_option maxHeartbeats 8000000 in
theorem apart_same (op d a b imm : Int) (w : World) (h : Env2 w) (ho : Isa.ok op d a b imm = true) :
    Calls Tryd.prog 10 #[.agg #[.int .i64 op, .int .i64 d, .int .i64 a, .int .i64 b, .int .i64 imm], .agg #[.int .i64 op, .int .i64 d, .int .i64 a, .int .i64 b, .int .i64 imm]] w fun e w' => e = .returned (.bool true) ∧ Below w.heap.size w w' := by
  have H := Lib.hid ho
  clear ho
  have H2 := H
  go_enter Tryd.func10, Tryd.ntmps10
  go_wp2_with fail
  have s0 : Ap w w.heap.size op d a b imm op d a b imm ((w.alloc (.cells #[.int .i64 op, .int .i64 d, .int .i64 a, .int .i64 b, .int .i64 imm] 27)).alloc (.cells #[.int .i64 op, .int .i64 d, .int .i64 a, .int .i64 b, .int .i64 imm] 27)) :=
    ⟨((Below.refl _ _).alloc (Nat.le_refl _) _).alloc (by simp) _, (Below.heap_alloc _ _ _ (by simp)).trans (heap_new w _), by rw [← World.size_alloc w (.cells #[.int .i64 op, .int .i64 d, .int .i64 a, .int .i64 b, .int .i64 imm] 27)]; exact heap_new _ _⟩
  refine (encode_any _ _ _ _ _ _ (h.below s0.below).toEnv H.out).mono ?_
  rintro e w1 ⟨rfl, hb⟩
  replace s0 := s0.grow hb
  clear hb
  obtain ⟨k0, k1, k2, k3, k4, l0, l1, l2, l3, l4⟩ := s0.facts
  go_wp2_with fail
  refine (encode_any _ _ _ _ _ _ (h.below s0.below).toEnv H2.out).mono ?_
  rintro e w2 ⟨rfl, hb⟩
  replace s0 := s0.grow hb
  clear hb k0 k1 k2 k3 k4 l0 l1 l2 l3 l4
  obtain ⟨k0, k1, k2, k3, k4, l0, l1, l2, l3, l4⟩ := s0.facts
  obtain ⟨A, hA⟩ : ∃ A, A = w.heap.size := ⟨_, rfl⟩
  rw [← hA] at s0 k0 k1 k2 k3 k4 l0 l1 l2 l3 l4 ⊢
  have HA := Lib.hid hA
  clear hA
  obtain ⟨wd, hwd⟩ : ∃ wd, wd = Isa.word op d a b imm := ⟨_, rfl⟩
  rw [← hwd]
  have ht : (Isa.text op d a b imm == Isa.text op d a b imm) = true := beq_self_eq_true _
  clear hwd
  go_wp2_with fail
  go_region_held3 (fun w' => w'.cell? ⟨A, 0, none⟩ = some (.int .i64 op) ∧ w'.cell? ⟨A, 1, none⟩ = some (.int .i64 d) ∧ w'.cell? ⟨A, 2, none⟩ = some (.int .i64 a) ∧ w'.cell? ⟨A, 3, none⟩ = some (.int .i64 b) ∧ w'.cell? ⟨A, 4, none⟩ = some (.int .i64 imm) ∧ w'.cell? ⟨A + 1, 0, none⟩ = some (.int .i64 op) ∧ w'.cell? ⟨A + 1, 1, none⟩ = some (.int .i64 d) ∧ w'.cell? ⟨A + 1, 2, none⟩ = some (.int .i64 a) ∧ w'.cell? ⟨A + 1, 3, none⟩ = some (.int .i64 b) ∧ w'.cell? ⟨A + 1, 4, none⟩ = some (.int .i64 imm))
    (first | exact Ap.facts (by assumption) | exact Ap.facts (Ap.drew (by assumption)) | go_keep)
    (first
      | (go_at_call 21; refine (text_at (A := A) (op := op) (d := d) (a := a) (b := b) (imm := imm) (op2 := op) (d2 := d) (a2 := a) (b2 := b) (imm2 := imm) h H.out ?_).mono ?_; (first | assumption | exact Ap.drew (by assumption)); rintro e w9 ⟨rfl, s9⟩)
      | (go_at_call 17; refine (awake_at (A := A) (op := op) (d := d) (a := a) (b := b) (imm := imm) (op2 := op) (d2 := d) (a2 := a) (b2 := b) (imm2 := imm) h ?_).mono ?_; (first | assumption | exact Ap.drew (by assumption)); rintro e w9 ⟨rfl, s9⟩))
  all_goals
    rw [HA.out] at s9
    go_wp2_with fail
    go_ret
    exact ⟨rfl, s9.below⟩

set_option maxRecDepth 100000 in
set_option maxHeartbeats 8000000 in
theorem apart_0 (op d a b imm op2 d2 a2 b2 imm2 : Int) (w : World) (h : Env2 w) (ho : Isa.ok op d a b imm = true) (ho2 : Isa.ok op2 d2 a2 b2 imm2 = true) (hne : op ≠ op2) :
    Calls Tryd.prog 10 #[.agg #[.int .i64 op, .int .i64 d, .int .i64 a, .int .i64 b, .int .i64 imm], .agg #[.int .i64 op2, .int .i64 d2, .int .i64 a2, .int .i64 b2, .int .i64 imm2]] w fun e w' => e = .returned (.bool true) ∧ Below w.heap.size w w' := by
  have H := Lib.hid ho
  clear ho
  have H2 := Lib.hid ho2
  have HN := Lib.hid hne
  clear ho2 hne
  go_enter Tryd.func10, Tryd.ntmps10
  go_wp2_with fail
  have s0 : Ap w w.heap.size op d a b imm op2 d2 a2 b2 imm2 ((w.alloc (.cells #[.int .i64 op, .int .i64 d, .int .i64 a, .int .i64 b, .int .i64 imm] 27)).alloc (.cells #[.int .i64 op2, .int .i64 d2, .int .i64 a2, .int .i64 b2, .int .i64 imm2] 27)) :=
    ⟨((Below.refl _ _).alloc (Nat.le_refl _) _).alloc (by simp) _, (Below.heap_alloc _ _ _ (by simp)).trans (heap_new w _), by rw [← World.size_alloc w (.cells #[.int .i64 op, .int .i64 d, .int .i64 a, .int .i64 b, .int .i64 imm] 27)]; exact heap_new _ _⟩
  refine (encode_any _ _ _ _ _ _ (h.below s0.below).toEnv H.out).mono ?_
  rintro e w1 ⟨rfl, hb⟩
  replace s0 := s0.grow hb
  clear hb
  obtain ⟨k0, k1, k2, k3, k4, l0, l1, l2, l3, l4⟩ := s0.facts
  go_wp2_with fail
  refine (encode_any _ _ _ _ _ _ (h.below s0.below).toEnv H2.out).mono ?_
  rintro e w2 ⟨rfl, hb⟩
  replace s0 := s0.grow hb
  clear hb k0 k1 k2 k3 k4 l0 l1 l2 l3 l4
  obtain ⟨k0, k1, k2, k3, k4, l0, l1, l2, l3, l4⟩ := s0.facts
  obtain ⟨A, hA⟩ : ∃ A, A = w.heap.size := ⟨_, rfl⟩
  rw [← hA] at s0 k0 k1 k2 k3 k4 l0 l1 l2 l3 l4 ⊢
  have HA := Lib.hid hA
  clear hA
  have hw : (Isa.word op d a b imm == Isa.word op2 d2 a2 b2 imm2) = false := beq_eq_false_iff_ne.2 (fun e => HN.out (one_word H.out H2.out e).1)
  have ht : (Isa.text op d a b imm == Isa.text op2 d2 a2 b2 imm2) = false := beq_eq_false_iff_ne.2 (fun e => HN.out (one_text H.out H2.out e).1)
  have hk : (op == op2) = false := beq_eq_false_iff_ne.2 HN.out
  go_wp2_with fail
  go_region_held3 (fun w' => w'.cell? ⟨A, 0, none⟩ = some (.int .i64 op) ∧ w'.cell? ⟨A, 1, none⟩ = some (.int .i64 d) ∧ w'.cell? ⟨A, 2, none⟩ = some (.int .i64 a) ∧ w'.cell? ⟨A, 3, none⟩ = some (.int .i64 b) ∧ w'.cell? ⟨A, 4, none⟩ = some (.int .i64 imm) ∧ w'.cell? ⟨A + 1, 0, none⟩ = some (.int .i64 op2) ∧ w'.cell? ⟨A + 1, 1, none⟩ = some (.int .i64 d2) ∧ w'.cell? ⟨A + 1, 2, none⟩ = some (.int .i64 a2) ∧ w'.cell? ⟨A + 1, 3, none⟩ = some (.int .i64 b2) ∧ w'.cell? ⟨A + 1, 4, none⟩ = some (.int .i64 imm2))
    (first | exact Ap.facts (by assumption) | exact Ap.facts (Ap.drew (by assumption)) | go_keep)
    (first
      | (go_at_call_of 21 (Value.int IntKind.i64 op); refine (text_at (A := A) (op := op) (d := d) (a := a) (b := b) (imm := imm) (op2 := op2) (d2 := d2) (a2 := a2) (b2 := b2) (imm2 := imm2) h H.out ?_).mono ?_; (first | assumption | exact Ap.drew (by assumption)); rintro e w9 ⟨rfl, s9⟩)
      | (go_at_call_of 21 (Value.int IntKind.i64 op2); refine (text_at (A := A) (op := op) (d := d) (a := a) (b := b) (imm := imm) (op2 := op2) (d2 := d2) (a2 := a2) (b2 := b2) (imm2 := imm2) h H2.out ?_).mono ?_; (first | assumption | exact Ap.drew (by assumption)); rintro e w9 ⟨rfl, s9⟩)
      | (go_at_call 17; refine (awake_at (A := A) (op := op) (d := d) (a := a) (b := b) (imm := imm) (op2 := op2) (d2 := d2) (a2 := a2) (b2 := b2) (imm2 := imm2) h ?_).mono ?_; (first | assumption | exact Ap.drew (by assumption)); rintro e w9 ⟨rfl, s9⟩))
  all_goals
    rw [HA.out] at s9
    go_wp2_with fail
    go_ret
    exact ⟨rfl, s9.below⟩

set_option maxRecDepth 100000 in
set_option maxHeartbeats 8000000 in
theorem apart_1 (op d a b imm d2 a2 b2 imm2 : Int) (w : World) (h : Env2 w) (ho : Isa.ok op d a b imm = true) (ho2 : Isa.ok op d2 a2 b2 imm2 = true) (hne : d ≠ d2) :
    Calls Tryd.prog 10 #[.agg #[.int .i64 op, .int .i64 d, .int .i64 a, .int .i64 b, .int .i64 imm], .agg #[.int .i64 op, .int .i64 d2, .int .i64 a2, .int .i64 b2, .int .i64 imm2]] w fun e w' => e = .returned (.bool true) ∧ Below w.heap.size w w' := by
  have H := Lib.hid ho
  clear ho
  have H2 := Lib.hid ho2
  have HN := Lib.hid hne
  clear ho2 hne
  go_enter Tryd.func10, Tryd.ntmps10
  go_wp2_with fail
  have s0 : Ap w w.heap.size op d a b imm op d2 a2 b2 imm2 ((w.alloc (.cells #[.int .i64 op, .int .i64 d, .int .i64 a, .int .i64 b, .int .i64 imm] 27)).alloc (.cells #[.int .i64 op, .int .i64 d2, .int .i64 a2, .int .i64 b2, .int .i64 imm2] 27)) :=
    ⟨((Below.refl _ _).alloc (Nat.le_refl _) _).alloc (by simp) _, (Below.heap_alloc _ _ _ (by simp)).trans (heap_new w _), by rw [← World.size_alloc w (.cells #[.int .i64 op, .int .i64 d, .int .i64 a, .int .i64 b, .int .i64 imm] 27)]; exact heap_new _ _⟩
  refine (encode_any _ _ _ _ _ _ (h.below s0.below).toEnv H.out).mono ?_
  rintro e w1 ⟨rfl, hb⟩
  replace s0 := s0.grow hb
  clear hb
  obtain ⟨k0, k1, k2, k3, k4, l0, l1, l2, l3, l4⟩ := s0.facts
  go_wp2_with fail
  refine (encode_any _ _ _ _ _ _ (h.below s0.below).toEnv H2.out).mono ?_
  rintro e w2 ⟨rfl, hb⟩
  replace s0 := s0.grow hb
  clear hb k0 k1 k2 k3 k4 l0 l1 l2 l3 l4
  obtain ⟨k0, k1, k2, k3, k4, l0, l1, l2, l3, l4⟩ := s0.facts
  obtain ⟨A, hA⟩ : ∃ A, A = w.heap.size := ⟨_, rfl⟩
  rw [← hA] at s0 k0 k1 k2 k3 k4 l0 l1 l2 l3 l4 ⊢
  have HA := Lib.hid hA
  clear hA
  have hw : (Isa.word op d a b imm == Isa.word op d2 a2 b2 imm2) = false := beq_eq_false_iff_ne.2 (fun e => HN.out (one_word H.out H2.out e).2.1)
  have ht : (Isa.text op d a b imm == Isa.text op d2 a2 b2 imm2) = false := beq_eq_false_iff_ne.2 (fun e => HN.out (one_text H.out H2.out e).2.1)
  have hk : (d == d2) = false := beq_eq_false_iff_ne.2 HN.out
  go_wp2_with fail
  go_region_held3 (fun w' => w'.cell? ⟨A, 0, none⟩ = some (.int .i64 op) ∧ w'.cell? ⟨A, 1, none⟩ = some (.int .i64 d) ∧ w'.cell? ⟨A, 2, none⟩ = some (.int .i64 a) ∧ w'.cell? ⟨A, 3, none⟩ = some (.int .i64 b) ∧ w'.cell? ⟨A, 4, none⟩ = some (.int .i64 imm) ∧ w'.cell? ⟨A + 1, 0, none⟩ = some (.int .i64 op) ∧ w'.cell? ⟨A + 1, 1, none⟩ = some (.int .i64 d2) ∧ w'.cell? ⟨A + 1, 2, none⟩ = some (.int .i64 a2) ∧ w'.cell? ⟨A + 1, 3, none⟩ = some (.int .i64 b2) ∧ w'.cell? ⟨A + 1, 4, none⟩ = some (.int .i64 imm2))
    (first | exact Ap.facts (by assumption) | exact Ap.facts (Ap.drew (by assumption)) | go_keep)
    (first
      | (go_at_call_of 21 (Value.int IntKind.i64 d); refine (text_at (A := A) (op := op) (d := d) (a := a) (b := b) (imm := imm) (op2 := op) (d2 := d2) (a2 := a2) (b2 := b2) (imm2 := imm2) h H.out ?_).mono ?_; (first | assumption | exact Ap.drew (by assumption)); rintro e w9 ⟨rfl, s9⟩)
      | (go_at_call_of 21 (Value.int IntKind.i64 d2); refine (text_at (A := A) (op := op) (d := d) (a := a) (b := b) (imm := imm) (op2 := op) (d2 := d2) (a2 := a2) (b2 := b2) (imm2 := imm2) h H2.out ?_).mono ?_; (first | assumption | exact Ap.drew (by assumption)); rintro e w9 ⟨rfl, s9⟩)
      | (go_at_call 17; refine (awake_at (A := A) (op := op) (d := d) (a := a) (b := b) (imm := imm) (op2 := op) (d2 := d2) (a2 := a2) (b2 := b2) (imm2 := imm2) h ?_).mono ?_; (first | assumption | exact Ap.drew (by assumption)); rintro e w9 ⟨rfl, s9⟩))
  all_goals
    rw [HA.out] at s9
    go_wp2_with fail
    go_ret
    exact ⟨rfl, s9.below⟩

set_option maxRecDepth 100000 in
set_option maxHeartbeats 8000000 in
theorem apart_2 (op d a b imm a2 b2 imm2 : Int) (w : World) (h : Env2 w) (ho : Isa.ok op d a b imm = true) (ho2 : Isa.ok op d a2 b2 imm2 = true) (hne : a ≠ a2) :
    Calls Tryd.prog 10 #[.agg #[.int .i64 op, .int .i64 d, .int .i64 a, .int .i64 b, .int .i64 imm], .agg #[.int .i64 op, .int .i64 d, .int .i64 a2, .int .i64 b2, .int .i64 imm2]] w fun e w' => e = .returned (.bool true) ∧ Below w.heap.size w w' := by
  have H := Lib.hid ho
  clear ho
  have H2 := Lib.hid ho2
  have HN := Lib.hid hne
  clear ho2 hne
  go_enter Tryd.func10, Tryd.ntmps10
  go_wp2_with fail
  have s0 : Ap w w.heap.size op d a b imm op d a2 b2 imm2 ((w.alloc (.cells #[.int .i64 op, .int .i64 d, .int .i64 a, .int .i64 b, .int .i64 imm] 27)).alloc (.cells #[.int .i64 op, .int .i64 d, .int .i64 a2, .int .i64 b2, .int .i64 imm2] 27)) :=
    ⟨((Below.refl _ _).alloc (Nat.le_refl _) _).alloc (by simp) _, (Below.heap_alloc _ _ _ (by simp)).trans (heap_new w _), by rw [← World.size_alloc w (.cells #[.int .i64 op, .int .i64 d, .int .i64 a, .int .i64 b, .int .i64 imm] 27)]; exact heap_new _ _⟩
  refine (encode_any _ _ _ _ _ _ (h.below s0.below).toEnv H.out).mono ?_
  rintro e w1 ⟨rfl, hb⟩
  replace s0 := s0.grow hb
  clear hb
  obtain ⟨k0, k1, k2, k3, k4, l0, l1, l2, l3, l4⟩ := s0.facts
  go_wp2_with fail
  refine (encode_any _ _ _ _ _ _ (h.below s0.below).toEnv H2.out).mono ?_
  rintro e w2 ⟨rfl, hb⟩
  replace s0 := s0.grow hb
  clear hb k0 k1 k2 k3 k4 l0 l1 l2 l3 l4
  obtain ⟨k0, k1, k2, k3, k4, l0, l1, l2, l3, l4⟩ := s0.facts
  obtain ⟨A, hA⟩ : ∃ A, A = w.heap.size := ⟨_, rfl⟩
  rw [← hA] at s0 k0 k1 k2 k3 k4 l0 l1 l2 l3 l4 ⊢
  have HA := Lib.hid hA
  clear hA
  have hw : (Isa.word op d a b imm == Isa.word op d a2 b2 imm2) = false := beq_eq_false_iff_ne.2 (fun e => HN.out (one_word H.out H2.out e).2.2.1)
  have ht : (Isa.text op d a b imm == Isa.text op d a2 b2 imm2) = false := beq_eq_false_iff_ne.2 (fun e => HN.out (one_text H.out H2.out e).2.2.1)
  have hk : (a == a2) = false := beq_eq_false_iff_ne.2 HN.out
  go_wp2_with fail
  go_region_held3 (fun w' => w'.cell? ⟨A, 0, none⟩ = some (.int .i64 op) ∧ w'.cell? ⟨A, 1, none⟩ = some (.int .i64 d) ∧ w'.cell? ⟨A, 2, none⟩ = some (.int .i64 a) ∧ w'.cell? ⟨A, 3, none⟩ = some (.int .i64 b) ∧ w'.cell? ⟨A, 4, none⟩ = some (.int .i64 imm) ∧ w'.cell? ⟨A + 1, 0, none⟩ = some (.int .i64 op) ∧ w'.cell? ⟨A + 1, 1, none⟩ = some (.int .i64 d) ∧ w'.cell? ⟨A + 1, 2, none⟩ = some (.int .i64 a2) ∧ w'.cell? ⟨A + 1, 3, none⟩ = some (.int .i64 b2) ∧ w'.cell? ⟨A + 1, 4, none⟩ = some (.int .i64 imm2))
    (first | exact Ap.facts (by assumption) | exact Ap.facts (Ap.drew (by assumption)) | go_keep)
    (first
      | (go_at_call_of 21 (Value.int IntKind.i64 a); refine (text_at (A := A) (op := op) (d := d) (a := a) (b := b) (imm := imm) (op2 := op) (d2 := d) (a2 := a2) (b2 := b2) (imm2 := imm2) h H.out ?_).mono ?_; (first | assumption | exact Ap.drew (by assumption)); rintro e w9 ⟨rfl, s9⟩)
      | (go_at_call_of 21 (Value.int IntKind.i64 a2); refine (text_at (A := A) (op := op) (d := d) (a := a) (b := b) (imm := imm) (op2 := op) (d2 := d) (a2 := a2) (b2 := b2) (imm2 := imm2) h H2.out ?_).mono ?_; (first | assumption | exact Ap.drew (by assumption)); rintro e w9 ⟨rfl, s9⟩)
      | (go_at_call 17; refine (awake_at (A := A) (op := op) (d := d) (a := a) (b := b) (imm := imm) (op2 := op) (d2 := d) (a2 := a2) (b2 := b2) (imm2 := imm2) h ?_).mono ?_; (first | assumption | exact Ap.drew (by assumption)); rintro e w9 ⟨rfl, s9⟩))
  all_goals
    rw [HA.out] at s9
    go_wp2_with fail
    go_ret
    exact ⟨rfl, s9.below⟩

set_option maxRecDepth 100000 in
set_option maxHeartbeats 8000000 in
theorem apart_3 (op d a b imm b2 imm2 : Int) (w : World) (h : Env2 w) (ho : Isa.ok op d a b imm = true) (ho2 : Isa.ok op d a b2 imm2 = true) (hne : b ≠ b2) :
    Calls Tryd.prog 10 #[.agg #[.int .i64 op, .int .i64 d, .int .i64 a, .int .i64 b, .int .i64 imm], .agg #[.int .i64 op, .int .i64 d, .int .i64 a, .int .i64 b2, .int .i64 imm2]] w fun e w' => e = .returned (.bool true) ∧ Below w.heap.size w w' := by
  have H := Lib.hid ho
  clear ho
  have H2 := Lib.hid ho2
  have HN := Lib.hid hne
  clear ho2 hne
  go_enter Tryd.func10, Tryd.ntmps10
  go_wp2_with fail
  have s0 : Ap w w.heap.size op d a b imm op d a b2 imm2 ((w.alloc (.cells #[.int .i64 op, .int .i64 d, .int .i64 a, .int .i64 b, .int .i64 imm] 27)).alloc (.cells #[.int .i64 op, .int .i64 d, .int .i64 a, .int .i64 b2, .int .i64 imm2] 27)) :=
    ⟨((Below.refl _ _).alloc (Nat.le_refl _) _).alloc (by simp) _, (Below.heap_alloc _ _ _ (by simp)).trans (heap_new w _), by rw [← World.size_alloc w (.cells #[.int .i64 op, .int .i64 d, .int .i64 a, .int .i64 b, .int .i64 imm] 27)]; exact heap_new _ _⟩
  refine (encode_any _ _ _ _ _ _ (h.below s0.below).toEnv H.out).mono ?_
  rintro e w1 ⟨rfl, hb⟩
  replace s0 := s0.grow hb
  clear hb
  obtain ⟨k0, k1, k2, k3, k4, l0, l1, l2, l3, l4⟩ := s0.facts
  go_wp2_with fail
  refine (encode_any _ _ _ _ _ _ (h.below s0.below).toEnv H2.out).mono ?_
  rintro e w2 ⟨rfl, hb⟩
  replace s0 := s0.grow hb
  clear hb k0 k1 k2 k3 k4 l0 l1 l2 l3 l4
  obtain ⟨k0, k1, k2, k3, k4, l0, l1, l2, l3, l4⟩ := s0.facts
  obtain ⟨A, hA⟩ : ∃ A, A = w.heap.size := ⟨_, rfl⟩
  rw [← hA] at s0 k0 k1 k2 k3 k4 l0 l1 l2 l3 l4 ⊢
  have HA := Lib.hid hA
  clear hA
  have hw : (Isa.word op d a b imm == Isa.word op d a b2 imm2) = false := beq_eq_false_iff_ne.2 (fun e => HN.out (one_word H.out H2.out e).2.2.2.1)
  have ht : (Isa.text op d a b imm == Isa.text op d a b2 imm2) = false := beq_eq_false_iff_ne.2 (fun e => HN.out (one_text H.out H2.out e).2.2.2.1)
  have hk : (b == b2) = false := beq_eq_false_iff_ne.2 HN.out
  go_wp2_with fail
  go_region_held3 (fun w' => w'.cell? ⟨A, 0, none⟩ = some (.int .i64 op) ∧ w'.cell? ⟨A, 1, none⟩ = some (.int .i64 d) ∧ w'.cell? ⟨A, 2, none⟩ = some (.int .i64 a) ∧ w'.cell? ⟨A, 3, none⟩ = some (.int .i64 b) ∧ w'.cell? ⟨A, 4, none⟩ = some (.int .i64 imm) ∧ w'.cell? ⟨A + 1, 0, none⟩ = some (.int .i64 op) ∧ w'.cell? ⟨A + 1, 1, none⟩ = some (.int .i64 d) ∧ w'.cell? ⟨A + 1, 2, none⟩ = some (.int .i64 a) ∧ w'.cell? ⟨A + 1, 3, none⟩ = some (.int .i64 b2) ∧ w'.cell? ⟨A + 1, 4, none⟩ = some (.int .i64 imm2))
    (first | exact Ap.facts (by assumption) | exact Ap.facts (Ap.drew (by assumption)) | go_keep)
    (first
      | (go_at_call_of 21 (Value.int IntKind.i64 b); refine (text_at (A := A) (op := op) (d := d) (a := a) (b := b) (imm := imm) (op2 := op) (d2 := d) (a2 := a) (b2 := b2) (imm2 := imm2) h H.out ?_).mono ?_; (first | assumption | exact Ap.drew (by assumption)); rintro e w9 ⟨rfl, s9⟩)
      | (go_at_call_of 21 (Value.int IntKind.i64 b2); refine (text_at (A := A) (op := op) (d := d) (a := a) (b := b) (imm := imm) (op2 := op) (d2 := d) (a2 := a) (b2 := b2) (imm2 := imm2) h H2.out ?_).mono ?_; (first | assumption | exact Ap.drew (by assumption)); rintro e w9 ⟨rfl, s9⟩)
      | (go_at_call 17; refine (awake_at (A := A) (op := op) (d := d) (a := a) (b := b) (imm := imm) (op2 := op) (d2 := d) (a2 := a) (b2 := b2) (imm2 := imm2) h ?_).mono ?_; (first | assumption | exact Ap.drew (by assumption)); rintro e w9 ⟨rfl, s9⟩))
  all_goals
    rw [HA.out] at s9
    go_wp2_with fail
    go_ret
    exact ⟨rfl, s9.below⟩

set_option maxRecDepth 100000 in
set_option maxHeartbeats 8000000 in
theorem apart_4 (op d a b imm imm2 : Int) (w : World) (h : Env2 w) (ho : Isa.ok op d a b imm = true) (ho2 : Isa.ok op d a b imm2 = true) (hne : imm ≠ imm2) :
    Calls Tryd.prog 10 #[.agg #[.int .i64 op, .int .i64 d, .int .i64 a, .int .i64 b, .int .i64 imm], .agg #[.int .i64 op, .int .i64 d, .int .i64 a, .int .i64 b, .int .i64 imm2]] w fun e w' => e = .returned (.bool true) ∧ Below w.heap.size w w' := by
  have H := Lib.hid ho
  clear ho
  have H2 := Lib.hid ho2
  have HN := Lib.hid hne
  clear ho2 hne
  go_enter Tryd.func10, Tryd.ntmps10
  go_wp2_with fail
  have s0 : Ap w w.heap.size op d a b imm op d a b imm2 ((w.alloc (.cells #[.int .i64 op, .int .i64 d, .int .i64 a, .int .i64 b, .int .i64 imm] 27)).alloc (.cells #[.int .i64 op, .int .i64 d, .int .i64 a, .int .i64 b, .int .i64 imm2] 27)) :=
    ⟨((Below.refl _ _).alloc (Nat.le_refl _) _).alloc (by simp) _, (Below.heap_alloc _ _ _ (by simp)).trans (heap_new w _), by rw [← World.size_alloc w (.cells #[.int .i64 op, .int .i64 d, .int .i64 a, .int .i64 b, .int .i64 imm] 27)]; exact heap_new _ _⟩
  refine (encode_any _ _ _ _ _ _ (h.below s0.below).toEnv H.out).mono ?_
  rintro e w1 ⟨rfl, hb⟩
  replace s0 := s0.grow hb
  clear hb
  obtain ⟨k0, k1, k2, k3, k4, l0, l1, l2, l3, l4⟩ := s0.facts
  go_wp2_with fail
  refine (encode_any _ _ _ _ _ _ (h.below s0.below).toEnv H2.out).mono ?_
  rintro e w2 ⟨rfl, hb⟩
  replace s0 := s0.grow hb
  clear hb k0 k1 k2 k3 k4 l0 l1 l2 l3 l4
  obtain ⟨k0, k1, k2, k3, k4, l0, l1, l2, l3, l4⟩ := s0.facts
  obtain ⟨A, hA⟩ : ∃ A, A = w.heap.size := ⟨_, rfl⟩
  rw [← hA] at s0 k0 k1 k2 k3 k4 l0 l1 l2 l3 l4 ⊢
  have HA := Lib.hid hA
  clear hA
  have hw : (Isa.word op d a b imm == Isa.word op d a b imm2) = false := beq_eq_false_iff_ne.2 (fun e => HN.out (one_word H.out H2.out e).2.2.2.2)
  have ht : (Isa.text op d a b imm == Isa.text op d a b imm2) = false := beq_eq_false_iff_ne.2 (fun e => HN.out (one_text H.out H2.out e).2.2.2.2)
  have hk : (imm == imm2) = false := beq_eq_false_iff_ne.2 HN.out
  go_wp2_with fail
  go_region_held3 (fun w' => w'.cell? ⟨A, 0, none⟩ = some (.int .i64 op) ∧ w'.cell? ⟨A, 1, none⟩ = some (.int .i64 d) ∧ w'.cell? ⟨A, 2, none⟩ = some (.int .i64 a) ∧ w'.cell? ⟨A, 3, none⟩ = some (.int .i64 b) ∧ w'.cell? ⟨A, 4, none⟩ = some (.int .i64 imm) ∧ w'.cell? ⟨A + 1, 0, none⟩ = some (.int .i64 op) ∧ w'.cell? ⟨A + 1, 1, none⟩ = some (.int .i64 d) ∧ w'.cell? ⟨A + 1, 2, none⟩ = some (.int .i64 a) ∧ w'.cell? ⟨A + 1, 3, none⟩ = some (.int .i64 b) ∧ w'.cell? ⟨A + 1, 4, none⟩ = some (.int .i64 imm2))
    (first | exact Ap.facts (by assumption) | exact Ap.facts (Ap.drew (by assumption)) | go_keep)
    (first
      | (go_at_call_of 21 (Value.int IntKind.i64 imm); refine (text_at (A := A) (op := op) (d := d) (a := a) (b := b) (imm := imm) (op2 := op) (d2 := d) (a2 := a) (b2 := b) (imm2 := imm2) h H.out ?_).mono ?_; (first | assumption | exact Ap.drew (by assumption)); rintro e w9 ⟨rfl, s9⟩)
      | (go_at_call_of 21 (Value.int IntKind.i64 imm2); refine (text_at (A := A) (op := op) (d := d) (a := a) (b := b) (imm := imm) (op2 := op) (d2 := d) (a2 := a) (b2 := b) (imm2 := imm2) h H2.out ?_).mono ?_; (first | assumption | exact Ap.drew (by assumption)); rintro e w9 ⟨rfl, s9⟩)
      | (go_at_call 17; refine (awake_at (A := A) (op := op) (d := d) (a := a) (b := b) (imm := imm) (op2 := op) (d2 := d) (a2 := a) (b2 := b) (imm2 := imm2) h ?_).mono ?_; (first | assumption | exact Ap.drew (by assumption)); rintro e w9 ⟨rfl, s9⟩))
  all_goals
    rw [HA.out] at s9
    go_wp2_with fail
    go_ret
    exact ⟨rfl, s9.below⟩

theorem apart_any (op d a b imm op2 d2 a2 b2 imm2 : Int) (w : World) (h : Env2 w) :
    Calls Tryd.prog 10 #[.agg #[.int .i64 op, .int .i64 d, .int .i64 a, .int .i64 b, .int .i64 imm], .agg #[.int .i64 op2, .int .i64 d2, .int .i64 a2, .int .i64 b2, .int .i64 imm2]] w fun e w' => e = .returned (.bool true) ∧ Below w.heap.size w w' := by
  cases h1 : Isa.ok op d a b imm
  · exact apart_bad _ _ _ _ _ _ _ _ _ _ w h (Or.inl h1)
  cases h2 : Isa.ok op2 d2 a2 b2 imm2
  · exact apart_bad _ _ _ _ _ _ _ _ _ _ w h (Or.inr h2)
  by_cases e0 : op = op2
  · subst e0
    by_cases e1 : d = d2
    · subst e1
      by_cases e2 : a = a2
      · subst e2
        by_cases e3 : b = b2
        · subst e3
          by_cases e4 : imm = imm2
          · subst e4
            exact apart_same _ _ _ _ _ w h h1
          · exact apart_4 _ _ _ _ _ _ w h h1 h2 e4
        · exact apart_3 _ _ _ _ _ _ _ w h h1 h2 e3
      · exact apart_2 _ _ _ _ _ _ _ _ w h h1 h2 e2
    · exact apart_1 _ _ _ _ _ _ _ _ _ w h h1 h2 e1
  · exact apart_0 _ _ _ _ _ _ _ _ _ _ w h h1 h2 e0
end Go.Proofs.YtmgheeldoadnhaaDoor
