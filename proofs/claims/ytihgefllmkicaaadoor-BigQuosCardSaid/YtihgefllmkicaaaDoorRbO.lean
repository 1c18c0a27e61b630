/- Contracts: the document's quotient. Conditions: the digits lie as told. -/
import Derived.Test.YtihgefllmkicaaaDoorRbK
import Derived.Test.YtihgefllmkicaaaDoorRbL
namespace Go.Proofs.YtihgefllmkicaaaDoor
open Go.RowKit Bg
set_option linter.unusedVariables false
set_option linter.unusedSimpArgs false


/-- What the document's Quo tells. -/
def RQuo (w' : World) (e : Ending) (x y : Int) (n : Nat) : Prop :=
  (y = 0 ∧ e = .returned (.tuple #[.agg #[.bool false, .slice none 0 0], .agg #[.bool false, .slice none 0 0], .int .i64 15])) ∨
  (y ≠ 0 ∧ ∃ t q d D t' q' d' D', e = .returned (.tuple #[.agg #[.bool t, .slice q D.length d], .agg #[.bool t', .slice q' D'.length d'], .int .i64 0]) ∧ Dn w' t q d D (x.tdiv y) ∧ Dn w' t' q' d' D' (x.tmod y) ∧ D.length ≤ n ∧ D'.length ≤ n)
/-- A long division, when k digits are still to come. -/
theorem len_of {a b : Nat} {x y : Int} (h : b < a → x < y) (k : y ≤ x) : a ≤ b := by
  rcases Nat.lt_or_ge b a with h1 | h1
  · have := h h1; omega
  · exact h1
theorem tdig_le (D : List Int) : (tdig D).length ≤ D.length := by
  have := tdig_len D
  have := trimN_le D D.length
  omega
structure Dq (l : List Int) (v : Int) (k : Nat) (R Q : List Int) : Prop where
  dR : Dig 10 R
  tR : Tidy R
  dQ : Dig 10 Q
  len : Q.length = l.length - k
  low : Bg.val 10 R < v
  val : Bg.val 10 (l.drop k) = v * Bg.val 10 Q + Bg.val 10 R
theorem Dq.next {l : List Int} {v : Int} {k : Nat} {R Q R2 : List Int} {i : Nat} (h : Dq l v (k + 1) R Q) (hk : k < l.length) (d2 : Dig 10 R2) (t2 : Tidy R2) (hlow : Bg.val 10 R2 < v) (hi : i ≤ 9) (hv : Bg.val 10 R2 + i * v = 10 * Bg.val 10 R + l.getD k 0) : Dq l v k R2 ((i : Int) :: Q) := by
  refine ⟨d2, t2, fun x hx => ?_, by have := h.len; simp; omega, hlow, ?_⟩
  · rcases List.mem_cons.1 hx with h1 | h1
    · rw [h1]; omega
    · exact h.dQ x h1
  · rw [val_any l k hk, h.val]
    show _ = v * ((i : Int) + 10 * Bg.val 10 Q) + _
    have e1 : (i : Int) * v = v * i := Int.mul_comm _ _
    have e2 : v * (10 * Bg.val 10 Q) = 10 * (v * Bg.val 10 Q) := by rw [← Int.mul_assoc, Int.mul_comm v 10, Int.mul_assoc]
    have e3 : v * ((i : Int) + 10 * Bg.val 10 Q) = v * i + 10 * (v * Bg.val 10 Q) := by rw [Int.mul_add, e2]
    rw [e3]
    omega
theorem hundred {v : Int} {n : Nat} (h : v < 10 ^ n) : 100 * v < 10 ^ (n + 2) := by
  rw [Int.pow_add]
  have e : (10 : Int) ^ 2 = 100 := by decide
  rw [e, Int.mul_comm]
  omega
theorem quo_nv {s t : Bool} {a b q r : Int} (hb : 0 < b) (hr : 0 ≤ r ∧ r < b) (ha : a = b * q + r) (hq : 0 ≤ q) : (if (s != t) = true then -q else q) = (if s = true then -a else a).tdiv (if t = true then -b else b) ∧ (if s = true then -r else r) = (if s = true then -a else a).tmod (if t = true then -b else b) := by
  have h0 : 0 ≤ a := by
    have := Int.mul_nonneg (Int.le_of_lt hb) hq
    omega
  have h1 : a / b = q := by
    rw [ha, Int.add_comm, Int.add_mul_ediv_left _ _ (by omega), Int.ediv_eq_zero_of_lt hr.1 hr.2, Int.zero_add]
  have h2 : a % b = r := by
    rw [ha, Int.add_comm, Int.add_mul_emod_self_left, Int.emod_eq_of_lt hr.1 hr.2]
  have := quo_signs s t h0 hb
  rw [h1, h2] at this
  exact this
theorem len_short {R : List Int} {v : Int} {n : Nat} (d : Dig 10 R) (t : Tidy R) (h : Bg.val 10 R < v) (hv : v < 10 ^ n) : R.length ≤ n := by
  by_cases h0 : R = []
  · rw [h0]; exact Nat.zero_le _
  have h1 := val_ge (by decide) d t h0
  rcases Nat.lt_or_ge n R.length with h3 | h3
  · exfalso
    have := pow_le (show (1 : Int) ≤ 10 by decide) (show n ≤ R.length - 1 by omega)
    omega
  · exact h3
theorem boxes28_4 (w : World) (a b c d e f g h : Value) : ∃ W, W = (((w.alloc (.cells #[a, b] 28)).alloc (.cells #[c, d] 28)).alloc (.cells #[e, f] 28)).alloc (.cells #[g, h] 28) ∧ Below w.heap.size w W ∧ Box W w.heap.size a b ∧ Box W (w.heap.size + 1) c d ∧ Box W (w.heap.size + 1 + 1) e f ∧ Box W (w.heap.size + 1 + 1 + 1) g h ∧ W.heap.size = w.heap.size + 4 :=
  ⟨_, rfl, ((((Below.refl _ _).alloc (Nat.le_refl _) _).alloc (by simp) _).alloc (by simp; omega) _).alloc (by simp; omega) _, (((box_fresh 28 _ _ _ rfl).alloc _).alloc _).alloc _, ((box_fresh 28 _ _ _ (by simp)).alloc _).alloc _, (box_fresh 28 _ _ _ (by simp)).alloc _, box_fresh 28 _ _ _ (by simp), by simp⟩
theorem one_arg (w : World) {W : World} (d : Int) (h : W = w.alloc (.cells #[.int .i64 d] 3)) : Arg .i64 W (some ⟨w.heap.size, 0, none⟩) 1 [d] :=
  ⟨fun h => (by cases h), Nat.le_refl _, by decide, fun i hi => ⟨w.heap.size, 0, rfl, by
    have hi0 : i = 0 := by have : i < 1 := hi; omega
    subst hi0
    rw [h]
    have e := heap_new w (.cells #[.int .i64 d] 3)
    unfold World.cell?
    rw [e]
    rfl⟩⟩
theorem fresh_of {p : Option Addr} {B C n : Nat} (h : p = none ∨ ∃ g, p = some ⟨g, 0, none⟩ ∧ B ≤ g ∧ g < n) (k : C ≤ B) : ∀ g o, p = some ⟨g, o, none⟩ → C ≤ g := by
  intro g o he
  rcases h with h | ⟨g', h, hg, -⟩
  · rw [h] at he; cases he
  · rw [h] at he; cases he; omega
theorem one_val (d : Int) : Bg.val 10 [d] = d := by
  show d + 10 * 0 = d
  omega
set_option maxRecDepth 100000 in
set_option maxHeartbeats 40000000 in
theorem rquo_at {w : World} {p1 p2 : Option Addr} {c1 c2 : Nat} {l1 l2 : List Int} {s1 s2 : Bool} {x y : Int} (a : Dn w s1 p1 c1 l1 x) (b : Dn w s2 p2 c2 l2 y) (n1 : l1.length ≤ 10000) (n2 : l2.length ≤ 10000) :
    Calls Tryd.prog 33 #[.agg #[.bool s1, .slice p1 l1.length c1], .agg #[.bool s2, .slice p2 l2.length c2]] w fun e w' => RQuo w' e x y 10001 ∧ Below w.heap.size w w' := by
  obtain ⟨W, hW, hB, x0, x1, x2, x3, hS⟩ := boxes28_4 w (.bool s1) (.slice p1 l1.length c1) (.bool s2) (.slice p2 l2.length c2) (.bool false) (.slice none 0 0) (.bool false) (.slice none 0 0)
  have c01 := x0.c0
  have c02 := x0.c1
  have c03 := x1.c0
  have c04 := x1.c1
  have mx1 := a.arg.max
  have le1 := a.arg.le
  have H := Lib.hid (And.intro hB (And.intro x0 (And.intro x1 (And.intro x2 (And.intro x3 (And.intro (a.below hB) (And.intro (b.below hB) hS)))))))
  clear a b hB x0 x1 x2 x3 hS
  go_enter Tryd.func33, Tryd.ntmps33
  by_cases h0 : l2.length = 0
  · have q1 : decide ((l2.length : Int) = 0) = true := by rw [decide_eq_true_eq]; omega
    have q2 : ((l2.length : Int) == 0) = true := q1
    go_wp2_with fail
    rw [h0] at hW
    have k0 := H.out.2.2.2.1.c0
    have k1 := H.out.2.2.2.1.c1
    have k2 := H.out.2.2.2.2.1.c0
    have k3 := H.out.2.2.2.2.1.c1
    have hy0 : y = 0 := by rw [← H.out.2.2.2.2.2.2.1.val, List.length_eq_zero_iff.1 h0, nv_nil]
    have HB := Lib.hid H.out.1
    rw [← hW]
    clear hW H
    refine bodyPost_ret (v := .tuple #[.agg #[.bool false, .slice none 0 0], .agg #[.bool false, .slice none 0 0], .int .i64 15]) (by simp [results, Tryd.results33, go_sem, k0, k1, k2, k3]) rfl ⟨Or.inl ⟨hy0, rfl⟩, HB.out⟩
  · have q1 : decide ((l2.length : Int) = 0) = false := by rw [decide_eq_false_iff_not]; omega
    have q2 : ((l2.length : Int) == 0) = false := q1
    go_wp2_with fail
    rw [← hW]
    clear hW q1 q2 c01 c02 c03 c04
    obtain ⟨v, hv⟩ : ∃ v, v = Bg.val 10 l2 := ⟨_, rfl⟩
    have hvp : 0 < v := by
      have h1 := val_ge (by decide) H.out.2.2.2.2.2.2.1.can.dig H.out.2.2.2.2.2.2.1.can.tidy (fun e => h0 (by rw [e]; rfl))
      have h2 := pow_pos' (show (0 : Int) < 10 by decide) (l2.length - 1)
      omega
    have HV := Lib.hid (And.intro hv hvp)
    clear hv hvp
    go_loopw [7, 8, 9, 10, 11] (fun r q t _ _ wr => ∃ (k : Nat) (R Q : List Int) (p3 p4 : Option Addr) (c3 c4 : Nat), t = .int .i64 ((k : Int) - 1) ∧ k ≤ l1.length ∧ r = .slice p3 R.length c3 ∧ q = .slice p4 Q.length c4 ∧ Hid (Dq l1 v k R Q ∧ Arg .i64 wr p3 c3 R ∧ Arg .i64 wr p4 c4 Q ∧ (∀ g o, p3 = some ⟨g, o, none⟩ → W.heap.size ≤ g) ∧ (∀ g o, p4 = some ⟨g, o, none⟩ → W.heap.size ≤ g) ∧ Below W.heap.size W wr)) (fun _ _ t _ _ _ => (intOf t + 1).toNat)
    case atStart => exact ⟨l1.length, [], [], none, none, 0, 0, rfl, Nat.le_refl _, rfl, rfl, ⟨Dig.nil, by simp [Tidy], Dig.nil, by simp, HV.out.2, by rw [List.drop_eq_nil_of_le (Nat.le_refl _)]; simp [Bg.val]⟩, Arg.nothing _ _, Arg.nothing _ _, (fun g o h => (by cases h)), (fun g o h => (by cases h)), Below.refl _ _⟩
    case round =>
      obtain ⟨k, R, Q, p3, p4, c3, c4, rfl, hk, rfl, rfl, hS⟩ := hrel
      cases k with
      | zero =>
        have d1 : decide (((0 : Nat) : Int) - 1 ≥ 0) = false := by decide
        have Z0 := Lib.hid (And.intro (H.out.2.1.below hS.out.2.2.2.2.2) (And.intro (H.out.1.trans (hS.out.2.2.2.2.2.mono H.out.1.size)) (And.intro (H.out.2.1.below hS.out.2.2.2.2.2) (And.intro (H.out.2.2.1.below hS.out.2.2.2.2.2) (And.intro (H.out.2.2.2.1.below hS.out.2.2.2.2.2) (And.intro (H.out.2.2.2.2.1.below hS.out.2.2.2.2.2) (And.intro hS.out.2.2.1 hS.out.2.1)))))))
        go_upto_region 15 with fail
        clear d1
        have B11 : Below wr.heap.size wr wr.drew := (Below.refl _ _).drew
        have Z1 := Lib.hid (And.intro (Z0.out.1.below B11) (And.intro (Z0.out.2.1.trans (B11.mono Z0.out.2.1.size)) (And.intro (Z0.out.2.2.1.below B11) (And.intro (Z0.out.2.2.2.1.below B11) (And.intro (Z0.out.2.2.2.2.1.below B11) (And.intro (Z0.out.2.2.2.2.2.1.below B11) (And.intro (Z0.out.2.2.2.2.2.2.1.below B11) (Z0.out.2.2.2.2.2.2.2.below B11))))))))
        clear B11
        have hSS : wr.drew.cell? ⟨w.heap.size, 0, none⟩ = some (.bool s1) ∧ wr.drew.cell? ⟨w.heap.size, 1, none⟩ = some (.slice p1 l1.length c1) ∧ wr.drew.cell? ⟨w.heap.size + 1, 0, none⟩ = some (.bool s2) ∧ wr.drew.cell? ⟨w.heap.size + 1, 1, none⟩ = some (.slice p2 l2.length c2) := And.intro ((Z1.out.2.2.1).c0) (And.intro ((Z1.out.2.2.1).c1) (And.intro ((Z1.out.2.2.2.1).c0) ((Z1.out.2.2.2.1).c1)))
        refine wp_region_noPanic ?_
        refine wp_region_held_drew (S := fun w' => w'.cell? ⟨w.heap.size, 0, none⟩ = some (.bool s1) ∧ w'.cell? ⟨w.heap.size, 1, none⟩ = some (.slice p1 l1.length c1) ∧ w'.cell? ⟨w.heap.size + 1, 0, none⟩ = some (.bool s2) ∧ w'.cell? ⟨w.heap.size + 1, 1, none⟩ = some (.slice p2 l2.length c2)) (by kernel_rfl) hSS (fun hHeld => ?_)
        obtain ⟨wd, hwd⟩ : ∃ wd, wd = wr.drew := ⟨_, rfl⟩
        rw [← hwd] at hSS hHeld Z1 ⊢
        clear hwd
        refine wpAnyH_take (i := 0) (oi := { dst := some 54, op := Op.fieldAddr 28 (Operand.tmp 2) 0, type := 0, pos := "ref.go:224", after := #[], guard := none }) (v := ?_) rfl (by kernel_rfl) (by kernel_rfl) (by kernel_rfl) (fun _ _ _ h => h) (Or.inl ⟨by rfl, ?_⟩) (by assumption) ?_
        rotate_left
        · (intro w0 hSw; (try dsimp only at hSw); go_simp; (try with_reducible rfl))
        try simp only [Act.put, List.setIfInBounds_toArray, List.set_cons_zero, List.set_cons_succ]
        refine wpAnyH_take (i := 1) (oi := { dst := some 55, op := Op.load 4 (Operand.tmp 54), type := 4, pos := "ref.go:224", after := #[{ on := 0, ground := Ground.data }], guard := none }) (v := ?_) rfl (by kernel_rfl) (by kernel_rfl) (by kernel_rfl) (fun _ _ _ h => h) (Or.inl ⟨by rfl, ?_⟩) (by assumption) ?_
        rotate_left
        · (intro w0 hSw; (try dsimp only at hSw); go_simp; (try with_reducible rfl))
        try simp only [Act.put, List.setIfInBounds_toArray, List.set_cons_zero, List.set_cons_succ]
        refine wpAnyH_take (i := 2) (oi := { dst := some 56, op := Op.fieldAddr 28 (Operand.tmp 3) 0, type := 0, pos := "ref.go:224", after := #[], guard := none }) (v := ?_) rfl (by kernel_rfl) (by kernel_rfl) (by kernel_rfl) (fun _ _ _ h => h) (Or.inl ⟨by rfl, ?_⟩) (by assumption) ?_
        rotate_left
        · (intro w0 hSw; (try dsimp only at hSw); go_simp; (try with_reducible rfl))
        try simp only [Act.put, List.setIfInBounds_toArray, List.set_cons_zero, List.set_cons_succ]
        refine wpAnyH_take (i := 3) (oi := { dst := some 57, op := Op.load 4 (Operand.tmp 56), type := 4, pos := "ref.go:224", after := #[{ on := 2, ground := Ground.data }], guard := none }) (v := ?_) rfl (by kernel_rfl) (by kernel_rfl) (by kernel_rfl) (fun _ _ _ h => h) (Or.inl ⟨by rfl, ?_⟩) (by assumption) ?_
        rotate_left
        · (intro w0 hSw; (try dsimp only at hSw); go_simp; (try with_reducible rfl))
        try simp only [Act.put, List.setIfInBounds_toArray, List.set_cons_zero, List.set_cons_succ]
        refine wpAnyH_take (i := 4) (oi := { dst := some 58, op := Op.binOp BinOp.neq 4 (Operand.tmp 55) (Operand.tmp 57) 4, type := 4, pos := "ref.go:224", after := #[{ on := 1, ground := Ground.data }, { on := 3, ground := Ground.data }], guard := none }) (v := ?_) rfl (by kernel_rfl) (by kernel_rfl) (by kernel_rfl) (fun _ _ _ h => h) (Or.inl ⟨by rfl, ?_⟩) (by assumption) ?_
        rotate_left
        · (intro w0 hSw; (try dsimp only at hSw); go_simp; (try with_reducible rfl))
        try simp only [Act.put, List.setIfInBounds_toArray, List.set_cons_zero, List.set_cons_succ]
        refine wpAnyH_take (i := 5) (oi := { dst := some 59, op := Op.move (Operand.tmp 8), type := 26, pos := "ref.go:224", after := #[], guard := none }) (v := ?_) rfl (by kernel_rfl) (by kernel_rfl) (by kernel_rfl) (fun _ _ _ h => h) (Or.inl ⟨by rfl, ?_⟩) (by assumption) ?_
        rotate_left
        · (intro w0 hSw; (try dsimp only at hSw); go_simp; (try with_reducible rfl))
        try simp only [Act.put, List.setIfInBounds_toArray, List.set_cons_zero, List.set_cons_succ]
        refine wpAnyH_take (i := 7) (oi := { dst := some 61, op := Op.fieldAddr 28 (Operand.tmp 2) 0, type := 0, pos := "ref.go:224", after := #[], guard := none }) (v := ?_) rfl (by kernel_rfl) (by kernel_rfl) (by kernel_rfl) (fun _ _ _ h => h) (Or.inl ⟨by rfl, ?_⟩) (by assumption) ?_
        rotate_left
        · (intro w0 hSw; (try dsimp only at hSw); go_simp; (try with_reducible rfl))
        try simp only [Act.put, List.setIfInBounds_toArray, List.set_cons_zero, List.set_cons_succ]
        refine wpAnyH_take (i := 8) (oi := { dst := some 62, op := Op.load 4 (Operand.tmp 61), type := 4, pos := "ref.go:224", after := #[{ on := 7, ground := Ground.data }], guard := none }) (v := ?_) rfl (by kernel_rfl) (by kernel_rfl) (by kernel_rfl) (fun _ _ _ h => h) (Or.inl ⟨by rfl, ?_⟩) (by assumption) ?_
        rotate_left
        · (intro w0 hSw; (try dsimp only at hSw); go_simp; (try with_reducible rfl))
        try simp only [Act.put, List.setIfInBounds_toArray, List.set_cons_zero, List.set_cons_succ]
        refine wpAnyH_take (i := 9) (oi := { dst := some 63, op := Op.move (Operand.tmp 7), type := 26, pos := "ref.go:224", after := #[], guard := none }) (v := ?_) rfl (by kernel_rfl) (by kernel_rfl) (by kernel_rfl) (fun _ _ _ h => h) (Or.inl ⟨by rfl, ?_⟩) (by assumption) ?_
        rotate_left
        · (intro w0 hSw; (try dsimp only at hSw); go_simp; (try with_reducible rfl))
        try simp only [Act.put, List.setIfInBounds_toArray, List.set_cons_zero, List.set_cons_succ]
        refine wpAnyH_ready (rs := [6]) (by kernel_rfl) (by simp) ?_
        refine AllReadyH.cons rfl (fun K hK => ?_) AllReadyH.nil
        go_simp
        go_wp2_with (have hx := Z1; go_at_call 49; clear hx; refine (made_at (s1 != s2) Z1.out.2.2.2.2.2.2.1).mono ?_; rintro e w12 ⟨rfl, B12⟩; obtain ⟨tq, htq⟩ : ∃ tq, tq = tneg (s1 != s2) Q := ⟨_, rfl⟩; rw [← htq]; have HTq := Lib.hid htq; clear htq; have Z2 := Lib.hid (And.intro (Z1.out.1.below B12) (And.intro (Z1.out.2.1.trans (B12.mono Z1.out.2.1.size)) (And.intro (Z1.out.2.2.1.below B12) (And.intro (Z1.out.2.2.2.1.below B12) (And.intro (Z1.out.2.2.2.2.1.below B12) (And.intro (Z1.out.2.2.2.2.2.1.below B12) (And.intro (Z1.out.2.2.2.2.2.2.1.below B12) (Z1.out.2.2.2.2.2.2.2.below B12)))))))); clear B12 Z1; clear hSS; have hSSrw12 := And.intro ((Z2.out.2.2.1).c0) (And.intro ((Z2.out.2.2.1).c1) (And.intro ((Z2.out.2.2.2.1).c0) ((Z2.out.2.2.2.1).c1))))
        refine hK.out _ _ ?_ (fun hHeld => ?_)
        · assumption
        clear hK K
        refine wpAnyH_ready (rs := [10]) (by kernel_rfl) (by simp) ?_
        refine AllReadyH.cons rfl (fun K hK => ?_) AllReadyH.nil
        go_simp
        go_wp2_with (have hx := Z2; go_at_call 49; clear hx; refine (made_at s1 Z2.out.2.2.2.2.2.2.2).mono ?_; rintro e w13 ⟨rfl, B13⟩; obtain ⟨tr, htr⟩ : ∃ tr, tr = tneg s1 R := ⟨_, rfl⟩; rw [← htr]; have HTr := Lib.hid htr; clear htr; have Z3 := Lib.hid (And.intro (Z2.out.1.below B13) (And.intro (Z2.out.2.1.trans (B13.mono Z2.out.2.1.size)) (And.intro (Z2.out.2.2.1.below B13) (And.intro (Z2.out.2.2.2.1.below B13) (And.intro (Z2.out.2.2.2.2.1.below B13) (And.intro (Z2.out.2.2.2.2.2.1.below B13) (And.intro (Z2.out.2.2.2.2.2.2.1.below B13) (Z2.out.2.2.2.2.2.2.2.below B13)))))))); clear B13 Z2; clear hSSrw12; have hSSrw13 := And.intro ((Z3.out.2.2.1).c0) (And.intro ((Z3.out.2.2.1).c1) (And.intro ((Z3.out.2.2.2.1).c0) ((Z3.out.2.2.2.1).c1))))
        refine hK.out _ _ ?_ (fun hHeld => ?_)
        · assumption
        clear hK K
        refine wpAnyH_ready (rs := [11]) (by kernel_rfl) (by simp) ?_
        refine AllReadyH.cons rfl (fun K hK => ?_) AllReadyH.nil
        have hf0 := (Z3.out.2.2.2.2.1).f0
        have hf1 := (Z3.out.2.2.2.2.1).f1
        have hc0 := (Z3.out.2.2.2.2.1).c0
        have hc1 := (Z3.out.2.2.2.2.1).c1
        go_simp
        clear hf0 hf1 hc0 hc1
        obtain ⟨w14, hw14⟩ : ∃ w14, w14 = (w13.setCell ⟨w.heap.size + 1 + 1, 0, none⟩ (.bool tq)).setCell ⟨w.heap.size + 1 + 1, 1, none⟩ (.slice p4 (tdig Q).length c4) := ⟨_, rfl⟩
        rw [← hw14]
        have M14a : Box w14 (w.heap.size) (.bool s1) (.slice p1 l1.length c1) := (by rw [hw14]; exact (Z3.out.1).far (by omega) _ _)
        have M14b : Below w.heap.size w w14 := (by rw [hw14]; exact box_kept Z3.out.2.1 (by omega) _ _)
        have M14c : Box w14 (w.heap.size) (.bool s1) (.slice p1 l1.length c1) := (by rw [hw14]; exact (Z3.out.2.2.1).far (by omega) _ _)
        have M14d : Box w14 (w.heap.size + 1) (.bool s2) (.slice p2 l2.length c2) := (by rw [hw14]; exact (Z3.out.2.2.2.1).far (by omega) _ _)
        have M14e : Box w14 (w.heap.size + 1 + 1) (.bool tq) (.slice p4 (tdig Q).length c4) := (by rw [hw14]; exact (Z3.out.2.2.2.2.1).put _ _)
        have M14f : Box w14 (w.heap.size + 1 + 1 + 1) (.bool false) (.slice none 0 0) := (by rw [hw14]; exact (Z3.out.2.2.2.2.2.1).far (by omega) _ _)
        have M14g : Arg .i64 w14 p4 c4 Q := (by rw [hw14]; exact (Z3.out.2.2.2.2.2.2.1).put (fun g o he hg => by have h1 := hS.out.2.2.2.2.1 g o he; have h2 := H.out.2.2.2.2.2.2.2; omega) _ _)
        have M14h : Arg .i64 w14 p3 c3 R := (by rw [hw14]; exact (Z3.out.2.2.2.2.2.2.2).put (fun g o he hg => by have h1 := hS.out.2.2.2.1 g o he; have h2 := H.out.2.2.2.2.2.2.2; omega) _ _)
        have Z4 := Lib.hid (And.intro M14a (And.intro M14b (And.intro M14c (And.intro M14d (And.intro M14e (And.intro M14f (And.intro M14g M14h)))))))
        clear M14a M14b M14c M14d M14e M14f M14g M14h hw14 Z3
        clear hSSrw13
        have hSSb14 := And.intro ((Z4.out.2.2.1).c0) (And.intro ((Z4.out.2.2.1).c1) (And.intro ((Z4.out.2.2.2.1).c0) ((Z4.out.2.2.2.1).c1)))
        refine hK.out _ _ ?_ (fun hHeld => ?_)
        · assumption
        clear hK K
        refine wpAnyH_ready (rs := [12]) (by kernel_rfl) (by simp) ?_
        refine AllReadyH.cons rfl (fun K hK => ?_) AllReadyH.nil
        have hf0 := (Z4.out.2.2.2.2.2.1).f0
        have hf1 := (Z4.out.2.2.2.2.2.1).f1
        have hc0 := (Z4.out.2.2.2.2.2.1).c0
        have hc1 := (Z4.out.2.2.2.2.2.1).c1
        go_simp
        clear hf0 hf1 hc0 hc1
        obtain ⟨w15, hw15⟩ : ∃ w15, w15 = (w14.setCell ⟨w.heap.size + 1 + 1 + 1, 0, none⟩ (.bool tr)).setCell ⟨w.heap.size + 1 + 1 + 1, 1, none⟩ (.slice p3 (tdig R).length c3) := ⟨_, rfl⟩
        rw [← hw15]
        have M15a : Box w15 (w.heap.size) (.bool s1) (.slice p1 l1.length c1) := (by rw [hw15]; exact (Z4.out.1).far (by omega) _ _)
        have M15b : Below w.heap.size w w15 := (by rw [hw15]; exact box_kept Z4.out.2.1 (by omega) _ _)
        have M15c : Box w15 (w.heap.size) (.bool s1) (.slice p1 l1.length c1) := (by rw [hw15]; exact (Z4.out.2.2.1).far (by omega) _ _)
        have M15d : Box w15 (w.heap.size + 1) (.bool s2) (.slice p2 l2.length c2) := (by rw [hw15]; exact (Z4.out.2.2.2.1).far (by omega) _ _)
        have M15e : Box w15 (w.heap.size + 1 + 1) (.bool tq) (.slice p4 (tdig Q).length c4) := (by rw [hw15]; exact (Z4.out.2.2.2.2.1).far (by omega) _ _)
        have M15f : Box w15 (w.heap.size + 1 + 1 + 1) (.bool tr) (.slice p3 (tdig R).length c3) := (by rw [hw15]; exact (Z4.out.2.2.2.2.2.1).put _ _)
        have M15g : Arg .i64 w15 p4 c4 Q := (by rw [hw15]; exact (Z4.out.2.2.2.2.2.2.1).put (fun g o he hg => by have h1 := hS.out.2.2.2.2.1 g o he; have h2 := H.out.2.2.2.2.2.2.2; omega) _ _)
        have M15h : Arg .i64 w15 p3 c3 R := (by rw [hw15]; exact (Z4.out.2.2.2.2.2.2.2).put (fun g o he hg => by have h1 := hS.out.2.2.2.1 g o he; have h2 := H.out.2.2.2.2.2.2.2; omega) _ _)
        have Z5 := Lib.hid (And.intro M15a (And.intro M15b (And.intro M15c (And.intro M15d (And.intro M15e (And.intro M15f (And.intro M15g M15h)))))))
        clear M15a M15b M15c M15d M15e M15f M15g M15h hw15 Z4
        clear hSSb14
        have hSSb15 := And.intro ((Z5.out.2.2.1).c0) (And.intro ((Z5.out.2.2.1).c1) (And.intro ((Z5.out.2.2.2.1).c0) ((Z5.out.2.2.2.1).c1)))
        refine hK.out _ _ ?_ (fun hHeld => ?_)
        · assumption
        clear hK K
        refine wpAnyH_take (i := 13) (oi := { dst := some 6, op := Op.assign (Operand.const (Value.int IntKind.i64 0)), type := 3, pos := "ref.go:224", after := #[{ on := 12, ground := Ground.chain }, { on := 0, ground := Ground.phase }, { on := 1, ground := Ground.phase }, { on := 2, ground := Ground.phase }, { on := 3, ground := Ground.phase }, { on := 4, ground := Ground.phase }, { on := 5, ground := Ground.phase }, { on := 6, ground := Ground.phase }, { on := 7, ground := Ground.phase }, { on := 8, ground := Ground.phase }, { on := 9, ground := Ground.phase }, { on := 10, ground := Ground.phase }, { on := 11, ground := Ground.phase }, { on := 12, ground := Ground.phase }], guard := none }) (v := ?_) rfl (by kernel_rfl) (by kernel_rfl) (by kernel_rfl) (fun _ _ _ h => h) (Or.inl ⟨by rfl, ?_⟩) (by assumption) ?_
        rotate_left
        · (intro w0 hSw; (try dsimp only at hSw); go_simp; (try with_reducible rfl))
        try simp only [Act.put, List.setIfInBounds_toArray, List.set_cons_zero, List.set_cons_succ]
        refine wpAnyH_done (by kernel_rfl) (NoPanic.normal ?_) _
        clear hSSb15
        have k0 := (Z5.out.2.2.2.2.1).c0
        have k1 := (Z5.out.2.2.2.2.1).c1
        have k2 := (Z5.out.2.2.2.2.2.1).c0
        have k3 := (Z5.out.2.2.2.2.2.1).c1
        go_wp2_with fail
        obtain ⟨e1, e2⟩ := can_val (by decide) H.out.2.2.2.2.2.1.can H.out.2.2.2.2.2.1.val
        obtain ⟨e3, e4⟩ := can_val (by decide) H.out.2.2.2.2.2.2.1.can H.out.2.2.2.2.2.2.1.val
        have hy : y ≠ 0 := by have := HV.out.1; have := HV.out.2; omega
        have hl := hS.out.1.val
        rw [List.drop_zero] at hl
        have hq := quo_nv (s := s1) (t := s2) HV.out.2 ⟨val_nonneg (by decide) hS.out.1.dR, hS.out.1.low⟩ hl (val_nonneg (by decide) hS.out.1.dQ)
        have hx := H.out.2.2.2.2.2.1.val
        have hyv := H.out.2.2.2.2.2.2.1.val
        unfold nv at hx hyv
        rw [← HV.out.1] at hyv
        rw [hx, hyv] at hq
        have hlQ := hS.out.1.len
        have hlR := len_short hS.out.1.dR hS.out.1.tR hS.out.1.low (by rw [HV.out.1]; exact val_lt (by decide) H.out.2.2.2.2.2.2.1.can.dig)
        refine bodyPost_ret (v := .tuple #[.agg #[.bool tq, .slice p4 (tdig Q).length c4], .agg #[.bool tr, .slice p3 (tdig R).length c3], .int .i64 0]) (by simp [results, Tryd.results33, go_sem, k0, k1, k2, k3]) rfl ⟨Or.inr ⟨hy, tq, p4, c4, tdig Q, tr, p3, c3, tdig R, rfl, ⟨(Z5.out.2.2.2.2.2.2.1).take _, ?_, ?_⟩, ⟨(Z5.out.2.2.2.2.2.2.2).take _, ?_, ?_⟩, ?_, ?_⟩, Z5.out.2.1⟩
        · rw [HTq.out]; exact (can_made (by decide) hS.out.1.dQ).1
        · rw [HTq.out]; exact (can_made (by decide) hS.out.1.dQ).2.trans hq.1
        · rw [HTr.out]; exact (can_made (by decide) hS.out.1.dR).1
        · rw [HTr.out]; exact (can_made (by decide) hS.out.1.dR).2.trans hq.2
        · have := tdig_le Q; omega
        · have := tdig_le R; omega
      | succ k =>
        have e6 : ((k + 1 : Nat) : Int) - 1 = k := by omega
        have d1 : decide ((k : Int) ≥ 0) = true := by rw [decide_eq_true_eq]; omega
        have hak := H.out.2.2.2.2.2.1.below hS.out.2.2.2.2.2
        obtain ⟨b, off, rfl, -⟩ := hak.arg.at (by omega)
        have hd := hak.can.dig.getD (by decide) k
        have hRl := len_short hS.out.1.dR hS.out.1.tR hS.out.1.low (by rw [HV.out.1]; exact val_lt (by decide) H.out.2.2.2.2.2.2.1.can.dig)
        obtain ⟨d, hde⟩ : ∃ d, d = l1.getD k 0 := ⟨_, rfl⟩
        rw [← hde] at hd
        have HDE := Lib.hid hde
        have f1 : (k : Int) < (l1.length : Int) := by omega
        clear hde
        rw [e6]
        have G0 := Lib.hid (And.intro (H.out.2.1.below hS.out.2.2.2.2.2) (And.intro hS.out.2.2.2.2.2 (And.intro (H.out.2.1.below hS.out.2.2.2.2.2) (And.intro (H.out.2.2.1.below hS.out.2.2.2.2.2) (And.intro hak (And.intro (H.out.2.2.2.2.2.2.1.below hS.out.2.2.2.2.2) hS.out.2.1))))))
        clear hak
        go_upto_region 7 with fail
        go_cut [7] (fun r wx => ∃ (R1 : List Int) (p5 : Option Addr) (c5 : Nat), r = .slice p5 R1.length c5 ∧ Hid (Dig 10 R1 ∧ Tidy R1 ∧ Bg.val 10 R1 = 10 * Bg.val 10 R + d ∧ Arg .i64 wx p5 c5 R1 ∧ (∀ g o, p5 = some ⟨g, o, none⟩ → W.heap.size ≤ g) ∧ Below wr.heap.size wr wx))
        case first =>
          have BZ := Below.refl wr.heap.size wr
          have B11 : Below wr.heap.size wr wr.drew := (Below.refl _ _).drew
          have BZ := BZ.trans (B11.mono BZ.size)
          have G1 := Lib.hid (And.intro (G0.out.1.below B11) (And.intro (G0.out.2.1.trans (B11.mono G0.out.2.1.size)) (And.intro (G0.out.2.2.1.below B11) (And.intro (G0.out.2.2.2.1.below B11) (And.intro (G0.out.2.2.2.2.1.below B11) (And.intro (G0.out.2.2.2.2.2.1.below B11) (G0.out.2.2.2.2.2.2.below B11)))))))
          clear B11
          have hSS : wr.drew.cell? ⟨w.heap.size, 0, none⟩ = some (.bool s1) ∧ wr.drew.cell? ⟨w.heap.size, 1, none⟩ = some (.slice (some ⟨b, off, none⟩) l1.length c1) ∧ wr.drew.cell? ⟨b, off + k, none⟩ = some (.int .i64 d) := And.intro ((G1.out.2.2.1).c0) (And.intro ((G1.out.2.2.1).c1) ((show wr.drew.cell? ⟨b, off + k, none⟩ = some (.int .i64 d) by rw [HDE.out]; exact (G1.out.2.2.2.2.1).arg.some_at k (by omega))))
          refine wp_region_noPanic ?_
          refine wp_region_held_drew (S := fun w' => w'.cell? ⟨w.heap.size, 0, none⟩ = some (.bool s1) ∧ w'.cell? ⟨w.heap.size, 1, none⟩ = some (.slice (some ⟨b, off, none⟩) l1.length c1) ∧ w'.cell? ⟨b, off + k, none⟩ = some (.int .i64 d)) (by kernel_rfl) hSS (fun hHeld => ?_)
          obtain ⟨wd, hwd⟩ : ∃ wd, wd = wr.drew := ⟨_, rfl⟩
          rw [← hwd] at hSS hHeld G1 BZ ⊢
          clear hwd
          refine wpAnyH_take (i := 0) (oi := { dst := some 26, op := Op.move (Operand.tmp 7), type := 26, pos := "ref.go:214", after := #[], guard := none }) (v := ?_) rfl (by kernel_rfl) (by kernel_rfl) (by kernel_rfl) (fun _ _ _ h => h) (Or.inl ⟨by rfl, ?_⟩) (by assumption) ?_
          rotate_left
          · (intro w0 hSw; (try dsimp only at hSw); go_simp; (try with_reducible rfl))
          try simp only [Act.put, List.setIfInBounds_toArray, List.set_cons_zero, List.set_cons_succ]
          refine wpAnyH_take (i := 2) (oi := { dst := some 28, op := Op.fieldAddr 28 (Operand.tmp 2) 1, type := 0, pos := "ref.go:214", after := #[], guard := none }) (v := ?_) rfl (by kernel_rfl) (by kernel_rfl) (by kernel_rfl) (fun _ _ _ h => h) (Or.inl ⟨by rfl, ?_⟩) (by assumption) ?_
          rotate_left
          · (intro w0 hSw; (try dsimp only at hSw); go_simp; (try with_reducible rfl))
          try simp only [Act.put, List.setIfInBounds_toArray, List.set_cons_zero, List.set_cons_succ]
          refine wpAnyH_take (i := 3) (oi := { dst := some 29, op := Op.load 26 (Operand.tmp 28), type := 26, pos := "ref.go:214", after := #[{ on := 2, ground := Ground.data }], guard := none }) (v := ?_) rfl (by kernel_rfl) (by kernel_rfl) (by kernel_rfl) (fun _ _ _ h => h) (Or.inl ⟨by rfl, ?_⟩) (by assumption) ?_
          rotate_left
          · (intro w0 hSw; (try dsimp only at hSw); go_simp; (try with_reducible rfl))
          try simp only [Act.put, List.setIfInBounds_toArray, List.set_cons_zero, List.set_cons_succ]
          refine wpAnyH_take (i := 4) (oi := { dst := some 30, op := Op.move (Operand.tmp 9), type := 3, pos := "ref.go:214", after := #[], guard := none }) (v := ?_) rfl (by kernel_rfl) (by kernel_rfl) (by kernel_rfl) (fun _ _ _ h => h) (Or.inl ⟨by rfl, ?_⟩) (by assumption) ?_
          rotate_left
          · (intro w0 hSw; (try dsimp only at hSw); go_simp; (try with_reducible rfl))
          try simp only [Act.put, List.setIfInBounds_toArray, List.set_cons_zero, List.set_cons_succ]
          refine wpAnyH_take (i := 5) (oi := { dst := some 31, op := Op.indexAddr 26 (Operand.tmp 29) (Operand.tmp 30), type := 0, pos := "ref.go:214", after := #[{ on := 3, ground := Ground.data }, { on := 4, ground := Ground.data }], guard := none }) (v := ?_) rfl (by kernel_rfl) (by kernel_rfl) (by kernel_rfl) (fun _ _ _ h => h) (Or.inl ⟨by rfl, ?_⟩) (by assumption) ?_
          rotate_left
          · (intro w0 hSw; (try dsimp only at hSw); go_simp; (try with_reducible rfl))
          try simp only [Act.put, List.setIfInBounds_toArray, List.set_cons_zero, List.set_cons_succ]
          refine wpAnyH_take (i := 6) (oi := { dst := some 32, op := Op.load 3 (Operand.tmp 31), type := 3, pos := "ref.go:214", after := #[{ on := 5, ground := Ground.data }], guard := none }) (v := ?_) rfl (by kernel_rfl) (by kernel_rfl) (by kernel_rfl) (fun _ _ _ h => h) (Or.inl ⟨by rfl, ?_⟩) (by assumption) ?_
          rotate_left
          · (intro w0 hSw; (try dsimp only at hSw); go_simp; (try with_reducible rfl))
          try simp only [Act.put, List.setIfInBounds_toArray, List.set_cons_zero, List.set_cons_succ]
          refine wpAnyH_ready (rs := [1, 7]) (by kernel_rfl) (by simp) ?_
          refine AllReadyH.cons rfl (fun K hK => ?_) (AllReadyH.cons rfl (fun K hK => ?_) AllReadyH.nil)
          · go_simp
            go_wp2_with (have hx := G1; go_at_call 58; clear hx; refine (rtimes_at (y := 10) (m0 := 0) G1.out.2.2.2.2.2.2 hS.out.1.dR (by decide) (by decide) (by omega)).mono ?_; rintro e w12 ⟨v12, D12, rfl, o12, d12, l12, e12, B12⟩; obtain ⟨p12, c12, rfl, a12, -⟩ := o12.arg; have PT := Lib.hid (And.intro d12 (And.intro l12 e12)); have BZ := BZ.trans (B12.mono BZ.size); have G2 := Lib.hid (And.intro (G1.out.1.below B12) (And.intro (G1.out.2.1.trans (B12.mono G1.out.2.1.size)) (And.intro (G1.out.2.2.1.below B12) (And.intro (G1.out.2.2.2.1.below B12) (And.intro (G1.out.2.2.2.2.1.below B12) (And.intro (G1.out.2.2.2.2.2.1.below B12) (And.intro (G1.out.2.2.2.2.2.2.below B12) a12))))))); clear o12 d12 l12 e12 a12 B12 G1; clear hSS; have hSSrw12 := And.intro ((G2.out.2.2.1).c0) (And.intro ((G2.out.2.2.1).c1) ((show w12.cell? ⟨b, off + k, none⟩ = some (.int .i64 d) by rw [HDE.out]; exact (G2.out.2.2.2.2.1).arg.some_at k (by omega)))))
            refine hK.out _ _ ?_ (fun hHeld => ?_)
            · assumption
            clear hK K
            refine wpAnyH_ready (rs := [7]) (by kernel_rfl) (by simp) ?_
            refine AllReadyH.cons rfl (fun K hK => ?_) AllReadyH.nil
            go_simp
            obtain ⟨w13, hw13⟩ : ∃ w13, w13 = w12.alloc (.cells #[.int .i64 d] 3) := ⟨_, rfl⟩
            rw [← hw13]
            have B13 : Below w12.heap.size w12 w13 := by rw [hw13]; exact (Below.refl _ _).alloc (Nat.le_refl _) _
            have BZ := BZ.trans (B13.mono BZ.size)
            have N13a := one_arg w12 d hw13
            have G3 := Lib.hid (And.intro (G2.out.1.below B13) (And.intro (G2.out.2.1.trans (B13.mono G2.out.2.1.size)) (And.intro (G2.out.2.2.1.below B13) (And.intro (G2.out.2.2.2.1.below B13) (And.intro (G2.out.2.2.2.2.1.below B13) (And.intro (G2.out.2.2.2.2.2.1.below B13) (And.intro (G2.out.2.2.2.2.2.2.1.below B13) (And.intro (G2.out.2.2.2.2.2.2.2.below B13) N13a))))))))
            clear hw13 B13 N13a G2
            clear hSSrw12
            have hSSa13 := And.intro ((G3.out.2.2.1).c0) (And.intro ((G3.out.2.2.1).c1) ((show w13.cell? ⟨b, off + k, none⟩ = some (.int .i64 d) by rw [HDE.out]; exact (G3.out.2.2.2.2.1).arg.some_at k (by omega))))
            refine hK.out _ _ ?_ (fun hHeld => ?_)
            · assumption
            clear hK K
            refine wpAnyH_ready (rs := [8]) (by kernel_rfl) (by simp) ?_
            refine AllReadyH.cons rfl (fun K hK => ?_) AllReadyH.nil
            go_simp
            go_wp2_with (have hx := G3; go_at_call 55; clear hx; refine (rsum_at G3.out.2.2.2.2.2.2.2.1 G3.out.2.2.2.2.2.2.2.2 PT.out.1 (Dig.one hd) (by have := PT.out.2.1; omega) (by simp)).mono ?_; rintro e w14 ⟨v14, D14, rfl, o14, d14, l14, e14, B14⟩; obtain ⟨p14, c14, rfl, a14, h14⟩ := o14.arg; have PS := Lib.hid (And.intro d14 (And.intro l14 (And.intro e14 (fresh_of h14 (G3.out.2.1).size)))); have BZ := BZ.trans (B14.mono BZ.size); have G4 := Lib.hid (And.intro (G3.out.1.below B14) (And.intro (G3.out.2.1.trans (B14.mono G3.out.2.1.size)) (And.intro (G3.out.2.2.1.below B14) (And.intro (G3.out.2.2.2.1.below B14) (And.intro (G3.out.2.2.2.2.1.below B14) (And.intro (G3.out.2.2.2.2.2.1.below B14) (And.intro (G3.out.2.2.2.2.2.2.1.below B14) (And.intro (G3.out.2.2.2.2.2.2.2.1.below B14) (And.intro (G3.out.2.2.2.2.2.2.2.2.below B14) a14))))))))); clear o14 d14 l14 e14 a14 h14 B14 G3; clear hSSa13; have hSSrw14 := And.intro ((G4.out.2.2.1).c0) (And.intro ((G4.out.2.2.1).c1) ((show w14.cell? ⟨b, off + k, none⟩ = some (.int .i64 d) by rw [HDE.out]; exact (G4.out.2.2.2.2.1).arg.some_at k (by omega)))))
            refine hK.out _ _ ?_ (fun hHeld => ?_)
            · assumption
            clear hK K
            refine wpAnyH_ready (rs := [9]) (by kernel_rfl) (by simp) ?_
            refine AllReadyH.cons rfl (fun K hK => ?_) AllReadyH.nil
            go_simp
            go_wp2_with (have hx := G4; go_at_call 60; clear hx; refine (rtrim_at G4.out.2.2.2.2.2.2.2.2.2).mono ?_; rintro e w99 ⟨rfl, rfl⟩)
            refine hK.out _ _ ?_ (fun hHeld => ?_)
            · assumption
            clear hK K
            refine wpAnyH_take (i := 10) (oi := { dst := some 7, op := Op.assign (Operand.tmp 35), type := 26, pos := "ref.go:214", after := #[{ on := 9, ground := Ground.data }, { on := 9, ground := Ground.chain }, { on := 0, ground := Ground.phase }, { on := 1, ground := Ground.phase }, { on := 2, ground := Ground.phase }, { on := 3, ground := Ground.phase }, { on := 4, ground := Ground.phase }, { on := 5, ground := Ground.phase }, { on := 6, ground := Ground.phase }, { on := 7, ground := Ground.phase }, { on := 8, ground := Ground.phase }, { on := 9, ground := Ground.phase }], guard := none }) (v := ?_) rfl (by kernel_rfl) (by kernel_rfl) (by kernel_rfl) (fun _ _ _ h => h) (Or.inl ⟨by rfl, ?_⟩) (by assumption) ?_
            rotate_left
            · (intro w0 hSw; (try dsimp only at hSw); go_simp; (try with_reducible rfl))
            try simp only [Act.put, List.setIfInBounds_toArray, List.set_cons_zero, List.set_cons_succ]
            refine wpAnyH_done (by kernel_rfl) (NoPanic.normal ?_) _
            clear hSSrw14
            go_wp2_with fail
            go_meet
            have htl : (D14.take (trimN D14 D14.length)).length = trimN D14 D14.length := by rw [List.length_take]; have := trimN_le D14 D14.length; omega
            exact ⟨D14.take (trimN D14 D14.length), p14, c14, by rw [htl], PS.out.1.take _, trim_tidy _ (Nat.le_refl _), by rw [trim_val, List.take_length, PS.out.2.2.1, PT.out.2.2, one_val]; omega, (G4.out.2.2.2.2.2.2.2.2.2).take _, PS.out.2.2.2, BZ⟩
          · go_simp
            obtain ⟨w12, hw12⟩ : ∃ w12, w12 = wd.alloc (.cells #[.int .i64 d] 3) := ⟨_, rfl⟩
            rw [← hw12]
            have B12 : Below wd.heap.size wd w12 := by rw [hw12]; exact (Below.refl _ _).alloc (Nat.le_refl _) _
            have BZ := BZ.trans (B12.mono BZ.size)
            have N12a := one_arg wd d hw12
            have G2 := Lib.hid (And.intro (G1.out.1.below B12) (And.intro (G1.out.2.1.trans (B12.mono G1.out.2.1.size)) (And.intro (G1.out.2.2.1.below B12) (And.intro (G1.out.2.2.2.1.below B12) (And.intro (G1.out.2.2.2.2.1.below B12) (And.intro (G1.out.2.2.2.2.2.1.below B12) (And.intro (G1.out.2.2.2.2.2.2.below B12) N12a)))))))
            clear hw12 B12 N12a G1
            clear hSS
            have hSSa12 := And.intro ((G2.out.2.2.1).c0) (And.intro ((G2.out.2.2.1).c1) ((show w12.cell? ⟨b, off + k, none⟩ = some (.int .i64 d) by rw [HDE.out]; exact (G2.out.2.2.2.2.1).arg.some_at k (by omega))))
            refine hK.out _ _ ?_ (fun hHeld => ?_)
            · assumption
            clear hK K
            refine wpAnyH_ready (rs := [1]) (by kernel_rfl) (by simp) ?_
            refine AllReadyH.cons rfl (fun K hK => ?_) AllReadyH.nil
            go_simp
            go_wp2_with (have hx := G2; go_at_call 58; clear hx; refine (rtimes_at (y := 10) (m0 := 0) G2.out.2.2.2.2.2.2.1 hS.out.1.dR (by decide) (by decide) (by omega)).mono ?_; rintro e w13 ⟨v13, D13, rfl, o13, d13, l13, e13, B13⟩; obtain ⟨p13, c13, rfl, a13, -⟩ := o13.arg; have PT := Lib.hid (And.intro d13 (And.intro l13 e13)); have BZ := BZ.trans (B13.mono BZ.size); have G3 := Lib.hid (And.intro (G2.out.1.below B13) (And.intro (G2.out.2.1.trans (B13.mono G2.out.2.1.size)) (And.intro (G2.out.2.2.1.below B13) (And.intro (G2.out.2.2.2.1.below B13) (And.intro (G2.out.2.2.2.2.1.below B13) (And.intro (G2.out.2.2.2.2.2.1.below B13) (And.intro (G2.out.2.2.2.2.2.2.1.below B13) (And.intro (G2.out.2.2.2.2.2.2.2.below B13) a13)))))))); clear o13 d13 l13 e13 a13 B13 G2; clear hSSa12; have hSSrw13 := And.intro ((G3.out.2.2.1).c0) (And.intro ((G3.out.2.2.1).c1) ((show w13.cell? ⟨b, off + k, none⟩ = some (.int .i64 d) by rw [HDE.out]; exact (G3.out.2.2.2.2.1).arg.some_at k (by omega)))))
            refine hK.out _ _ ?_ (fun hHeld => ?_)
            · assumption
            clear hK K
            refine wpAnyH_ready (rs := [8]) (by kernel_rfl) (by simp) ?_
            refine AllReadyH.cons rfl (fun K hK => ?_) AllReadyH.nil
            go_simp
            go_wp2_with (have hx := G3; go_at_call 55; clear hx; refine (rsum_at G3.out.2.2.2.2.2.2.2.2 G3.out.2.2.2.2.2.2.2.1 PT.out.1 (Dig.one hd) (by have := PT.out.2.1; omega) (by simp)).mono ?_; rintro e w14 ⟨v14, D14, rfl, o14, d14, l14, e14, B14⟩; obtain ⟨p14, c14, rfl, a14, h14⟩ := o14.arg; have PS := Lib.hid (And.intro d14 (And.intro l14 (And.intro e14 (fresh_of h14 (G3.out.2.1).size)))); have BZ := BZ.trans (B14.mono BZ.size); have G4 := Lib.hid (And.intro (G3.out.1.below B14) (And.intro (G3.out.2.1.trans (B14.mono G3.out.2.1.size)) (And.intro (G3.out.2.2.1.below B14) (And.intro (G3.out.2.2.2.1.below B14) (And.intro (G3.out.2.2.2.2.1.below B14) (And.intro (G3.out.2.2.2.2.2.1.below B14) (And.intro (G3.out.2.2.2.2.2.2.1.below B14) (And.intro (G3.out.2.2.2.2.2.2.2.1.below B14) (And.intro (G3.out.2.2.2.2.2.2.2.2.below B14) a14))))))))); clear o14 d14 l14 e14 a14 h14 B14 G3; clear hSSrw13; have hSSrw14 := And.intro ((G4.out.2.2.1).c0) (And.intro ((G4.out.2.2.1).c1) ((show w14.cell? ⟨b, off + k, none⟩ = some (.int .i64 d) by rw [HDE.out]; exact (G4.out.2.2.2.2.1).arg.some_at k (by omega)))))
            refine hK.out _ _ ?_ (fun hHeld => ?_)
            · assumption
            clear hK K
            refine wpAnyH_ready (rs := [9]) (by kernel_rfl) (by simp) ?_
            refine AllReadyH.cons rfl (fun K hK => ?_) AllReadyH.nil
            go_simp
            go_wp2_with (have hx := G4; go_at_call 60; clear hx; refine (rtrim_at G4.out.2.2.2.2.2.2.2.2.2).mono ?_; rintro e w99 ⟨rfl, rfl⟩)
            refine hK.out _ _ ?_ (fun hHeld => ?_)
            · assumption
            clear hK K
            refine wpAnyH_take (i := 10) (oi := { dst := some 7, op := Op.assign (Operand.tmp 35), type := 26, pos := "ref.go:214", after := #[{ on := 9, ground := Ground.data }, { on := 9, ground := Ground.chain }, { on := 0, ground := Ground.phase }, { on := 1, ground := Ground.phase }, { on := 2, ground := Ground.phase }, { on := 3, ground := Ground.phase }, { on := 4, ground := Ground.phase }, { on := 5, ground := Ground.phase }, { on := 6, ground := Ground.phase }, { on := 7, ground := Ground.phase }, { on := 8, ground := Ground.phase }, { on := 9, ground := Ground.phase }], guard := none }) (v := ?_) rfl (by kernel_rfl) (by kernel_rfl) (by kernel_rfl) (fun _ _ _ h => h) (Or.inl ⟨by rfl, ?_⟩) (by assumption) ?_
            rotate_left
            · (intro w0 hSw; (try dsimp only at hSw); go_simp; (try with_reducible rfl))
            try simp only [Act.put, List.setIfInBounds_toArray, List.set_cons_zero, List.set_cons_succ]
            refine wpAnyH_done (by kernel_rfl) (NoPanic.normal ?_) _
            clear hSSrw14
            go_wp2_with fail
            go_meet
            have htl : (D14.take (trimN D14 D14.length)).length = trimN D14 D14.length := by rw [List.length_take]; have := trimN_le D14 D14.length; omega
            exact ⟨D14.take (trimN D14 D14.length), p14, c14, by rw [htl], PS.out.1.take _, trim_tidy _ (Nat.le_refl _), by rw [trim_val, List.take_length, PS.out.2.2.1, PT.out.2.2, one_val]; omega, (G4.out.2.2.2.2.2.2.2.2.2).take _, PS.out.2.2.2, BZ⟩
        case rest =>
          obtain ⟨R1, p5, c5, rfl, hT⟩ := hcut
          have hbw := hS.out.2.2.2.2.2.trans (hT.out.2.2.2.2.2.mono hS.out.2.2.2.2.2.size)
          have hqw := hS.out.2.2.1.below hT.out.2.2.2.2.2
          obtain ⟨w3, hw3⟩ : ∃ w3, w3 = wc := ⟨_, rfl⟩
          rw [← hw3] at hT hbw hqw ⊢
          clear hw3
          have HW := Lib.hid (And.intro hbw hqw)
          clear hbw hqw
          go_wp2_with fail
          go_loopw [7, 10] (fun r n wx => ∃ (i : Nat) (R2 : List Int) (p6 : Option Addr) (c6 : Nat), n = .int .i64 i ∧ r = .slice p6 R2.length c6 ∧ i ≤ 9 ∧ Hid (Dig 10 R2 ∧ Tidy R2 ∧ Bg.val 10 R2 + i * v = 10 * Bg.val 10 R + d ∧ Arg .i64 wx p6 c6 R2 ∧ (∀ g o, p6 = some ⟨g, o, none⟩ → W.heap.size ≤ g) ∧ Below w3.heap.size w3 wx)) (fun _ n _ => (10 - intOf n).toNat)
          case atStart => exact ⟨0, R1, p5, c5, rfl, rfl, by omega, hT.out.1, hT.out.2.1, by rw [hT.out.2.2.1]; simp, hT.out.2.2.2.1, hT.out.2.2.2.2.1, Below.refl _ _⟩
          case round =>
            obtain ⟨i, R2, p6, c6, rfl, rfl, hi, hU⟩ := hrel
            have hb6 := HW.out.1.trans (hU.out.2.2.2.2.2.mono HW.out.1.size)
            have y2 := H.out.2.2.1.below hb6
            have bk := H.out.2.2.2.2.2.2.1.below hb6
            have z0 := y2.c0
            have z1 := y2.c1
            have T := Lib.hid (rorder_at hU.out.2.2.2.1 bk.arg hU.out.1 bk.can.dig hU.out.2.1 bk.can.tidy)
            have H6 := Lib.hid (And.intro hb6 (And.intro y2 bk))
            clear hb6 y2 bk
            go_wp2_with fail
            refine T.out.mono ?_
            rintro e w7 ⟨rfl, B7⟩
            obtain ⟨gg, hgg⟩ : ∃ gg, gg = sgn (Bg.val 10 R2) (Bg.val 10 l2) := ⟨_, rfl⟩
            rw [← hgg]
            have g1 := sgn_ge (Bg.val 10 R2) (Bg.val 10 l2)
            rw [← hgg, ← HV.out.1] at g1
            have a7 := hU.out.2.2.2.1.below B7
            have y7 := H6.out.2.1.below B7
            have b7 := H6.out.2.2.below B7
            have hb7 := hU.out.2.2.2.2.2.trans (B7.mono hU.out.2.2.2.2.2.size)
            clear hgg z0 z1
            by_cases hle : v ≤ Bg.val 10 R2
            · rw [decide_eq_true hle] at g1
              have hln := len_of (fun h => val_shorter (B := 10) (by decide) hU.out.1 b7.can.dig b7.can.tidy (l := R2) (m := l2) h) (by rw [← HV.out.1]; exact hle)
              have hR2 : R2.length ≤ 1000000 := by
                have h1 := hU.out.2.2.1
                have h2 := hS.out.1.low
                have h3 := val_lt (show (0 : Int) < 10 by decide) b7.can.dig
                rw [← HV.out.1] at h3
                have h5 := Int.mul_nonneg (show (0 : Int) ≤ i by omega) (Int.le_of_lt HV.out.2)
                have h4 := len_short (n := l2.length + 2) hU.out.1 hU.out.2.1 (v := 100 * v) (by omega) (hundred h3)
                omega
              have z0 := y7.c0
              have z1 := y7.c1
              have T2 := Lib.hid (rless_at a7 b7.arg hU.out.1 b7.can.dig (by omega) hln (by rw [← HV.out.1]; exact hle))
              have H7 := Lib.hid (And.intro hb7 (And.intro y7 hle))
              clear a7 y7 b7 hb7 hln hR2 B7 hle
              go_wp2_with fail
              refine T2.out.mono ?_
              rintro e w8 ⟨v8, R3, rfl, o8, d8, t8, l8, e8, B8⟩
              obtain ⟨p8, c8, rfl, a8, h8⟩ := o8.arg
              have hfr := fresh_of h8 (show W.heap.size ≤ w7.heap.size from Nat.le_trans (HW.out.1.size) H7.out.1.size)
              rw [← HV.out.1] at e8
              have hi8 : i + 1 ≤ 9 := by
                have h1 := hU.out.2.2.1
                have h2 := hS.out.1.low
                have h3 := H7.out.2.2
                have h0 := val_nonneg (show (0 : Int) ≤ 10 by decide) d8
                rcases Nat.lt_or_ge i 9 with h | h
                · exact h
                · exfalso
                  have : (9 : Int) * v ≤ i * v := Int.mul_le_mul_of_nonneg_right (by omega) (Int.le_of_lt HV.out.2)
                  omega
              have H8 := Lib.hid (And.intro d8 (And.intro t8 (And.intro (show Bg.val 10 R3 + ((i + 1 : Nat) : Int) * v = 10 * Bg.val 10 R + d by rw [e8, show ((i + 1 : Nat) : Int) = (i : Int) + 1 from rfl, Int.add_mul, Int.one_mul]; have := hU.out.2.2.1; omega) (And.intro a8 (And.intro hfr (H7.out.1.trans (B8.mono H7.out.1.size)))))))
              clear o8 d8 t8 l8 e8 a8 h8 hfr B8 z0 z1
              go_wp2_with fail
              go_roundw
              case rel => exact ⟨i + 1, R3, p8, c8, by go_num, rfl, hi8, H8.out.1, H8.out.2.1, H8.out.2.2.1, H8.out.2.2.2.1, H8.out.2.2.2.2.1, H8.out.2.2.2.2.2⟩
              case measure => simp [intOf]; omega
            · rw [decide_eq_false hle] at g1
              obtain ⟨v9, w9, hr9, ho9, hb9⟩ := app_two ktI (x := (i : Int)) (Own.nil 3 .i64 w7.heap.size w7) (by simp) (Nat.le_refl _)
              have aq := ((HW.out.2.below hU.out.2.2.2.2.2).below B7).below hb9
              have hQl := hS.out.1.len
              obtain ⟨v10, w10, hr10, ho10, -, hb10⟩ := app_row ktI ho9 aq (by simp; omega) hb9.size
              have hb79 : Below w7.heap.size w7 w10 := hb9.trans hb10
              have a10 := a7.below hb79
              obtain ⟨p10, c10, rfl, b10, h10⟩ := ho10.arg
              have hfr := fresh_of h10 (show W.heap.size ≤ w7.heap.size from Nat.le_trans (HW.out.1.size) hb7.size)
              have hnx := hS.out.1.next (k := k) (R2 := R2) (i := i) (by omega) hU.out.1 hU.out.2.1 (by omega) hi (by rw [← HDE.out]; exact hU.out.2.2.1)
              have hbW := HW.out.1.trans ((hb7.trans (hb79.mono hb7.size)).mono HW.out.1.size)
              have HX := Lib.hid (And.intro hr9 (And.intro hr10 (And.intro hnx (And.intro a10 (And.intro b10 (And.intro hfr hbW))))))
              clear hr9 ho9 hb9 aq hr10 ho10 hb10 hb79 a10 b10 h10 hfr hnx hbW a7 y7 b7 hb7 B7 hle hQl
              go_wp2_with (first
                | (at_builtin; refine Lib.wpList_append_run _ rfl _ _ 26 26 rfl (.slice none 0 0) (.slice (some ⟨w7.heap.size, 0, none⟩) 1 1) rfl rfl v9 w9 HX.out.1 ?_)
                | (at_builtin; refine Lib.wpList_append_run _ rfl _ _ 26 26 rfl v9 (.slice p4 Q.length c4) rfl rfl _ w10 HX.out.2.1 ?_))
              go_roundw
              case rel => exact ⟨k, R2, (i : Int) :: Q, p6, p10, c6, c10, rfl, by omega, rfl, rfl, HX.out.2.2.1, HX.out.2.2.2.1, HX.out.2.2.2.2.1, hU.out.2.2.2.2.1, HX.out.2.2.2.2.2.1, HX.out.2.2.2.2.2.2⟩
              case measure => simp [intOf]
end Go.Proofs.YtihgefllmkicaaaDoor
