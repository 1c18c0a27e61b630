/- Contracts: the lexer's small methods. Conditions: none. -/
import Derived.Test.YtgnnkfdpfmlajaaDoorLxT
namespace Go.Proofs.YtgnnkfdpfmlajaaDoor
open Go.RowKit Bg Lx
set_option linter.unusedVariables false
set_option linter.unusedSimpArgs false


/-- What a method comes to: it goes on at a place with these tokens, or there is a fault. -/
inductive Rs where
  | go (k : Nat) (ts : List Tk)
  | no (x y : Int)
def Fin (s : Sit) (w : World) (r : Rs) (e : Ending) (w' : World) : Prop := Kp w w' ∧ Below s.w0.heap.size s.w0 w' ∧ (match r with
  | .go k ts => e = .returned (.agg #[.int .i64 0, .int .i64 0]) ∧ St s k ts w'
  | .no x y => e = .returned (.agg #[.int .i64 x, .int .i64 y]) ∧ x ≠ 0)
theorem form_at (a : Int) (w : World) : Calls Tryd.prog 44 #[.int .i64 a] w fun e w' => e = .returned (.agg #[.int .i64 4, .int .i64 a]) ∧ Below w.heap.size w w' := by
  go_enter Tryd.func44, Tryd.ntmps44
  go_wp2_with fail
  refine bodyPost_ret (v := .agg #[.int .i64 4, .int .i64 a]) (by simp [results, Tryd.results44, go_sem]) rfl ⟨rfl, ?_⟩
  exact (Below.refl _ _).alloc (Nat.le_refl _) _
/-- A method's result, not set yet. -/
def Rt (w : World) (R : Nat) : Prop := w.heap[R]? = some (.cells #[.int .i64 0, .int .i64 0] 27)
theorem rt_new (w : World) : Rt (w.alloc (.cells #[.int .i64 0, .int .i64 0] 27)) w.heap.size := heap_new w _
theorem Rt.kp {w w' : World} {R : Nat} (h : Rt w R) (k : Kp w w') : Rt w' R := k.keep R _ h (fun cs fr e => by cases e) (fun cs fr e => by cases e)
theorem Rt.below {w w' : World} {R : Nat} (h : Rt w R) (k : Below w.heap.size w w') : Rt w' R := h.kp (Kp.of_below k)
theorem Rt.facts {w : World} {R : Nat} (h : Rt w R) : w.cell? ⟨R, 0, none⟩ = some (.int .i64 0) ∧ w.cell? ⟨R, 1, none⟩ = some (.int .i64 0) ∧ w.frozen? ⟨R, 0, none⟩ = false ∧ w.frozen? ⟨R, 1, none⟩ = false ∧ R < w.heap.size := ⟨blk_cell h 0, blk_cell h 1, blk_free h 0, blk_free h 1, lt_block h⟩
theorem ret_two {w : World} {R : Nat} (h : Rt w R) (x y : Int) : ((w.setCell ⟨R, 0, none⟩ (.int .i64 x)).setCell ⟨R, 1, none⟩ (.int .i64 y)).cell? ⟨R, 0, none⟩ = some (.int .i64 x) ∧ ((w.setCell ⟨R, 0, none⟩ (.int .i64 x)).setCell ⟨R, 1, none⟩ (.int .i64 y)).cell? ⟨R, 1, none⟩ = some (.int .i64 y) := by
  have h1 := blk_set (x := .int .i64 x) h (show 0 < 2 by decide)
  have h2 := blk_set (x := .int .i64 y) h1 (show 1 < 2 by decide)
  exact ⟨blk_cell h2 0, blk_cell h2 1⟩
theorem set_size (w : World) (a : Addr) (x : Value) : (w.setCell a x).heap.size = w.heap.size := by
  show (w.heap.modify _ _).size = _
  simp
theorem ret_kp {w w1 : World} {R : Nat} (h : Kp w w1) (hR : w.heap.size ≤ R) (x y : Value) : Kp w ((w1.setCell ⟨R, 0, none⟩ x).setCell ⟨R, 1, none⟩ y) := by
  refine ⟨Nat.le_trans h.size (by rw [set_size, set_size]; exact Nat.le_refl _), fun i o h1 h2 h3 => ?_⟩
  have hi := lt_block h1
  rw [blk_other (by omega), blk_other (by omega)]
  exact h.keep i o h1 h2 h3
theorem ret_below {B : Nat} {w w1 : World} {R : Nat} (h : Below B w w1) (hR : B ≤ R) (x y : Value) : Below B w ((w1.setCell ⟨R, 0, none⟩ x).setCell ⟨R, 1, none⟩ y) := (h.setCell hR _).setCell hR _
theorem ret_st {s : Sit} {k : Nat} {ts : List Tk} {w1 : World} {R : Nat} (h : St s k ts w1) (hr : Rt w1 R) (h0 : s.w0.heap.size ≤ R) (x y : Value) : St s k ts ((w1.setCell ⟨R, 0, none⟩ x).setCell ⟨R, 1, none⟩ y) := by
  have h1 := h.side hr (by decide) (by decide) h0 0 x
  have h2 := blk_set (x := x) hr (show 0 < 2 by decide)
  exact h1.side h2 (by decide) (by decide) h0 1 y
theorem fin_go {s : Sit} {w w1 wz : World} {R k : Nat} {ts : List Tk} (hz : wz = (w1.setCell ⟨R, 0, none⟩ (.int .i64 0)).setCell ⟨R, 1, none⟩ (.int .i64 0)) (hr : Rt w1 R) (hR : w.heap.size ≤ R) (h0 : s.w0.heap.size ≤ R) (hk : Kp w w1) (h : St s k ts w1) : Fin s w (.go k ts) (.returned (.agg #[.int .i64 0, .int .i64 0])) wz := by
  subst hz
  exact ⟨ret_kp hk hR _ _, ret_below h.fr h0 _ _, rfl, ret_st h hr h0 _ _⟩
theorem fin_no {s : Sit} {w w1 wz : World} {R : Nat} {x y : Int} (hz : wz = (w1.setCell ⟨R, 0, none⟩ (.int .i64 x)).setCell ⟨R, 1, none⟩ (.int .i64 y)) (hR : w.heap.size ≤ R) (h0 : s.w0.heap.size ≤ R) (hk : Kp w w1) (h : Below s.w0.heap.size s.w0 w1) (hx : x ≠ 0) : Fin s w (.no x y) (.returned (.agg #[.int .i64 x, .int .i64 y])) wz := by
  subst hz
  exact ⟨ret_kp hk hR _ _, ret_below h h0 _ _, rfl, hx⟩
/-- The fault of a byte that is no delimiter, where one must stand. -/
def dl (l : List Int) (k : Nat) : Bool := decide (k < l.length) && !(delimB (l.getD k 0))
def dlV (l : List Int) (k : Nat) : Value := if dl l k = true then .agg #[.int .i64 4, .int .i64 k] else .agg #[.int .i64 0, .int .i64 0]
theorem pdelimited_at {s : Sit} {k0 : Nat} {ts : List Tk} {w : World} (h : St s k0 ts w) (k : Nat) (hk : k ≤ s.l.length) :
    Calls Tryd.prog 56 #[.pointer (some ⟨s.b, 0, none⟩), .int .i64 (k : Int)] w fun e w' => e = .returned (dlV s.l k) ∧ Below w.heap.size w w' := by
  have c0 := h.cell.1
  have hlen := h.len
  have hsz := h.blt
  unfold dlV
  by_cases hlt : k < s.l.length
  · obtain ⟨b, off, hp, hcell⟩ := h.src.at (by omega)
    have hg := hcell k hlt
    have hgb := World.block_lt_of_cell? w _ hg
    have hx := h.byts.getD k
    obtain ⟨x, hxe⟩ : ∃ x, x = s.l.getD k 0 := ⟨_, rfl⟩
    have e : dl s.l k = !(delimB x) := by unfold dl; rw [decide_eq_true hlt, ← hxe]; rfl
    rw [e]
    rw [← hxe] at hg hx
    have T := fun w => pdelim_at x hx w
    rw [hp] at c0
    have g1 : (k : Int) < (s.l.length : Int) := by omega
    have d1 : decide ((k : Int) < (s.l.length : Int)) = true := by rw [decide_eq_true_eq]; omega
    have T2 := Lib.hid fun w => form_at k w
    obtain ⟨L, hL⟩ : ∃ L, L = s.l.length := ⟨_, rfl⟩
    rw [← hL] at c0 hlen hlt g1 d1
    obtain ⟨B, hB⟩ : ∃ B, B = s.b := ⟨_, rfl⟩
    rw [← hB] at c0 hsz ⊢
    clear hL hk hcell hp hxe e h hB
    cases hD : delimB x with
    | true =>
      rw [hD] at T
      replace T := Lib.hid T
      clear hD T2
      rw [if_neg (by decide)]
      go_enter Tryd.func56, Tryd.ntmps56
      go_wp2_with (first | (go_at_call 63; refine (T.out _).mono ?_; rintro e w' ⟨rfl, rfl⟩))
      refine bodyPost_ret (v := .agg #[.int .i64 0, .int .i64 0]) (by simp [results, Tryd.results56, go_sem]) rfl ⟨rfl, ?_⟩
      exact (Below.refl _ _).alloc (Nat.le_refl _) _
    | false =>
      rw [hD] at T
      replace T := Lib.hid T
      clear hD
      rw [if_pos (by decide)]
      have hr := rt_new w
      have hba : Below w.heap.size w (w.alloc (.cells #[.int .i64 0, .int .i64 0] 27)) := (Below.refl _ _).alloc (Nat.le_refl _) _
      have hs1 : (w.alloc (.cells #[.int .i64 0, .int .i64 0] 27)).heap.size = w.heap.size + 1 := by simp
      have HR := Lib.hid (And.intro hr (And.intro hba hs1))
      clear hr hba hs1
      go_enter Tryd.func56, Tryd.ntmps56
      go_wp2_with (first | (go_at_call 63; refine (T.out _).mono ?_; rintro e w' ⟨rfl, rfl⟩))
      refine (T2.out _).mono ?_
      rintro e w1 ⟨rfl, hb⟩
      have hr1 := HR.out.1.below hb
      have rt := Lib.hid hr1
      obtain ⟨r0, r1, q0, q1, hr2⟩ := hr1.facts
      have HB := Lib.hid (HR.out.2.1.trans (hb.mono HR.out.2.1.size))
      clear hb hr1
      go_wp2_with fail
      obtain ⟨wz, hwz⟩ : ∃ wz, wz = (w1.setCell ⟨w.heap.size, 0, none⟩ (.int .i64 (4))).setCell ⟨w.heap.size, 1, none⟩ (.int .i64 (k)) := ⟨_, rfl⟩
      have z := ret_two rt.out (4) (k)
      rw [← hwz] at z
      try rw [← hwz]
      refine bodyPost_ret (v := (.agg #[.int .i64 (4), .int .i64 (k)])) (by simp [results, Tryd.results56, go_sem, z.1, z.2]) rfl ?_
      rw [hwz]
      exact ⟨rfl, ret_below HB.out (Nat.le_refl _) _ _⟩
  · have e : dl s.l k = false := by unfold dl; rw [decide_eq_false hlt]; rfl
    rw [e, if_neg (by decide)]
    have g1 : ¬ (k : Int) < (s.l.length : Int) := by omega
    have d1 : decide ((k : Int) < (s.l.length : Int)) = false := by rw [decide_eq_false_iff_not]; omega
    obtain ⟨L, hL⟩ : ∃ L, L = s.l.length := ⟨_, rfl⟩
    rw [← hL] at c0 hlen hlt g1 d1
    obtain ⟨B, hB⟩ : ∃ B, B = s.b := ⟨_, rfl⟩
    rw [← hB] at c0 hsz ⊢
    clear hL hk e h hB
    go_enter Tryd.func56, Tryd.ntmps56
    go_wp2_with fail
    refine bodyPost_ret (v := .agg #[.int .i64 0, .int .i64 0]) (by simp [results, Tryd.results56, go_sem]) rfl ⟨rfl, ?_⟩
    exact (Below.refl _ _).alloc (Nat.le_refl _) _
end Go.Proofs.YtgnnkfdpfmlajaaDoor
