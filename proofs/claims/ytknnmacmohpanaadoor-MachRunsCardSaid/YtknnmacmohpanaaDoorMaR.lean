/- Contracts: a word; Put; Out; a machine that is refused. Conditions: the machine lies as told. -/
import Derived.Test.YtknnmacmohpanaaDoorMaM
import Derived.Test.YtknnmacmohpanaaDoorMaQ
import Derived.Test.YtknnmacmohpanaaDoorIsaWd
namespace Go.Proofs.YtknnmacmohpanaaDoor
open Go.RowKit

theorem encode_any (op d a b imm : Int) (w : World) (h : Env w) (ho : Isa.ok op d a b imm = true) :
    Calls Tryd.prog 50 #[.agg #[.int .i64 op, .int .i64 d, .int .i64 a, .int .i64 b, .int .i64 imm]] w fun e w' => e = .returned (.tuple #[.int .u32 (Isa.word op d a b imm), .int .i64 0]) ∧ Below w.heap.size w w' := by
  have hs := Isa.shapes_of (Isa.form op)
  cases e0 : Isa.shape (Isa.form op) 0 <;> cases e1 : Isa.shape (Isa.form op) 1 <;> cases e2 : Isa.shape (Isa.form op) 2
  · exfalso
    have hn := (Isa.ok_parts ho).1
    have hl := Isa.form_le op
    generalize Isa.form op = f at *
    match f, hl with
    | 0, _ => exact hn rfl
    | 1, _ => cases e0
    | 2, _ => cases e0
    | 3, _ => cases e0
    | 4, _ => cases e1
    | 5, _ => cases e0
    | 6, _ => cases e0
    | 7, _ => cases e1
  · rw [e0, e1, e2] at hs; exact absurd hs (by decide)
  · exact encode_ftf op d a b imm w h ho e0 e1 e2
  · exact encode_ftt op d a b imm w h ho e0 e1 e2
  · exact encode_tff op d a b imm w h ho e0 e1 e2
  · rw [e0, e1, e2] at hs; exact absurd hs (by decide)
  · exact encode_ttf op d a b imm w h ho e0 e1 e2
  · exact encode_ttt op d a b imm w h ho e0 e1 e2

set_option maxRecDepth 100000 in
set_option maxHeartbeats 1000000 in
theorem word_any (op d a b imm v : Int) (w : World) (h : Env w) (ho : Isa.ok op d a b imm = true) (hv : Isa.word op d a b imm = v) :
    Calls Tryd.prog 28 #[.agg #[.int .i64 op, .int .i64 d, .int .i64 a, .int .i64 b, .int .i64 imm]] w fun e w' => e = .returned (.int .u32 v) ∧ Below w.heap.size w w' := by
  subst hv
  have HO := Lib.hid ho
  clear ho
  go_enter Tryd.func28, Tryd.ntmps28
  go_wp2_with fail
  refine (encode_any _ _ _ _ _ _ (h.alloc _) HO.out).mono ?_
  rintro e w1 ⟨rfl, hb⟩
  have H1 := Lib.hid (((Below.refl w.heap.size w).alloc (Nat.le_refl _) (.cells #[.int .i64 op, .int .i64 d, .int .i64 a, .int .i64 b, .int .i64 imm] 55)).trans (hb.mono (by simp)))
  clear hb
  go_wp2_with fail
  go_ret
  exact ⟨rfl, H1.out⟩

set_option maxRecDepth 100000 in
set_option maxHeartbeats 1000000 in
theorem out_at {base : Nat} {w : World} {l : Lay} {m : MS} (h : MRep base w l m) (ho : m.out.length ≤ 1000000) :
    Calls Tryd.prog 21 #[.pointer (some ⟨l.M, 0, none⟩)] w fun e w' => ∃ v, e = .returned v ∧ w'.ownsRow w.heap.size 5 1 v m.out.length (byL m.out) ∧ Below w.heap.size w w' := by
  have c0 := h.c0
  have c41 := h.c41
  have HH := Lib.hid (And.intro h ho)
  clear h ho
  go_enter Tryd.func21, Tryd.ntmps21
  go_wp2_with (first
    | (go_at_call 35; refine (made_at _ _ c0).mono ?_; rintro e w' ⟨rfl, rfl⟩)
    | fail)
  refine (clone_at _ _ w HH.out.2 (own_read HH.out.1.out)).mono ?_
  rintro e w9 ⟨vo, rfl, hOo, hb89⟩
  obtain ⟨ao, ko, co, rfl⟩ : ∃ a k c, vo = .slice a k c := by rcases hOo.2 with ⟨h, -⟩ | ⟨g, cap, cur, h, -⟩ <;> exact ⟨_, _, _, h⟩
  have H9 := Lib.hid (And.intro hOo hb89)
  clear hOo hb89
  go_wp2_with fail
  go_ret
  exact ⟨_, rfl, H9.out.1, H9.out.2⟩

set_option maxRecDepth 100000 in
set_option maxHeartbeats 1000000 in
theorem new_bad (p : Option Addr) (k c : Nat) (n : Int) (vb : Value) (w : World) (hn : n < 1 ∨ 335544320 < n ∨ n < k) :
    Calls Tryd.prog 27 #[.slice p k c, .int .i64 n, vb] w fun e w' => e = .returned (.tuple #[.pointer none, .int .i64 2]) ∧ w = w' := by
  go_enter Tryd.func27, Tryd.ntmps27
  by_cases h1 : n < 1
  · have d1 : decide (n < 1) = true := by simpa using h1
    clear hn h1
    go_wp2_with fail
    go_ret2
    exact ⟨rfl, rfl⟩
  · have d1 : decide (n < 1) = false := by simpa using h1
    by_cases h2 : 335544320 < n
    · have d2 : decide (335544320 < n) = true := by simpa using h2
      clear hn h1 h2
      go_wp2_with fail
      go_ret2
      exact ⟨rfl, rfl⟩
    · have d2 : decide (335544320 < n) = false := by simpa using h2
      have d3 : decide (n < (k : Int)) = true := by simp; omega
      clear hn h1 h2
      go_wp2_with fail
      go_ret2
      exact ⟨rfl, rfl⟩
end Go.Proofs.YtknnmacmohpanaaDoor
