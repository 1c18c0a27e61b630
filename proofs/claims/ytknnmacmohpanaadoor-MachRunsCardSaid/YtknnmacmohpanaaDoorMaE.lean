/- Contracts: what the machine's getters answer. Conditions: the machine lies as told. -/
import Derived.Test.YtknnmacmohpanaaDoorMaD
import Derived.Lib.SliceRun
namespace Go.Proofs.YtknnmacmohpanaaDoor
open Go.RowKit

theorem isReg_val (i : Int) (b : Bool) (w : World) (hb : decide (0 ≤ i ∧ i < 32) = b) : Calls Tryd.prog 39 #[.int .i64 i] w fun e w' => e = .returned (.bool b) ∧ w = w' := by rw [← hb]; exact isReg_any i w
theorem isAddr_val (M size : Nat) (at' : Int) (b : Bool) (w : World) (hs : size ≤ 1024) (c33 : w.cell? ⟨M, 33, none⟩ = some (.int .u32 size)) (hb : decide (0 ≤ at' ∧ at' < size) = b) : Calls Tryd.prog 37 #[.pointer (some ⟨M, 0, none⟩), .int .i64 at'] w fun e w' => e = .returned (.bool b) ∧ w = w' := by rw [← hb]; exact isAddr_any M size at' w hs c33

set_option maxRecDepth 100000 in
set_option maxHeartbeats 1000000 in
theorem reg_in (M i : Nat) (v : Int) (w : World) (hi : i < 32) (c0 : w.cell? ⟨M, 0, none⟩ = some (.pointer (some ⟨M, 0, none⟩))) (cr : w.cell? ⟨M, 1 + i, none⟩ = some (.int .u32 v)) :
    Calls Tryd.prog 23 #[.pointer (some ⟨M, 0, none⟩), .int .i64 i] w fun e w' => e = .returned (.int .u32 v) ∧ w = w' := by
  have hb : decide (0 ≤ (i : Int) ∧ (i : Int) < 32) = true := by simp; omega
  have HB := Lib.hid hb
  clear hb
  go_enter Tryd.func23, Tryd.ntmps23
  go_wp2_with (first
    | (go_at_call 35; refine (made_at _ _ c0).mono ?_; rintro e w' ⟨rfl, rfl⟩)
    | (go_at_call 39; refine (isReg_val _ _ _ HB.out).mono ?_; rintro e w' ⟨rfl, rfl⟩))
  go_ret
  exact ⟨rfl, rfl⟩
set_option maxRecDepth 100000 in
set_option maxHeartbeats 1000000 in
theorem reg_out (M : Nat) (i : Int) (w : World) (hi : ¬ (0 ≤ i ∧ i < 32)) (c0 : w.cell? ⟨M, 0, none⟩ = some (.pointer (some ⟨M, 0, none⟩))) :
    Calls Tryd.prog 23 #[.pointer (some ⟨M, 0, none⟩), .int .i64 i] w fun e w' => e = .returned (.int .u32 0) ∧ w = w' := by
  have hb : decide (0 ≤ i ∧ i < 32) = false := by simpa using hi
  have HB := Lib.hid hb
  clear hb hi
  go_enter Tryd.func23, Tryd.ntmps23
  go_wp2_with (first
    | (go_at_call 35; refine (made_at _ _ c0).mono ?_; rintro e w' ⟨rfl, rfl⟩)
    | (go_at_call 39; refine (isReg_val _ _ _ HB.out).mono ?_; rintro e w' ⟨rfl, rfl⟩))
  go_ret
  exact ⟨rfl, rfl⟩

set_option maxRecDepth 100000 in
set_option maxHeartbeats 1000000 in
/-- A word of a page that is there. -/
theorem load_some (M G P at' : Nat) (v : Int) (w : World) (ha : at' < 1024) (c34 : w.cell? ⟨M, 34, none⟩ = some (.slice (some ⟨G, 0, none⟩) 1 1)) (cG : w.cell? ⟨G, 0, none⟩ = some (.pointer (some ⟨P, 0, none⟩))) (cP : w.cell? ⟨P, at', none⟩ = some (.int .u32 v)) :
    Calls Tryd.prog 42 #[.pointer (some ⟨M, 33, none⟩), .int .u32 at'] w fun e w' => e = .returned (.int .u32 v) ∧ w = w' := by
  have e1 : ((at' : Int) / 1024) = 0 := by omega
  have e2 : ((at' : Int) % 1024) = at' := by omega
  go_enter Tryd.func42, Tryd.ntmps42
  go_wp2
  go_ret
  exact ⟨rfl, rfl⟩
set_option maxRecDepth 100000 in
set_option maxHeartbeats 1000000 in
theorem load_none (M G at' : Nat) (w : World) (ha : at' < 1024) (c34 : w.cell? ⟨M, 34, none⟩ = some (.slice (some ⟨G, 0, none⟩) 1 1)) (cG : w.cell? ⟨G, 0, none⟩ = some (.pointer none)) :
    Calls Tryd.prog 42 #[.pointer (some ⟨M, 33, none⟩), .int .u32 at'] w fun e w' => e = .returned (.int .u32 0) ∧ w = w' := by
  have e1 : ((at' : Int) / 1024) = 0 := by omega
  go_enter Tryd.func42, Tryd.ntmps42
  go_wp2
  go_ret
  exact ⟨rfl, rfl⟩
theorem MRep.load {base : Nat} {w : World} {l : Lay} {m : MS} (h : MRep base w l m) (at' : Nat) (ha : at' < m.size) :
    Calls Tryd.prog 42 #[.pointer (some ⟨l.M, 33, none⟩), .int .u32 at'] w fun e w' => e = .returned (.int .u32 (m.mem at')) ∧ w = w' := by
  have hs := h.ok.size
  have hd := cell_of_one h.dir
  cases hp : l.pg with
  | none =>
    rw [hp] at hd
    rw [(h.nop hp).2 at']
    exact load_none l.M l.G at' w (by omega) h.c34 hd
  | some P =>
    rw [hp] at hd
    exact load_some l.M l.G P at' _ w (by omega) h.c34 hd (cellV (h.pag P hp) at' (by omega) (by unfold pcell; rw [if_pos (by omega)]))

set_option maxRecDepth 100000 in
set_option maxHeartbeats 1000000 in
theorem mem_in (M at' size : Nat) (v : Int) (w : World) (hs : size ≤ 1024) (ha : at' < size) (c0 : w.cell? ⟨M, 0, none⟩ = some (.pointer (some ⟨M, 0, none⟩))) (c33 : w.cell? ⟨M, 33, none⟩ = some (.int .u32 size))
    (hl : Calls Tryd.prog 42 #[.pointer (some ⟨M, 33, none⟩), .int .u32 at'] w fun e w' => e = .returned (.int .u32 v) ∧ w = w') :
    Calls Tryd.prog 24 #[.pointer (some ⟨M, 0, none⟩), .int .i64 at'] w fun e w' => e = .returned (.tuple #[.int .u32 v, .bool true]) ∧ w = w' := by
  have hb : decide (0 ≤ (at' : Int) ∧ (at' : Int) < size) = true := by simp; omega
  have HB := Lib.hid hb
  have HL := Lib.hid hl
  clear hb hl
  go_enter Tryd.func24, Tryd.ntmps24
  go_wp2_with (first
    | (go_at_call 35; refine (made_at _ _ c0).mono ?_; rintro e w' ⟨rfl, rfl⟩)
    | (go_at_call 37; refine (isAddr_val _ _ _ _ _ hs c33 HB.out).mono ?_; rintro e w' ⟨rfl, rfl⟩)
    | (go_at_call 42; refine (HL.out).mono ?_; rintro e w' ⟨rfl, rfl⟩))
  go_ret2
  exact ⟨rfl, rfl⟩
set_option maxRecDepth 100000 in
set_option maxHeartbeats 1000000 in
theorem mem_out (M size : Nat) (at' : Int) (w : World) (hs : size ≤ 1024) (ha : ¬ (0 ≤ at' ∧ at' < size)) (c0 : w.cell? ⟨M, 0, none⟩ = some (.pointer (some ⟨M, 0, none⟩))) (c33 : w.cell? ⟨M, 33, none⟩ = some (.int .u32 size)) :
    Calls Tryd.prog 24 #[.pointer (some ⟨M, 0, none⟩), .int .i64 at'] w fun e w' => e = .returned (.tuple #[.int .u32 0, .bool false]) ∧ w = w' := by
  have hb : decide (0 ≤ at' ∧ at' < size) = false := by simpa using ha
  have HB := Lib.hid hb
  clear hb ha
  go_enter Tryd.func24, Tryd.ntmps24
  go_wp2_with (first
    | (go_at_call 35; refine (made_at _ _ c0).mono ?_; rintro e w' ⟨rfl, rfl⟩)
    | (go_at_call 37; refine (isAddr_val _ _ _ _ _ hs c33 HB.out).mono ?_; rintro e w' ⟨rfl, rfl⟩))
  go_ret2
  exact ⟨rfl, rfl⟩

set_option maxRecDepth 100000 in
set_option maxHeartbeats 1000000 in
theorem place_at (M : Nat) (v : Int) (w : World) (c0 : w.cell? ⟨M, 0, none⟩ = some (.pointer (some ⟨M, 0, none⟩))) (c : w.cell? ⟨M, 35, none⟩ = some (.int .u32 v)) :
    Calls Tryd.prog 25 #[.pointer (some ⟨M, 0, none⟩)] w fun e w' => e = .returned (.int .u32 v) ∧ w = w' := by
  go_enter Tryd.func25, Tryd.ntmps25
  go_wp2_with (go_at_call 35; refine (made_at _ _ c0).mono ?_; rintro e w' ⟨rfl, rfl⟩)
  go_ret
  exact ⟨rfl, rfl⟩
set_option maxRecDepth 100000 in
set_option maxHeartbeats 1000000 in
theorem state_at (M : Nat) (v : Int) (w : World) (c0 : w.cell? ⟨M, 0, none⟩ = some (.pointer (some ⟨M, 0, none⟩))) (c : w.cell? ⟨M, 36, none⟩ = some (.int .i64 v)) :
    Calls Tryd.prog 22 #[.pointer (some ⟨M, 0, none⟩)] w fun e w' => e = .returned (.int .i64 v) ∧ w = w' := by
  go_enter Tryd.func22, Tryd.ntmps22
  go_wp2_with (go_at_call 35; refine (made_at _ _ c0).mono ?_; rintro e w' ⟨rfl, rfl⟩)
  go_ret
  exact ⟨rfl, rfl⟩
set_option maxRecDepth 100000 in
set_option maxHeartbeats 1000000 in
theorem code_at (M : Nat) (v : Int) (w : World) (c0 : w.cell? ⟨M, 0, none⟩ = some (.pointer (some ⟨M, 0, none⟩))) (c : w.cell? ⟨M, 37, none⟩ = some (.int .u32 v)) :
    Calls Tryd.prog 29 #[.pointer (some ⟨M, 0, none⟩)] w fun e w' => e = .returned (.int .u32 v) ∧ w = w' := by
  go_enter Tryd.func29, Tryd.ntmps29
  go_wp2_with (go_at_call 35; refine (made_at _ _ c0).mono ?_; rintro e w' ⟨rfl, rfl⟩)
  go_ret
  exact ⟨rfl, rfl⟩
set_option maxRecDepth 100000 in
set_option maxHeartbeats 1000000 in
theorem trap_at (M : Nat) (v : Int) (w : World) (c0 : w.cell? ⟨M, 0, none⟩ = some (.pointer (some ⟨M, 0, none⟩))) (c : w.cell? ⟨M, 38, none⟩ = some (.int .i64 v)) :
    Calls Tryd.prog 30 #[.pointer (some ⟨M, 0, none⟩)] w fun e w' => e = .returned (.int .i64 v) ∧ w = w' := by
  go_enter Tryd.func30, Tryd.ntmps30
  go_wp2_with (go_at_call 35; refine (made_at _ _ c0).mono ?_; rintro e w' ⟨rfl, rfl⟩)
  go_ret
  exact ⟨rfl, rfl⟩
set_option maxRecDepth 100000 in
set_option maxHeartbeats 1000000 in
theorem steps_at (M : Nat) (v : Int) (w : World) (c0 : w.cell? ⟨M, 0, none⟩ = some (.pointer (some ⟨M, 0, none⟩))) (c : w.cell? ⟨M, 39, none⟩ = some (.int .i64 v)) :
    Calls Tryd.prog 20 #[.pointer (some ⟨M, 0, none⟩)] w fun e w' => e = .returned (.int .i64 v) ∧ w = w' := by
  go_enter Tryd.func20, Tryd.ntmps20
  go_wp2_with (go_at_call 35; refine (made_at _ _ c0).mono ?_; rintro e w' ⟨rfl, rfl⟩)
  go_ret
  exact ⟨rfl, rfl⟩

theorem infoB : (Tryd.prog.info? 5).map (fun i => (i.zero, i.size, i.bytes)) = some (some (.int .u8 0), 1, 1) := by kernel_rfl
theorem infoB_of : ∃ i, Tryd.prog.info? 5 = some i ∧ i.zero = some (.int .u8 0) ∧ i.size = 1 ∧ i.bytes = 1 := by
  have h := infoB
  cases hq : Tryd.prog.info? 5 with
  | none => rw [hq] at h; simp at h
  | some i => rw [hq] at h; simp at h; exact ⟨i, rfl, h.1, h.2.1, h.2.2⟩
theorem one_byL (l : List Int) : ∀ u ∈ byL l, u.oneCell' = true := by
  intro u hu
  unfold byL at hu
  obtain ⟨x, -, rfl⟩ := List.mem_map.1 hu
  rfl
theorem byL_len (l : List Int) : (byL l).length = l.length := by unfold byL; simp

theorem eqS (a : Option Addr) (n c : Nat) (w : World) : (binOp .eql 23 (.slice a n c) (.slice none 0 0)).run Tryd.prog w = .ok (.bool a.isNone) w := Lib.run_eql_slice_nil w 23 5 a n c 0 0 Tryd.underlying23
set_option maxRecDepth 100000 in
set_option maxHeartbeats 1000000 in
theorem clone_nil (w : World) : Calls Tryd.prog 41 #[.slice none 0 0] w fun e w' => e = .returned (.slice none 0 0) ∧ w = w' := by
  have he := eqS none 0 0
  go_enter Tryd.func41, Tryd.ntmps41
  go_wp2
  go_ret
  exact ⟨rfl, rfl⟩
set_option maxRecDepth 100000 in
set_option maxHeartbeats 1000000 in
theorem clone_some (ad : Addr) (c : Nat) (l : List Int) (w : World) (hl : l.length ≤ 1000000) (hc : ∀ j u, (byL l)[j]? = some u → w.cell? (ad.add j) = some u) :
    Calls Tryd.prog 41 #[.slice (some ad) l.length c] w fun e w' => ∃ v, e = .returned v ∧ w'.ownsRow w.heap.size 5 1 v l.length (byL l) ∧ Below w.heap.size w w' := by
  obtain ⟨i0, hi, hz0, hz1, hz2⟩ := infoB_of
  have HC := Lib.hid hc
  clear hc
  have he := eqS (some ad) l.length c
  go_enter Tryd.func41, Tryd.ntmps41
  go_wp2_with (first
    | (at_builtin; refine wpList_append_own _ rfl _ _ 23 rfl w.heap.size 5 i0 (.int .u8 0) 1 1 Tryd.underlying23 hi hz0 hz1 hz2 rfl (by decide) _ 0 [] rfl (World.ownsRow_made w #[] 0 (Nat.le_refl _) (Nat.zero_le _) rfl) ad l.length c (byL l) rfl ?c0 ?c1 (one_byL l) ?c3 ?c4 ?c5 ?_)
    | fail)
  case c0 => rw [byL_len]; omega
  case c1 =>
    intro j u hj
    have := HC.out j u hj
    exact (World.cell?_alloc_lt _ _ _ (World.block_lt_of_cell? w _ this)).trans this
  case c3 => unfold maxLen; omega
  case c4 => omega
  case c5 => simp
  · intro v' w1 hown' hgrow _
    have hb : Below w.heap.size w w1 := ((Below.refl _ _).alloc (Nat.le_refl _) _).grown hgrow (by simp) (fun k hk => by cases hk; exact Nat.le_refl _)
    have H1 := Lib.hid (And.intro hown' hb)
    clear hown' hgrow hb
    go_wp2_with fail
    go_ret
    exact ⟨v', rfl, H1.out⟩
end Go.Proofs.YtknnmacmohpanaaDoor
