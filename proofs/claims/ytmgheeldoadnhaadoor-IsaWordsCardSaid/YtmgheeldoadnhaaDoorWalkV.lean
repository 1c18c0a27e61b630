/- The walk of IsaWords. Conditions: the tables are as laid. -/
import Derived.Test.YtmgheeldoadnhaaDoorWalkS
import Derived.Test.YtmgheeldoadnhaaDoorRefJ
import Derived.Deep.RegionHeld3
namespace Go.Proofs.YtmgheeldoadnhaaDoor
open Go.RowKit

theorem ienc_any (op d a b imm : Int) (w : World) (h : Env2 w) :
    Calls Tryd.prog 18 #[.agg #[.int .i64 op, .int .i64 d, .int .i64 a, .int .i64 b, .int .i64 imm]] w fun e w' => e = .returned (.tuple #[.int .u32 (Isa.enc op d a b imm), .int .i64 (chk op d a b imm)]) ∧ Below w.heap.size w w' := by
  unfold Isa.enc chk
  cases ho : Isa.ok op d a b imm
  · exact encode_bad op d a b imm w h.toEnv ho
  · exact encode_any op d a b imm w h.toEnv ho
theorem Bx.drew {W : World} {B : Nat} {op d a b imm : Int} {w : World} (s : Bx W B op d a b imm w) : Bx W B op d a b imm w.drew := ⟨s.below.drew, s.inst, s.lt⟩
theorem bx_check {W : World} {B : Nat} {op d a b imm er : Int} {w : World} (h : Env2 W) (s : Bx W B op d a b imm w) (he : Hid (er = chk op d a b imm)) :
    Calls Tryd.prog 20 #[.agg #[.int .i64 op, .int .i64 d, .int .i64 a, .int .i64 b, .int .i64 imm]] w fun e w' => e = .returned (.int .i64 er) ∧ Bx W B op d a b imm w' :=
  (check_any op d a b imm w (h.below s.below).toEnv).mono fun _ _ ⟨hx, hb⟩ => ⟨by rw [hx, he.out], s.grow hb⟩
theorem bx_text {W : World} {B : Nat} {op d a b imm : Int} {w : World} {T : List UInt8} (h : Env2 W) (s : Bx W B op d a b imm w) (he : Hid (T = Isa.txt op d a b imm)) :
    Calls Tryd.prog 21 #[.agg #[.int .i64 op, .int .i64 d, .int .i64 a, .int .i64 b, .int .i64 imm]] w fun e w' => e = .returned (.string ⟨T.toArray⟩) ∧ Bx W B op d a b imm w' :=
  (text_any op d a b imm w (h.below s.below)).mono fun _ _ ⟨hx, hb⟩ => ⟨by rw [hx, he.out], s.grow hb⟩
theorem bx_rtext {W : World} {B : Nat} {op d a b imm : Int} {w : World} {T : List UInt8} (s : Bx W B op d a b imm w) (he : Hid (T = Isa.txt op d a b imm)) :
    Calls Tryd.prog 22 #[.agg #[.int .i64 op, .int .i64 d, .int .i64 a, .int .i64 b, .int .i64 imm]] w fun e w' => e = .returned (.string ⟨T.toArray⟩) ∧ Bx W B op d a b imm w' :=
  (rtext_any op d a b imm w).mono fun _ _ ⟨hx, hb⟩ => ⟨by rw [hx, he.out], s.grow hb⟩
theorem bx_awake {W : World} {B : Nat} {op d a b imm : Int} {w : World} (h : Env2 W) (s : Bx W B op d a b imm w) :
    Calls Tryd.prog 17 #[] w fun e w' => e = .returned (.bool true) ∧ Bx W B op d a b imm w' :=
  (awake_any w (h.below s.below)).mono fun _ _ ⟨hx, hb⟩ => ⟨hx, s.grow hb⟩

set_option maxRecDepth 100000 in
set_option maxHeartbeats 4000000 in
theorem words_any (op d a b imm : Int) (w : World) (h : Env2 w) :
    Calls Tryd.prog 4 #[.agg #[.int .i64 op, .int .i64 d, .int .i64 a, .int .i64 b, .int .i64 imm]] w fun e w' => e = .returned (.bool true) ∧ Below w.heap.size w w' := by
  obtain ⟨wd, hwd⟩ : ∃ x, x = Isa.enc op d a b imm := ⟨_, rfl⟩
  obtain ⟨er, her⟩ : ∃ x, x = chk op d a b imm := ⟨_, rfl⟩
  obtain ⟨T, hT⟩ : ∃ x, x = Isa.txt op d a b imm := ⟨_, rfl⟩
  have HW := Lib.hid hwd
  have HE := Lib.hid her
  have HT := Lib.hid hT
  clear hwd her hT
  go_enter Tryd.func4, Tryd.ntmps4
  go_wp2_with fail
  refine (ienc_any _ _ _ _ _ _ (h.alloc _)).mono ?_
  rintro e w1 ⟨rfl, hb⟩
  rw [← HW.out, ← HE.out]
  have s0 : Bx w w.heap.size op d a b imm w1 := ⟨(Below.alloc (Below.refl w.heap.size w) (Nat.le_refl _) (.cells #[.int .i64 op, .int .i64 d, .int .i64 a, .int .i64 b, .int .i64 imm] 27)).trans (hb.mono (by simp)),
    (hb.block w.heap.size (by simp)).trans (heap_new w _), by have := hb.size; simp at this; omega⟩
  clear hb
  obtain ⟨B, hB⟩ : ∃ B, B = w.heap.size := ⟨_, rfl⟩
  rw [← hB] at s0 ⊢
  have HBs := Lib.hid hB
  clear hB
  obtain ⟨c0, c1, c2, c3, c4⟩ := s0.facts
  go_wp2_with fail
  refine (renc_any _ _ _ _ _ _).mono ?_
  rintro e w2 ⟨rfl, hb⟩
  rw [← HW.out, ← HE.out]
  replace s0 := s0.grow hb
  clear hb c0 c1 c2 c3 c4
  obtain ⟨c0, c1, c2, c3, c4⟩ := s0.facts
  go_wp2_with fail
  go_region_held3 (fun w' => w'.cell? ⟨B, 0, none⟩ = some (.int .i64 op) ∧ w'.cell? ⟨B, 1, none⟩ = some (.int .i64 d) ∧ w'.cell? ⟨B, 2, none⟩ = some (.int .i64 a) ∧ w'.cell? ⟨B, 3, none⟩ = some (.int .i64 b) ∧ w'.cell? ⟨B, 4, none⟩ = some (.int .i64 imm))
    (first | exact Bx.facts (by assumption) | exact Bx.facts (Bx.drew (by assumption)) | go_keep)
    (first
      | (go_at_call 20; refine (bx_check (B := B) (op := op) (d := d) (a := a) (b := b) (imm := imm) h ?_ HE).mono ?_; (first | assumption | exact Bx.drew (by assumption)); rintro e w9 ⟨rfl, s9⟩)
      | (go_at_call 21; refine (bx_text (B := B) (op := op) (d := d) (a := a) (b := b) (imm := imm) h ?_ HT).mono ?_; (first | assumption | exact Bx.drew (by assumption)); rintro e w9 ⟨rfl, s9⟩)
      | (go_at_call 22; refine (bx_rtext (W := w) (B := B) (op := op) (d := d) (a := a) (b := b) (imm := imm) ?_ HT).mono ?_; (first | assumption | exact Bx.drew (by assumption)); rintro e w9 ⟨rfl, s9⟩)
      | (go_at_call 17; refine (bx_awake (B := B) (op := op) (d := d) (a := a) (b := b) (imm := imm) h ?_).mono ?_; (first | assumption | exact Bx.drew (by assumption)); rintro e w9 ⟨rfl, s9⟩))
  all_goals
    go_wp2_with fail
    go_ret
    exact ⟨rfl, s9.below⟩
end Go.Proofs.YtmgheeldoadnhaaDoor
