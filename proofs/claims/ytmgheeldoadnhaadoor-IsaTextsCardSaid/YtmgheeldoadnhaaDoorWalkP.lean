/- The walk of IsaBack. Conditions: the tables are as laid. -/
import Derived.Test.YtmgheeldoadnhaaDoorWalkL
namespace Go.Proofs.YtmgheeldoadnhaaDoor
open Go.RowKit

theorem par_out {l : List UInt8} (hp : pOk l = true) {e : Ending} (h : Par l e) : e = .returned (.tuple #[.agg #[.int .i64 (pOp l), .int .i64 (p1 l).1, .int .i64 (p2 l).1, .int .i64 (p3 l).1, .int .i64 (p4 l).1], .int .i64 0]) := by
  unfold Par at h; rw [if_pos hp] at h; exact h
theorem par_out_bad {l : List UInt8} (hp : pOk l = false) {e : Ending} (h : Par l e) : e = .returned (.tuple #[.agg #[.int .i64 0, .int .i64 0, .int .i64 0, .int .i64 0, .int .i64 0], .int .i64 11]) := by
  unfold Par at h; rw [if_neg (by rw [hp]; decide)] at h; exact h
theorem pok_parts {l : List UInt8} (hp : pOk l = true) : Isa.ok (pOp l) (p1 l).1 (p2 l).1 (p3 l).1 (p4 l).1 = true ∧ Isa.text (pOp l) (p1 l).1 (p2 l).1 (p3 l).1 (p4 l).1 = l := by
  unfold pOk at hp
  simp only [Bool.and_eq_true, decide_eq_true_eq] at hp
  exact hp
theorem dec_out {v : Int} (hd : Isa.dOk v = true) {e : Ending} (h : Dec (v / 67108864) (Isa.fD v) (Isa.fA v) (Isa.fB v) (Isa.fImm v) e) : e = .returned (.tuple #[.agg #[.int .i64 (v / 67108864), .int .i64 (Isa.fD v), .int .i64 (Isa.fA v), .int .i64 (Isa.fB v), .int .i64 (Isa.fImm v)], .int .i64 0]) := by
  unfold Dec at h; rw [if_pos (by have := hd; unfold Isa.dOk Isa.dOp at this; exact this)] at h; exact h
theorem dec_out_bad {v : Int} (hd : Isa.dOk v = false) {e : Ending} (h : Dec (v / 67108864) (Isa.fD v) (Isa.fA v) (Isa.fB v) (Isa.fImm v) e) : e = .returned (.tuple #[.agg #[.int .i64 0, .int .i64 0, .int .i64 0, .int .i64 0, .int .i64 0], .int .i64 11]) := by
  unfold Dec at h; rw [if_neg (by have := hd; unfold Isa.dOk Isa.dOp at this; rw [this]; decide)] at h; exact h

set_option maxRecDepth 100000 in
set_option maxHeartbeats 8000000 in
theorem back_any (v : Int) (s : ByteArray) (w : World) (h : Env2 w) (v0 : 0 ≤ v) (v1 : v < 4294967296) (_hmax : s.size ≤ 9223372036854775807) :
    Calls Tryd.prog 9 #[.int .u32 v, .string s] w fun e w' => e = .returned (.bool true) ∧ Below w.heap.size w w' := by
  have hsz := h.size
  cases hd : Isa.dOk v
  · have HD := Lib.hid hd
    clear hd
    go_enter Tryd.func9, Tryd.ntmps9
    go_wp2_with fail
    refine (decode_any v _ h.toEnv v0 v1).mono ?_
    rintro e w1 ⟨hdec, hb⟩
    obtain rfl := dec_out_bad HD.out hdec
    clear hdec HD
    have hb2 := hb.alloc hb.size (.cells #[.int .i64 0, .int .i64 0, .int .i64 0, .int .i64 0, .int .i64 0] 27)
    clear hb
    by_cases hl : s.size ≤ 1000
    · have hl2 : (s.size : Int) ≤ 1000 := by omega
      go_wp2_with fail
      refine (parse_any s _ (h.below hb2) hl).mono ?_
      rintro e w5 ⟨hpar, hb⟩
      replace hb2 := hb2.trans (hb.mono hb2.size)
      clear hb
      cases hp : pOk s.data.toList
      · obtain rfl := par_out_bad hp hpar
        clear hpar hp
        go_wp2_with fail
        replace hb2 := hb2.alloc hb2.size (.cells #[.int .i64 0, .int .i64 0, .int .i64 0, .int .i64 0, .int .i64 0] 27)
        refine (awake_any _ (h.below hb2)).mono ?_
        rintro e w6 ⟨rfl, hb⟩
        go_wp2_with fail
        go_ret
        exact ⟨rfl, hb2.trans (hb.mono hb2.size)⟩
      · obtain rfl := par_out hp hpar
        obtain ⟨q1, q2⟩ := pok_parts hp
        have HQ := Lib.hid (And.intro q1 q2)
        clear hpar hp q1 q2
        obtain ⟨x0, hx0⟩ : ∃ x, x = pOp s.data.toList := ⟨_, rfl⟩
        obtain ⟨x1, hx1⟩ : ∃ x, x = (p1 s.data.toList).1 := ⟨_, rfl⟩
        obtain ⟨x2, hx2⟩ : ∃ x, x = (p2 s.data.toList).1 := ⟨_, rfl⟩
        obtain ⟨x3, hx3⟩ : ∃ x, x = (p3 s.data.toList).1 := ⟨_, rfl⟩
        obtain ⟨x4, hx4⟩ : ∃ x, x = (p4 s.data.toList).1 := ⟨_, rfl⟩
        rw [← hx0, ← hx1, ← hx2, ← hx3, ← hx4] at HQ ⊢
        clear hx0 hx1 hx2 hx3 hx4
        have hI := Lib.hid (heap_new w5 (.cells #[.int .i64 x0, .int .i64 x1, .int .i64 x2, .int .i64 x3, .int .i64 x4] 27))
        go_wp2_with fail
        replace hb2 := hb2.alloc hb2.size (.cells #[.int .i64 x0, .int .i64 x1, .int .i64 x2, .int .i64 x3, .int .i64 x4] 27)
        refine (text_ok _ _ _ _ _ _ (h.below hb2) HQ.out.1).mono ?_
        rintro e w6 ⟨rfl, hb⟩
        replace hI := Lib.hid ((hb.block _ (lt_of_block hI.out)).trans hI.out)
        obtain ⟨c0, c1, c2, c3, c4⟩ := cells5 hI.out
        replace hb2 := hb2.trans (hb.mono hb2.size)
        clear hb
        have ht : (Isa.text x0 x1 x2 x3 x4 == s.toList) = true := by rw [ByteArray.toList_eq, HQ.out.2]; exact beq_self_eq_true _
        go_wp2_with fail
        refine (check_ok _ _ _ _ _ _ (h.below hb2).toEnv HQ.out.1).mono ?_
        rintro e w7 ⟨rfl, hb⟩
        replace hb2 := hb2.trans (hb.mono hb2.size)
        clear hb
        clear c0 c1 c2 c3 c4
        go_wp2_with fail
        refine (awake_any _ (h.below hb2)).mono ?_
        rintro e w8 ⟨rfl, hb⟩
        go_wp2_with fail
        go_ret
        exact ⟨rfl, hb2.trans (hb.mono hb2.size)⟩
    · have hl2 : (1000 : Int) < (s.size : Int) := by omega
      go_wp2_with fail
      refine (awake_any _ (h.below hb2)).mono ?_
      rintro e w2 ⟨rfl, hb⟩
      go_wp2_with fail
      go_ret
      exact ⟨rfl, hb2.trans (hb.mono hb2.size)⟩
  · have HD := Lib.hid hd
    clear hd
    go_enter Tryd.func9, Tryd.ntmps9
    go_wp2_with fail
    refine (decode_any v _ h.toEnv v0 v1).mono ?_
    rintro e w1 ⟨hdec, hb⟩
    obtain rfl := dec_out HD.out hdec
    clear hdec
    have hb1 := hb.alloc hb.size (.cells #[.int .i64 (v / 67108864), .int .i64 (Isa.fD v), .int .i64 (Isa.fA v), .int .i64 (Isa.fB v), .int .i64 (Isa.fImm v)] 27)
    clear hb
    go_wp2_with fail
    refine (encode_any _ _ _ _ _ _ (h.below hb1).toEnv (show Isa.ok (v / 67108864) (Isa.fD v) (Isa.fA v) (Isa.fB v) (Isa.fImm v) = true from HD.out)).mono ?_
    rintro e w2 ⟨rfl, hb⟩
    rw [show Isa.word (v / 67108864) (Isa.fD v) (Isa.fA v) (Isa.fB v) (Isa.fImm v) = v from Isa.enc_dec HD.out]
    have hb2 := hb1.trans (hb.mono hb1.size)
    clear hb hb1
    by_cases hl : s.size ≤ 1000
    · have hl2 : (s.size : Int) ≤ 1000 := by omega
      go_wp2_with fail
      refine (parse_any s _ (h.below hb2) hl).mono ?_
      rintro e w5 ⟨hpar, hb⟩
      replace hb2 := hb2.trans (hb.mono hb2.size)
      clear hb
      cases hp : pOk s.data.toList
      · obtain rfl := par_out_bad hp hpar
        clear hpar hp
        go_wp2_with fail
        replace hb2 := hb2.alloc hb2.size (.cells #[.int .i64 0, .int .i64 0, .int .i64 0, .int .i64 0, .int .i64 0] 27)
        refine (awake_any _ (h.below hb2)).mono ?_
        rintro e w6 ⟨rfl, hb⟩
        go_wp2_with fail
        go_ret
        exact ⟨rfl, hb2.trans (hb.mono hb2.size)⟩
      · obtain rfl := par_out hp hpar
        obtain ⟨q1, q2⟩ := pok_parts hp
        have HQ := Lib.hid (And.intro q1 q2)
        clear hpar hp q1 q2
        obtain ⟨x0, hx0⟩ : ∃ x, x = pOp s.data.toList := ⟨_, rfl⟩
        obtain ⟨x1, hx1⟩ : ∃ x, x = (p1 s.data.toList).1 := ⟨_, rfl⟩
        obtain ⟨x2, hx2⟩ : ∃ x, x = (p2 s.data.toList).1 := ⟨_, rfl⟩
        obtain ⟨x3, hx3⟩ : ∃ x, x = (p3 s.data.toList).1 := ⟨_, rfl⟩
        obtain ⟨x4, hx4⟩ : ∃ x, x = (p4 s.data.toList).1 := ⟨_, rfl⟩
        rw [← hx0, ← hx1, ← hx2, ← hx3, ← hx4] at HQ ⊢
        clear hx0 hx1 hx2 hx3 hx4
        have hI := Lib.hid (heap_new w5 (.cells #[.int .i64 x0, .int .i64 x1, .int .i64 x2, .int .i64 x3, .int .i64 x4] 27))
        go_wp2_with fail
        replace hb2 := hb2.alloc hb2.size (.cells #[.int .i64 x0, .int .i64 x1, .int .i64 x2, .int .i64 x3, .int .i64 x4] 27)
        refine (text_ok _ _ _ _ _ _ (h.below hb2) HQ.out.1).mono ?_
        rintro e w6 ⟨rfl, hb⟩
        replace hI := Lib.hid ((hb.block _ (lt_of_block hI.out)).trans hI.out)
        obtain ⟨c0, c1, c2, c3, c4⟩ := cells5 hI.out
        replace hb2 := hb2.trans (hb.mono hb2.size)
        clear hb
        have ht : (Isa.text x0 x1 x2 x3 x4 == s.toList) = true := by rw [ByteArray.toList_eq, HQ.out.2]; exact beq_self_eq_true _
        go_wp2_with fail
        refine (check_ok _ _ _ _ _ _ (h.below hb2).toEnv HQ.out.1).mono ?_
        rintro e w7 ⟨rfl, hb⟩
        replace hb2 := hb2.trans (hb.mono hb2.size)
        clear hb
        clear c0 c1 c2 c3 c4
        go_wp2_with fail
        refine (awake_any _ (h.below hb2)).mono ?_
        rintro e w8 ⟨rfl, hb⟩
        go_wp2_with fail
        go_ret
        exact ⟨rfl, hb2.trans (hb.mono hb2.size)⟩
    · have hl2 : (1000 : Int) < (s.size : Int) := by omega
      go_wp2_with fail
      refine (awake_any _ (h.below hb2)).mono ?_
      rintro e w3 ⟨rfl, hb⟩
      go_wp2_with fail
      go_ret
      exact ⟨rfl, hb2.trans (hb.mono hb2.size)⟩
end Go.Proofs.YtmgheeldoadnhaaDoor
