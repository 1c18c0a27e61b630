/- The walk of IsaApart. Conditions: the tables are as laid. -/
import Derived.Test.YtmgheeldoadnhaaDoorWalkR
namespace Go.Proofs.YtmgheeldoadnhaaDoor
open Go.RowKit

set_option maxRecDepth 100000 in
set_option maxHeartbeats 8000000 in
theorem apart_bad (op d a b imm op2 d2 a2 b2 imm2 : Int) (w : World) (h : Env2 w) (ho : Isa.ok op d a b imm = false ∨ Isa.ok op2 d2 a2 b2 imm2 = false) :
    Calls Tryd.prog 10 #[.agg #[.int .i64 op, .int .i64 d, .int .i64 a, .int .i64 b, .int .i64 imm], .agg #[.int .i64 op2, .int .i64 d2, .int .i64 a2, .int .i64 b2, .int .i64 imm2]] w fun e w' => e = .returned (.bool true) ∧ Below w.heap.size w w' := by
  have H := Lib.hid ho
  have hsz := h.size
  clear ho
  cases h1 : Isa.ok op d a b imm
  · have H1 := Lib.hid h1
    clear h1
    go_enter Tryd.func10, Tryd.ntmps10
    go_wp2_with fail
    have hb0 : Below w.heap.size w ((w.alloc (.cells #[.int .i64 op, .int .i64 d, .int .i64 a, .int .i64 b, .int .i64 imm] 27)).alloc (.cells #[.int .i64 op2, .int .i64 d2, .int .i64 a2, .int .i64 b2, .int .i64 imm2] 27)) := ((Below.refl _ _).alloc (Nat.le_refl _) _).alloc (by simp) _
    refine (encode_bad _ _ _ _ _ _ (h.below hb0).toEnv H1.out).mono ?_
    rintro e w1 ⟨rfl, hb⟩
    have hI := Lib.hid (((hb.block (w.heap.size + 1) (by simp)).trans (by rw [← World.size_alloc w (.cells #[.int .i64 op, .int .i64 d, .int .i64 a, .int .i64 b, .int .i64 imm] 27)]; exact heap_new _ _) : w1.heap[w.heap.size + 1]? = some (.cells #[.int .i64 op2, .int .i64 d2, .int .i64 a2, .int .i64 b2, .int .i64 imm2] 27 (0, 0))))
    replace hb0 := hb0.trans (hb.mono hb0.size)
    clear hb
    obtain ⟨c0, c1, c2, c3, c4⟩ := cells5 hI.out
    go_wp2_with fail
    cases h2 : Isa.ok op2 d2 a2 b2 imm2
    · refine (encode_bad _ _ _ _ _ _ (h.below hb0).toEnv h2).mono ?_
      rintro e w2 ⟨rfl, hb⟩
      replace hb0 := hb0.trans (hb.mono hb0.size)
      clear hb h2
      go_wp2_with fail
      refine (awake_any _ (h.below hb0)).mono ?_
      rintro e w3 ⟨rfl, hb⟩
      go_wp2_with fail
      go_ret
      exact ⟨rfl, hb0.trans (hb.mono hb0.size)⟩
    · refine (encode_any _ _ _ _ _ _ (h.below hb0).toEnv h2).mono ?_
      rintro e w2 ⟨rfl, hb⟩
      replace hb0 := hb0.trans (hb.mono hb0.size)
      clear hb h2
      go_wp2_with fail
      refine (awake_any _ (h.below hb0)).mono ?_
      rintro e w3 ⟨rfl, hb⟩
      go_wp2_with fail
      go_ret
      exact ⟨rfl, hb0.trans (hb.mono hb0.size)⟩
  · have H1 := Lib.hid h1
    have H2 : Hid (Isa.ok op2 d2 a2 b2 imm2 = false) := by
      rcases H.out with e | e
      · rw [h1] at e; cases e
      · exact e
    clear h1
    go_enter Tryd.func10, Tryd.ntmps10
    go_wp2_with fail
    have hb0 : Below w.heap.size w ((w.alloc (.cells #[.int .i64 op, .int .i64 d, .int .i64 a, .int .i64 b, .int .i64 imm] 27)).alloc (.cells #[.int .i64 op2, .int .i64 d2, .int .i64 a2, .int .i64 b2, .int .i64 imm2] 27)) := ((Below.refl _ _).alloc (Nat.le_refl _) _).alloc (by simp) _
    refine (encode_any _ _ _ _ _ _ (h.below hb0).toEnv H1.out).mono ?_
    rintro e w1 ⟨rfl, hb⟩
    have hI := Lib.hid (((hb.block (w.heap.size + 1) (by simp)).trans (by rw [← World.size_alloc w (.cells #[.int .i64 op, .int .i64 d, .int .i64 a, .int .i64 b, .int .i64 imm] 27)]; exact heap_new _ _) : w1.heap[w.heap.size + 1]? = some (.cells #[.int .i64 op2, .int .i64 d2, .int .i64 a2, .int .i64 b2, .int .i64 imm2] 27 (0, 0))))
    replace hb0 := hb0.trans (hb.mono hb0.size)
    clear hb
    obtain ⟨c0, c1, c2, c3, c4⟩ := cells5 hI.out
    go_wp2_with fail
    refine (encode_bad _ _ _ _ _ _ (h.below hb0).toEnv H2.out).mono ?_
    rintro e w2 ⟨rfl, hb⟩
    replace hb0 := hb0.trans (hb.mono hb0.size)
    clear hb
    go_wp2_with fail
    refine (awake_any _ (h.below hb0)).mono ?_
    rintro e w3 ⟨rfl, hb⟩
    go_wp2_with fail
    go_ret
    exact ⟨rfl, hb0.trans (hb.mono hb0.size)⟩

/-- Two instructions with one word, or one text, are one. -/
theorem one_word {op d a b imm op2 d2 a2 b2 imm2 : Int} (h1 : Isa.ok op d a b imm = true) (h2 : Isa.ok op2 d2 a2 b2 imm2 = true) (e : Isa.word op d a b imm = Isa.word op2 d2 a2 b2 imm2) : op = op2 ∧ d = d2 ∧ a = a2 ∧ b = b2 ∧ imm = imm2 := by
  obtain ⟨_, p0, p1, p2, p3, p4⟩ := Isa.dec_enc h1
  obtain ⟨_, q0, q1, q2, q3, q4⟩ := Isa.dec_enc h2
  rw [e] at p0 p1 p2 p3 p4
  exact ⟨p0.symm.trans q0, p1.symm.trans q1, p2.symm.trans q2, p3.symm.trans q3, p4.symm.trans q4⟩
theorem one_text {op d a b imm op2 d2 a2 b2 imm2 : Int} (h1 : Isa.ok op d a b imm = true) (h2 : Isa.ok op2 d2 a2 b2 imm2 = true) (e : Isa.text op d a b imm = Isa.text op2 d2 a2 b2 imm2) : op = op2 ∧ d = d2 ∧ a = a2 ∧ b = b2 ∧ imm = imm2 := by
  obtain ⟨t0, t1, t2, t3, t4⟩ := parse_text h1
  obtain ⟨q0, q1, q2, q3, q4⟩ := parse_text h2
  rw [e] at t0 t1 t2 t3 t4
  exact ⟨t0.symm.trans q0, t1.symm.trans q1, t2.symm.trans q2, t3.symm.trans q3, t4.symm.trans q4⟩
end Go.Proofs.YtmgheeldoadnhaaDoor
