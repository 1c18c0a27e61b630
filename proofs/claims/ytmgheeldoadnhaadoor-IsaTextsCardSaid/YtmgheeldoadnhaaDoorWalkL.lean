/- Contracts: the statements' own small functions. Conditions: the tables are as laid. -/
import Derived.Test.YtmgheeldoadnhaaDoorSpecG
namespace Go.Proofs.YtmgheeldoadnhaaDoor
open Go.RowKit

set_option maxRecDepth 100000 in
set_option maxHeartbeats 1000000 in
theorem no_any (v : Int) (w : World) (h : Env w) (v0 : 0 ≤ v) (v1 : v < 4294967296) (hd : Isa.dOk v = false) :
    Calls Tryd.prog 28 #[.int .u32 v] w fun e w' => e = .returned (.bool true) ∧ Below w.heap.size w w' := by
  have H := Lib.hid hd
  have hsz := h.size
  clear hd
  go_enter Tryd.func28, Tryd.ntmps28
  go_wp2_with fail
  refine (decode_any v _ h v0 v1).mono ?_
  rintro e w1 ⟨hdec, hb⟩
  unfold Dec at hdec
  rw [if_neg (by have := H.out; unfold Isa.dOk Isa.dOp at this; rw [this]; decide)] at hdec
  subst hdec
  have hz := hb.size
  go_wp2_with fail
  go_ret
  exact ⟨rfl, hb.alloc (by omega) _⟩

set_option maxRecDepth 100000 in
set_option maxHeartbeats 1000000 in
theorem never_any (op d a b imm : Int) (w : World) (h : Env2 w) (ho : Isa.ok op d a b imm = false) :
    Calls Tryd.prog 29 #[.agg #[.int .i64 op, .int .i64 d, .int .i64 a, .int .i64 b, .int .i64 imm]] w fun e w' => e = .returned (.bool true) ∧ Below w.heap.size w w' := by
  have H := Lib.hid ho
  have hsz := h.size
  clear ho
  go_enter Tryd.func29, Tryd.ntmps29
  go_wp2_with fail
  refine (encode_bad _ _ _ _ _ _ (h.alloc _).toEnv H.out).mono ?_
  rintro e w1 ⟨rfl, hb⟩
  have hb0 := (Below.alloc (Below.refl w.heap.size w) (Nat.le_refl _) (.cells #[.int .i64 op, .int .i64 d, .int .i64 a, .int .i64 b, .int .i64 imm] 27)).trans (hb.mono (by simp))
  have hI := Lib.hid ((hb.block w.heap.size (by simp)).trans (heap_new w (.cells #[.int .i64 op, .int .i64 d, .int .i64 a, .int .i64 b, .int .i64 imm] 27)))
  obtain ⟨c0, c1, c2, c3, c4⟩ := cells5 hI.out
  clear hb
  go_wp2_with fail
  refine (check_bad _ _ _ _ _ _ (h.below hb0).toEnv H.out).mono ?_
  rintro e w2 ⟨rfl, hb⟩
  replace hI := Lib.hid ((hb.block w.heap.size (lt_of_block hI.out)).trans hI.out)
  replace hb0 := hb0.trans (hb.mono hb0.size)
  clear hb c0 c1 c2 c3 c4
  obtain ⟨c0, c1, c2, c3, c4⟩ := cells5 hI.out
  go_wp2_with fail
  refine (text_bad _ _ _ _ _ _ (h.below hb0).toEnv H.out).mono ?_
  rintro e w3 ⟨rfl, hb⟩
  replace hb0 := hb0.trans (hb.mono hb0.size)
  clear hb c0 c1 c2 c3 c4
  go_wp2_with fail
  go_ret
  exact ⟨rfl, hb0⟩

theorem encode_any (op d a b imm : Int) (w : World) (h : Env w) (ho : Isa.ok op d a b imm = true) :
    Calls Tryd.prog 18 #[.agg #[.int .i64 op, .int .i64 d, .int .i64 a, .int .i64 b, .int .i64 imm]] w fun e w' => e = .returned (.tuple #[.int .u32 (Isa.word op d a b imm), .int .i64 0]) ∧ Below w.heap.size w w' := by
  have hs := Isa.shapes_of (Isa.form op)
  have hn := (Isa.ok_parts ho).1
  simp only [List.mem_cons, List.mem_nil_iff, or_false, Prod.mk.injEq] at hs
  rcases hs with ⟨e0, e1, e2⟩ | ⟨e0, e1, e2⟩ | ⟨e0, e1, e2⟩ | ⟨e0, e1, e2⟩ | ⟨e0, e1, e2⟩ | ⟨e0, e1, e2⟩
  · exact encode_ttt op d a b imm w h ho e0 e1 e2
  · exact encode_ttf op d a b imm w h ho e0 e1 e2
  · exact encode_tff op d a b imm w h ho e0 e1 e2
  · exact encode_ftt op d a b imm w h ho e0 e1 e2
  · exact encode_ftf op d a b imm w h ho e0 e1 e2
  · exfalso
    rcases Isa.form_cases op with h | h | h | h | h | h | h | h
    · exact hn h
    all_goals
      rw [h] at e0 e1
      first | (revert e0; decide) | (revert e1; decide)

set_option maxRecDepth 100000 in
set_option maxHeartbeats 4000000 in
theorem is_true (op d a b imm v : Int) (s : ByteArray) (w : World) (h : Env2 w) (ho : Isa.ok op d a b imm = true) (hv : v = Isa.word op d a b imm) (hs : s.data.toList = Isa.text op d a b imm) :
    Calls Tryd.prog 27 #[.agg #[.int .i64 op, .int .i64 d, .int .i64 a, .int .i64 b, .int .i64 imm], .int .u32 v, .string s] w fun e w' => e = .returned (.bool true) ∧ Below w.heap.size w w' := by
  have hsz := h.size
  obtain ⟨⟨v0, v1⟩, q1, q2, q3, q4, q5⟩ := Isa.dec_enc ho
  obtain ⟨t1, t2, t3, t4, t5⟩ := parse_text ho
  have hl : s.size ≤ 1000 := by
    have e1 : s.data.toList.length = s.size := Array.length_toList
    have := text_len ho
    rw [hs] at e1
    omega
  rw [← hv] at v0 v1 q1 q2 q3 q4 q5
  rw [← hs] at t1 t2 t3 t4 t5
  have hdok : Isa.dOk v = true := by unfold Isa.dOk; rw [q1, q2, q3, q4, q5]; exact ho
  have hpok : pOk s.data.toList = true := by unfold pOk; rw [t1, t2, t3, t4, t5, ho]; simpa using hs.symm
  have HD : Hid (Dec (v / 67108864) (Isa.fD v) (Isa.fA v) (Isa.fB v) (Isa.fImm v) (.returned (.tuple #[.agg #[.int .i64 op, .int .i64 d, .int .i64 a, .int .i64 b, .int .i64 imm], .int .i64 0]))) := by
    unfold Hid
    have := dec_ok (show Isa.ok (v / 67108864) (Isa.fD v) (Isa.fA v) (Isa.fB v) (Isa.fImm v) = true from hdok)
    rw [q2, q3, q4, q5, show v / 67108864 = op from q1] at this ⊢
    exact this
  have HP : Hid (Par s.data.toList (.returned (.tuple #[.agg #[.int .i64 op, .int .i64 d, .int .i64 a, .int .i64 b, .int .i64 imm], .int .i64 0]))) := by
    unfold Hid
    have := par_ok hpok
    rw [t1, t2, t3, t4, t5] at this
    exact this
  have H := Lib.hid (And.intro ho (And.intro hv hs))
  clear ho hv hs q1 q2 q3 q4 q5 t1 t2 t3 t4 t5 hdok hpok
  go_enter Tryd.func27, Tryd.ntmps27
  go_wp2_with fail
  have e1 := h.alloc (.cells #[.int .i64 op, .int .i64 d, .int .i64 a, .int .i64 b, .int .i64 imm] 27)
  refine (encode_any _ _ _ _ _ _ e1.toEnv H.out.1).mono ?_
  rintro e w1 ⟨rfl, hb⟩
  rw [← H.out.2.1]
  have hb0 := (Below.alloc (Below.refl w.heap.size w) (Nat.le_refl _) (.cells #[.int .i64 op, .int .i64 d, .int .i64 a, .int .i64 b, .int .i64 imm] 27)).trans (hb.mono (by simp))
  have hI := Lib.hid ((hb.block w.heap.size (by simp)).trans (heap_new w (.cells #[.int .i64 op, .int .i64 d, .int .i64 a, .int .i64 b, .int .i64 imm] 27)))
  clear hb e1
  go_wp2_with fail
  refine (decode_any v _ (h.below hb0).toEnv v0 v1).mono ?_
  rintro e w2 ⟨hdec, hb⟩
  have he : e = _ := hdec.trans (show _ = _ from HD.out.symm)
  subst he
  clear hdec
  replace hI := Lib.hid ((hb.block w.heap.size (lt_of_block hI.out)).trans hI.out)
  replace hb0 := hb0.trans (hb.mono hb0.size)
  clear hb
  go_wp2_with fail
  have z2 : w.heap.size < w2.heap.size := lt_of_block hI.out
  have hb3 := hb0.alloc hb0.size (.cells #[.int .i64 op, .int .i64 d, .int .i64 a, .int .i64 b, .int .i64 imm] 27)
  have hJ := Lib.hid (heap_new w2 (.cells #[.int .i64 op, .int .i64 d, .int .i64 a, .int .i64 b, .int .i64 imm] 27))
  replace hI := Lib.hid ((Below.heap_alloc w2 (.cells #[.int .i64 op, .int .i64 d, .int .i64 a, .int .i64 b, .int .i64 imm] 27) _ z2).trans hI.out)
  obtain ⟨w3, hw3⟩ : ∃ w3, w3 = w2.alloc (.cells #[.int .i64 op, .int .i64 d, .int .i64 a, .int .i64 b, .int .i64 imm] 27) := ⟨_, rfl⟩
  rw [← hw3] at hb3 hJ hI ⊢
  obtain ⟨B, hB⟩ : ∃ B, B = w2.heap.size := ⟨_, rfl⟩
  rw [← hB] at hJ z2 ⊢
  clear hw3 hB hb0
  refine (parse_any s _ (h.below hb3) hl).mono ?_
  rintro e w4 ⟨hpar, hb⟩
  have he : e = _ := hpar.trans (show _ = _ from HP.out.symm)
  subst he
  clear hpar
  replace hI := Lib.hid ((hb.block w.heap.size (lt_of_block hI.out)).trans hI.out)
  replace hJ := Lib.hid ((hb.block B (lt_of_block hJ.out)).trans hJ.out)
  replace hb3 := hb3.trans (hb.mono hb3.size)
  clear hb
  have z4 : B < w4.heap.size := lt_of_block hJ.out
  have z5 : w.heap.size < w4.heap.size := by omega
  obtain ⟨c0, c1, c2, c3, c4⟩ := cells5 hI.out
  obtain ⟨d0, d1, d2, d3, d4⟩ := cells5 hJ.out
  go_wp2_with fail
  have hb6 := hb3.alloc hb3.size (.cells #[.int .i64 op, .int .i64 d, .int .i64 a, .int .i64 b, .int .i64 imm] 27)
  refine (text_ok _ _ _ _ _ _ (h.below hb6) H.out.1).mono ?_
  rintro e w5 ⟨rfl, hb⟩
  have ht : (Isa.text op d a b imm == s.toList) = true := by rw [ByteArray.toList_eq, H.out.2.2]; exact beq_self_eq_true _
  clear c0 c1 c2 c3 c4 d0 d1 d2 d3 d4
  go_wp2_with fail
  go_ret
  exact ⟨rfl, hb6.trans (hb.mono hb6.size)⟩

/-- Two of the chapter's answers. -/
theorem ok_add : Isa.ok 1 1 2 3 0 = true := by decide
theorem ok_jal : Isa.ok 32 31 0 0 (-1) = true := by decide
theorem word_add : (69343232 : Int) = Isa.word 1 1 2 3 0 := by decide
theorem word_jal : (2214592511 : Int) = Isa.word 32 31 0 0 (-1) := by decide
theorem text_add : Isa.text 1 1 2 3 0 = [97, 100, 100, 32, 114, 49, 32, 114, 50, 32, 114, 51] := by
  have e (k : Nat) (h : k < 10) : Lib.decDigits k = [UInt8.ofNat (48 + k)] := Lib.decDigits_one h
  show Lib.join ([[97, 100, 100], 114 :: Lib.decDigits 1, 114 :: Lib.decDigits 2, 114 :: Lib.decDigits 3]) [32] = _
  rw [e 1 (by decide), e 2 (by decide), e 3 (by decide)]
  decide
theorem text_jal : Isa.text 32 31 0 0 (-1) = [106, 97, 108, 32, 114, 51, 49, 32, 45, 49] := by
  show Lib.join ([[106, 97, 108], 114 :: Lib.decDigits 31, Lib.itoa (-1)]) [32] = _
  rw [Lib.decDigits_two (i := 31) (by decide) (by decide), show Lib.itoa (-1) = 45 :: Lib.decDigits 1 from rfl, Lib.decDigits_one (i := 1) (by decide)]
  decide

set_option maxRecDepth 100000 in
set_option maxHeartbeats 1000000 in
theorem awake_any (w : World) (h : Env2 w) : Calls Tryd.prog 17 #[] w fun e w' => e = .returned (.bool true) ∧ Below w.heap.size w w' := by
  go_enter Tryd.func17, Tryd.ntmps17
  go_wp2_with fail
  refine (is_true 1 1 2 3 0 69343232 _ _ h ok_add word_add text_add.symm).mono ?_
  rintro e w1 ⟨rfl, hb⟩
  go_wp2_with fail
  refine (is_true 32 31 0 0 (-1) 2214592511 _ _ (h.below hb) ok_jal word_jal text_jal.symm).mono ?_
  rintro e w2 ⟨rfl, hb2⟩
  go_wp2_with fail
  go_ret
  exact ⟨rfl, hb.trans (hb2.mono hb.size)⟩
end Go.Proofs.YtmgheeldoadnhaaDoor
