/- Contracts: the document's Text. Conditions: none. -/
import Derived.Test.YtmgheeldoadnhaaDoorRefG
import Derived.Test.YtmgheeldoadnhaaDoorRefI
import Derived.Deep.DeepCutAuto
import Derived.Deep.CutBlock
namespace Go.Proofs.YtmgheeldoadnhaaDoor
open Go.RowKit

theorem text_cat (op d a b imm : Int) : Isa.text op d a b imm = Isa.nameL op.toNat ++ (if Isa.shape (Isa.form op) 0 then 32 :: Isa.regL d else []) ++ (if Isa.shape (Isa.form op) 1 then 32 :: Isa.regL a else []) ++
    (if Isa.shape (Isa.form op) 2 then 32 :: Isa.regL b else []) ++ (if Isa.shape (Isa.form op) 3 then 32 :: Lib.itoa imm else []) := by
  unfold Isa.text Isa.words
  cases Isa.shape (Isa.form op) 0 <;> cases Isa.shape (Isa.form op) 1 <;> cases Isa.shape (Isa.form op) 2 <;> cases Isa.shape (Isa.form op) 3 <;> simp [Lib.join_cons, Lib.joinTail]
theorem rreg_cat (l : List UInt8) (r : Int) (h : 0 ≤ r) : (⟨l.toArray⟩ : ByteArray) ++ (⟨#[32, 114]⟩ : ByteArray) ++ (⟨(Lib.itoa r).toArray⟩ : ByteArray) = ⟨(l ++ 32 :: Isa.regL r).toArray⟩ := by
  rw [show (⟨#[32, 114]⟩ : ByteArray) = ⟨([32, 114] : List UInt8).toArray⟩ from rfl, cat_arr, cat_arr]
  unfold Isa.regL Lib.itoa
  rw [if_neg (by omega), List.append_assoc]
  rfl
theorem reg_itoa_len (r : Int) (h : 0 ≤ r) : (Isa.regL r).length = (Lib.itoa r).length + 1 := by
  unfold Isa.regL Lib.itoa
  rw [if_neg (by omega)]
  rfl
theorem imm_cat (l : List UInt8) (n : Int) : (⟨l.toArray⟩ : ByteArray) ++ (⟨#[32]⟩ : ByteArray) ++ (⟨(Lib.itoa n).toArray⟩ : ByteArray) = ⟨(l ++ 32 :: Lib.itoa n).toArray⟩ := by
  rw [show (⟨#[32]⟩ : ByteArray) = ⟨([32] : List UInt8).toArray⟩ from rfl, cat_arr, cat_arr, List.append_assoc]
  rfl
theorem imm_has (op : Int) : decide (0 < nbN (Isa.form op)) = Isa.shape (Isa.form op) 3 := by
  rcases Isa.form_cases op with h | h | h | h | h | h | h | h <;> (rw [h]; rfl)

/-- In Text: the instruction's block. -/
structure Bx (W : World) (B : Nat) (op d a b imm : Int) (w : World) : Prop where
  below : Below W.heap.size W w
  inst : w.heap[B]? = some (.cells #[.int .i64 op, .int .i64 d, .int .i64 a, .int .i64 b, .int .i64 imm] 27 (0, 0))
  lt : B < w.heap.size
theorem Bx.grow {W : World} {B : Nat} {op d a b imm : Int} {w w2 : World} (s : Bx W B op d a b imm w) (hb : Below w.heap.size w w2) : Bx W B op d a b imm w2 :=
  ⟨s.below.trans (hb.mono s.below.size), (hb.block _ s.lt).trans s.inst, Nat.lt_of_lt_of_le s.lt hb.size⟩
theorem Bx.facts {W : World} {B : Nat} {op d a b imm : Int} {w : World} (s : Bx W B op d a b imm w) :
    w.cell? ⟨B, 0, none⟩ = some (.int .i64 op) ∧ w.cell? ⟨B, 1, none⟩ = some (.int .i64 d) ∧ w.cell? ⟨B, 2, none⟩ = some (.int .i64 a) ∧ w.cell? ⟨B, 3, none⟩ = some (.int .i64 b) ∧ w.cell? ⟨B, 4, none⟩ = some (.int .i64 imm) := cells5 s.inst

set_option maxRecDepth 100000 in
set_option maxHeartbeats 4000000 in
theorem rtext_ok (op d a b imm : Int) (w : World) (ho : Isa.ok op d a b imm = true) :
    Calls Tryd.prog 22 #[.agg #[.int .i64 op, .int .i64 d, .int .i64 a, .int .i64 b, .int .i64 imm]] w fun e w' => e = .returned (.string ⟨(Isa.text op d a b imm).toArray⟩) ∧ Below w.heap.size w w' := by
  obtain ⟨-, ⟨d0, d1⟩, ⟨a0, a1⟩, ⟨b0, b1⟩⟩ := ok_bounds ho
  obtain ⟨i0, i1⟩ := ok_imm ho
  obtain ⟨x0, h0⟩ : ∃ x, Isa.shape (Isa.form op) 0 = x := ⟨_, rfl⟩
  obtain ⟨x1, h1⟩ : ∃ x, Isa.shape (Isa.form op) 1 = x := ⟨_, rfl⟩
  obtain ⟨x2, h2⟩ : ∃ x, Isa.shape (Isa.form op) 2 = x := ⟨_, rfl⟩
  obtain ⟨x3, h3⟩ : ∃ x, Isa.shape (Isa.form op) 3 = x := ⟨_, rfl⟩
  obtain ⟨l0, hl0⟩ : ∃ l, l = Isa.nameL op.toNat := ⟨_, rfl⟩
  have n0 : l0.length ≤ 5 := by rw [hl0]; exact Isa.nameL_len _
  have HN : Hid (nameOf op = ⟨l0.toArray⟩) := by
    unfold Hid nameOf; rw [if_neg (Isa.ok_parts ho).1, hl0]; rfl
  obtain ⟨T, hT⟩ : ∃ T, T = Isa.text op d a b imm := ⟨_, rfl⟩
  have HT : Hid (T = l0 ++ (if x0 then 32 :: Isa.regL d else []) ++ (if x1 then 32 :: Isa.regL a else []) ++ (if x2 then 32 :: Isa.regL b else []) ++ (if x3 then 32 :: Lib.itoa imm else [])) := by
    unfold Hid; rw [hT, text_cat, h0, h1, h2, h3, hl0]
  rw [← hT]
  obtain ⟨nb, hnb⟩ : ∃ nb : Nat, nb = nbN (Isa.form op) := ⟨_, rfl⟩
  have HB : Hid (immBits (Isa.form op) = nb ∧ decide (0 < nb) = x3) := ⟨by rw [hnb]; exact immBits_nb _, by rw [hnb, imm_has, h3]⟩
  have H := Lib.hid (And.intro ho (And.intro h0 (And.intro h1 h2)))
  clear ho h0 h1 h2 h3 hT hl0 hnb
  have nd : (Lib.itoa d).length ≤ 8 := Isa.itoa_len d (by omega) (by omega)
  have na : (Lib.itoa a).length ≤ 8 := Isa.itoa_len a (by omega) (by omega)
  have nbb : (Lib.itoa b).length ≤ 8 := Isa.itoa_len b (by omega) (by omega)
  have ni : (Lib.itoa imm).length ≤ 8 := Isa.itoa_len imm (by omega) (by omega)
  go_enter Tryd.func22, Tryd.ntmps22
  go_wp2_with fail
  refine (rcheck_ok _ _ _ _ _ _ H.out.1).mono ?_
  rintro e w1 ⟨rfl, hb⟩
  have s0 : Bx w w.heap.size op d a b imm w1 := ⟨(Below.alloc (Below.refl w.heap.size w) (Nat.le_refl _) (.cells #[.int .i64 op, .int .i64 d, .int .i64 a, .int .i64 b, .int .i64 imm] 27)).trans (hb.mono (by simp)),
    (hb.block w.heap.size (by simp)).trans (heap_new w _), by have := hb.size; simp at this; omega⟩
  clear hb
  obtain ⟨B, hB⟩ : ∃ B, B = w.heap.size := ⟨_, rfl⟩
  rw [← hB] at s0 ⊢
  have HBs := Lib.hid hB
  clear hB
  obtain ⟨c0, c1, c2, c3, c4⟩ := s0.facts
  go_upto_if 12 with (first
    | (go_at_call 14; refine (rname_any _ _).mono ?_; rintro e w' ⟨rfl, rfl⟩; rw [HN.out])
    | (go_at_call 36; refine (hasD_val _ _ _ H.out.2.1).mono ?_; rintro e w' ⟨rfl, rfl⟩))
  go_cut [3] (fun u wx => ∃ l : List UInt8, u = .string ⟨l.toArray⟩ ∧ l.length ≤ 15 ∧ Hid (l = l0 ++ (if x0 then 32 :: Isa.regL d else [])) ∧ Bx w B op d a b imm wx)
  case first =>
    cases x0
    · go_wp2_with fail
      go_meet
      case rel => exact ⟨l0, rfl, by omega, by unfold Hid; rw [if_neg (by decide), List.append_nil], s0⟩
    · go_wp2_with fail
      refine (digits_any d _ (by omega) (by omega)).mono ?_
      rintro e w2 ⟨rfl, hb⟩
      go_wp2_with fail
      go_meet
      case rel => exact ⟨l0 ++ 32 :: Isa.regL d, by rw [rreg_cat _ _ (by omega)], by rw [List.length_append, List.length_cons, reg_itoa_len _ (by omega)]; omega, rfl, s0.grow hb⟩
  obtain ⟨l1, rfl, n1, HL1, s1⟩ := hcut
  clear c0 c1 c2 c3 c4 s0
  obtain ⟨c0, c1, c2, c3, c4⟩ := s1.facts
  go_upto_if 21 with (first
    | (go_at_call 14; refine (rname_any _ _).mono ?_; rintro e w' ⟨rfl, rfl⟩; rw [HN.out])
    | (go_at_call 37; refine (hasA_val _ _ _ H.out.2.2.1).mono ?_; rintro e w' ⟨rfl, rfl⟩))
  go_cut [3] (fun u wx => ∃ l : List UInt8, u = .string ⟨l.toArray⟩ ∧ l.length ≤ 25 ∧ Hid (l = l1 ++ (if x1 then 32 :: Isa.regL a else [])) ∧ Bx w B op d a b imm wx)
  case first =>
    cases x1
    · go_wp2_with fail
      go_meet
      case rel => exact ⟨l1, rfl, by omega, by unfold Hid; rw [if_neg (by decide), List.append_nil], s1⟩
    · go_wp2_with fail
      refine (digits_any a _ (by omega) (by omega)).mono ?_
      rintro e w2 ⟨rfl, hb⟩
      go_wp2_with fail
      go_meet
      case rel => exact ⟨l1 ++ 32 :: Isa.regL a, by rw [rreg_cat _ _ (by omega)], by rw [List.length_append, List.length_cons, reg_itoa_len _ (by omega)]; omega, rfl, s1.grow hb⟩
  obtain ⟨l2, rfl, n2, HL2, s2⟩ := hcut
  clear c0 c1 c2 c3 c4 s1
  obtain ⟨c0, c1, c2, c3, c4⟩ := s2.facts
  go_upto_if 30 with (first
    | (go_at_call 14; refine (rname_any _ _).mono ?_; rintro e w' ⟨rfl, rfl⟩; rw [HN.out])
    | (go_at_call 38; refine (hasB_val _ _ _ H.out.2.2.2).mono ?_; rintro e w' ⟨rfl, rfl⟩))
  go_cut [3] (fun u wx => ∃ l : List UInt8, u = .string ⟨l.toArray⟩ ∧ l.length ≤ 35 ∧ Hid (l = l2 ++ (if x2 then 32 :: Isa.regL b else [])) ∧ Bx w B op d a b imm wx)
  case first =>
    cases x2
    · go_wp2_with fail
      go_meet
      case rel => exact ⟨l2, rfl, by omega, by unfold Hid; rw [if_neg (by decide), List.append_nil], s2⟩
    · go_wp2_with fail
      refine (digits_any b _ (by omega) (by omega)).mono ?_
      rintro e w2 ⟨rfl, hb⟩
      go_wp2_with fail
      go_meet
      case rel => exact ⟨l2 ++ 32 :: Isa.regL b, by rw [rreg_cat _ _ (by omega)], by rw [List.length_append, List.length_cons, reg_itoa_len _ (by omega)]; omega, rfl, s2.grow hb⟩
  obtain ⟨l3, rfl, n3, HL3, s3⟩ := hcut
  clear c0 c1 c2 c3 c4 s2
  obtain ⟨c0, c1, c2, c3, c4⟩ := s3.facts
  go_upto_if 40 with (go_at_call 39; refine (bits_val nb _ _ HB.out.1).mono ?_; rintro e w' ⟨rfl, rfl⟩)
  rw [HB.out.2]
  go_cut [3] (fun u wx => ∃ l : List UInt8, u = .string ⟨l.toArray⟩ ∧ l.length ≤ 45 ∧ Hid (l = l3 ++ (if x3 then 32 :: Lib.itoa imm else [])) ∧ Bx w B op d a b imm wx)
  case first =>
    cases x3
    · go_wp2_with fail
      go_meet
      case rel => exact ⟨l3, rfl, by omega, by unfold Hid; rw [if_neg (by decide), List.append_nil], s3⟩
    · go_wp2_with fail
      refine (digits_any imm _ (by omega) (by omega)).mono ?_
      rintro e w2 ⟨rfl, hb⟩
      go_wp2_with fail
      go_meet
      case rel => exact ⟨l3 ++ 32 :: Lib.itoa imm, by rw [imm_cat], by rw [List.length_append, List.length_cons]; omega, rfl, s3.grow hb⟩
  obtain ⟨l4, rfl, n4, HL4, s4⟩ := hcut
  clear c0 c1 c2 c3 c4 s3
  go_wp2_with fail
  go_ret
  refine ⟨?_, s4.below⟩
  rw [HT.out, HL4.out, HL3.out, HL2.out, HL1.out]
  rfl

theorem rtext_bad (op d a b imm : Int) (w : World) (ho : Isa.ok op d a b imm = false) :
    Calls Tryd.prog 22 #[.agg #[.int .i64 op, .int .i64 d, .int .i64 a, .int .i64 b, .int .i64 imm]] w fun e w' => e = .returned (.string ⟨#[63]⟩) ∧ Below w.heap.size w w' := by
  have H := Lib.hid ho
  clear ho
  go_enter Tryd.func22, Tryd.ntmps22
  go_wp2_with fail
  refine (rcheck_bad _ _ _ _ _ _ H.out).mono ?_
  rintro e w1 ⟨rfl, hb⟩
  go_wp2_with fail
  go_ret
  exact ⟨rfl, ((Below.refl _ _).alloc (Nat.le_refl _) _).trans (hb.mono (by simp))⟩

theorem rtext_any (op d a b imm : Int) (w : World) :
    Calls Tryd.prog 22 #[.agg #[.int .i64 op, .int .i64 d, .int .i64 a, .int .i64 b, .int .i64 imm]] w fun e w' => e = .returned (.string ⟨(Isa.txt op d a b imm).toArray⟩) ∧ Below w.heap.size w w' := by
  unfold Isa.txt
  cases ho : Isa.ok op d a b imm
  · exact rtext_bad op d a b imm w ho
  · exact rtext_ok op d a b imm w ho
end Go.Proofs.YtmgheeldoadnhaaDoor
