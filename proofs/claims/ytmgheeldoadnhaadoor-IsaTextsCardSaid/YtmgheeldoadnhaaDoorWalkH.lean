/- Contracts: Text. Conditions: the tables are as laid. -/
import Derived.Test.YtmgheeldoadnhaaDoorWalkF
import Derived.Test.YtmgheeldoadnhaaDoorWalkG
import Derived.Test.YtmgheeldoadnhaaDoorShelf
import Derived.Deep.DeepCutAuto
import Derived.Deep.CutBlock
import Derived.Lib.AppendIntMem
namespace Go.Proofs.YtmgheeldoadnhaaDoor
open Go.RowKit

theorem info9 : (Tryd.prog.info? 9).map (fun i => (i.zero, i.size, i.bytes)) = some (some (.string ByteArray.empty), 1, 16) := by kernel_rfl

/-- Text's blocks: the instruction, the form's fields, the words so far. -/
structure Tx (W : World) (B F : Nat) (op d a b imm : Int) (x0 x1 x2 x3 : Bool) (v : Value) (xs : List ByteArray) (w : World) : Prop where
  below : Below W.heap.size W w
  inst : w.heap[B]? = some (.cells #[.int .i64 op, .int .i64 d, .int .i64 a, .int .i64 b, .int .i64 imm] 27 (0, 0))
  fld : w.heap[F]? = some (.cells #[.bool x0, .bool x1, .bool x2, .bool x3] 59 (0, 0))
  own : w.ownsRow W.heap.size 9 1 v xs.length (xs.map Value.string)
  leB : W.heap.size ≤ B
  leF : W.heap.size ≤ F
theorem own_ne {w : World} {B n : Nat} {v : Value} {xs : List Value} {k t : Nat} {cs : Array Value} {fr : Nat × Nat} (h : w.ownsRow B 9 1 v n xs) (hk : w.heap[k]? = some (.cells cs t fr)) (ht : t ≠ 9) : some k ≠ v.ownBlock := by
  intro e
  rcases h.2 with ⟨rfl, _⟩ | ⟨g, cap, cur, rfl, _, hg, _⟩
  · cases e
  · simp only [Value.ownBlock, Option.some.injEq] at e
    subst e
    rw [hk] at hg
    simp only [Option.some.injEq, Obj.cells.injEq] at hg
    exact ht hg.2.1
theorem lt_of_heap {w : World} {k : Nat} {o : Obj} (h : w.heap[k]? = some o) : k < w.heap.size := lt_of_block h
theorem Tx.grown {W : World} {B F : Nat} {op d a b imm : Int} {x0 x1 x2 x3 : Bool} {v v' : Value} {xs ys : List ByteArray} {w w2 : World} (s : Tx W B F op d a b imm x0 x1 x2 x3 v xs w) (hg : w.grownBy w2 v.ownBlock)
    (ho : w2.ownsRow W.heap.size 9 1 v' ys.length (ys.map Value.string)) : Tx W B F op d a b imm x0 x1 x2 x3 v' ys w2 where
  below := s.below.grown hg s.below.size (fun k hk => (s.own.lt k hk).1)
  inst := (hg.block B (lt_of_heap s.inst) (own_ne s.own s.inst (by decide))).trans s.inst
  fld := (hg.block F (lt_of_heap s.fld) (own_ne s.own s.fld (by decide))).trans s.fld
  own := ho
  leB := s.leB
  leF := s.leF
theorem own_below {w w2 : World} {B n : Nat} {v : Value} {xs : List Value} (h : w.ownsRow B 9 1 v n xs) (hb : Below w.heap.size w w2) : w2.ownsRow B 9 1 v n xs := by
  refine ⟨h.1, ?_⟩
  rcases h.2 with h' | ⟨g, cap, cur, hv, hB, hg, r⟩
  · exact Or.inl h'
  · exact Or.inr ⟨g, cap, cur, hv, hB, (hb.block g (lt_of_heap hg)).trans hg, r⟩
theorem Tx.grow {W : World} {B F : Nat} {op d a b imm : Int} {x0 x1 x2 x3 : Bool} {v : Value} {xs : List ByteArray} {w w2 : World} (s : Tx W B F op d a b imm x0 x1 x2 x3 v xs w) (hb : Below w.heap.size w w2) : Tx W B F op d a b imm x0 x1 x2 x3 v xs w2 where
  below := s.below.trans (hb.mono s.below.size)
  inst := (hb.block B (lt_of_heap s.inst)).trans s.inst
  fld := (hb.block F (lt_of_heap s.fld)).trans s.fld
  own := own_below s.own hb
  leB := s.leB
  leF := s.leF
theorem cells4 {w : World} {b t : Nat} {v0 v1 v2 v3 : Value} {fr : Nat × Nat} (h : w.heap[b]? = some (.cells #[v0, v1, v2, v3] t fr)) :
    w.cell? ⟨b, 0, none⟩ = some v0 ∧ w.cell? ⟨b, 1, none⟩ = some v1 ∧ w.cell? ⟨b, 2, none⟩ = some v2 ∧ w.cell? ⟨b, 3, none⟩ = some v3 := by
  simp [World.cell?, h]
theorem Tx.facts {W : World} {B F : Nat} {op d a b imm : Int} {x0 x1 x2 x3 : Bool} {v : Value} {xs : List ByteArray} {w : World} (s : Tx W B F op d a b imm x0 x1 x2 x3 v xs w) :
    (w.cell? ⟨B, 0, none⟩ = some (.int .i64 op) ∧ w.cell? ⟨B, 1, none⟩ = some (.int .i64 d) ∧ w.cell? ⟨B, 2, none⟩ = some (.int .i64 a) ∧ w.cell? ⟨B, 3, none⟩ = some (.int .i64 b) ∧ w.cell? ⟨B, 4, none⟩ = some (.int .i64 imm)) ∧
    (w.cell? ⟨F, 0, none⟩ = some (.bool x0) ∧ w.cell? ⟨F, 1, none⟩ = some (.bool x1) ∧ w.cell? ⟨F, 2, none⟩ = some (.bool x2) ∧ w.cell? ⟨F, 3, none⟩ = some (.bool x3)) := ⟨cells5 s.inst, cells4 s.fld⟩
def regB (r : Int) : ByteArray := ⟨(Isa.regL r).toArray⟩
def itoaB (n : Int) : ByteArray := ⟨(Lib.itoa n).toArray⟩
/-- The words behind so many registers. -/
def wl (x0 x1 x2 : Bool) (op d a b : Int) : List ByteArray := [nameOf op] ++ (if x0 then [regB d] else []) ++ (if x1 then [regB a] else []) ++ (if x2 then [regB b] else [])
theorem itoa_reg (r : Int) (h0 : 0 ≤ r) (h1 : r ≤ 31) (w : World) :
    Calls Tryd.prog 40 #[.int .i64 r] w fun e w' => e = .returned (.string ⟨(Lib.decDigits r.toNat).toArray⟩) ∧ w = w' := by
  obtain ⟨n, rfl⟩ : ∃ n : Nat, r = n := ⟨r.toNat, by omega⟩
  exact (Tryd.strconv_Itoa_small n (by omega) w).mono fun e w' ⟨he, hw⟩ => ⟨by rw [he]; simp, hw.symm⟩
theorem reg_cat (r : Int) : (⟨#[114]⟩ : ByteArray) ++ (⟨(Lib.decDigits r.toNat).toArray⟩ : ByteArray) = regB r := by
  unfold regB Isa.regL
  apply ByteArray.ext
  rw [ByteArray.data_append]
  simp
theorem reg_len (r : Int) (h0 : 0 ≤ r) (h1 : r ≤ 31) : (Lib.decDigits r.toNat).length ≤ 2 := Isa.decDigits_len 1 r.toNat (by show _ < 100; omega)
theorem Tx.add {W : World} {B F : Nat} {op d a b imm : Int} {x0 x1 x2 x3 : Bool} {v v' : Value} {xs : List ByteArray} {y : ByteArray} {o : Obj} {w w2 : World} (s : Tx W B F op d a b imm x0 x1 x2 x3 v xs w) (hg : (w.alloc o).grownBy w2 v.ownBlock)
    (ho : w2.ownsRow W.heap.size 9 1 v' (xs.length + 1) (xs.map Value.string ++ [Value.string y])) : Tx W B F op d a b imm x0 x1 x2 x3 v' (xs ++ [y]) w2 :=
  (s.grow ((Below.refl _ _).alloc (Nat.le_refl _) o)).grown hg (by simpa using ho)
theorem itoa_any (n : Int) (h0 : -9223372036854775808 ≤ n) (h1 : n ≤ 9223372036854775807) (w : World) (h : Env2 w) :
    Calls Tryd.prog 40 #[.int .i64 n] w fun e w' => e = .returned (.string (itoaB n)) ∧ Below w.heap.size w w' :=
  (Tryd.strconv_Itoa n h0 h1 w h.tab).mono fun _ _ ⟨he, k, os, hw⟩ => ⟨he, by rw [hw]; exact Lib.below_grow _ _ (Nat.le_refl _) _ _⟩
theorem slice_of_own {w : World} {B n : Nat} {v : Value} {xs : List Value} (h : w.ownsRow B 9 1 v n xs) (hn : 0 < n) : ∃ g cap, v = .slice (some ⟨g, 0, none⟩) n cap := by
  rcases h.2 with ⟨_, h0⟩ | ⟨g, cap, cur, hv, _⟩
  · omega
  · exact ⟨g, cap, hv⟩
theorem join_any (xs : List ByteArray) (g cap B : Nat) (w : World) (hown : w.ownsRow B 9 1 (.slice (some ⟨g, 0, none⟩) xs.length cap) xs.length (xs.map Value.string)) (hx : xs.length ≤ 5)
    (hlen : (Lib.join (xs.map (·.data.toList)) [32]).length ≤ 100) :
    Calls Tryd.prog 41 #[.slice (some ⟨g, 0, none⟩) xs.length cap, .string ⟨#[32]⟩] w fun e w' => e = .returned (.string ⟨(Lib.join (xs.map (·.data.toList)) [32]).toArray⟩) ∧ Below w.heap.size w w' := by
  refine Tryd.strings_Join g 0 cap xs ⟨#[32]⟩ w ?_ ?_ (by omega) ?_ (by show (Lib.join _ [32]).length ≤ _; omega)
  · intro j x hj
    have := hown.cells (g := g) rfl j (.string x) (by rw [List.getElem?_map, hj]; rfl)
    unfold Addr.add at this
    split at this
    · rename_i hs; subst hs; simpa using this
    · exact this
  · exact (hown.lt g rfl).2
  · rcases hown.2 with ⟨h0, _⟩ | ⟨g', cap', cur, hv, _, _, hle, _⟩
    · cases h0
    · cases hv; exact hle
theorem nameOf_list {op d a b imm : Int} (ho : Isa.ok op d a b imm = true) : (nameOf op).data.toList = Isa.nameL op.toNat := by
  obtain ⟨⟨o1, o2⟩, _⟩ := ok_bounds ho
  have := Isa.form_pos op
  unfold nameOf
  rw [if_neg (by omega)]
  rfl
theorem ok_imm {op d a b imm : Int} (ho : Isa.ok op d a b imm = true) : -1048576 ≤ imm ∧ imm ≤ 1048575 := by
  unfold Isa.ok at ho
  simp only [Bool.and_eq_true, decide_eq_true_eq] at ho
  obtain ⟨⟨_, h1⟩, h2⟩ := ho
  have h3 : -1048576 ≤ Isa.low op := by unfold Isa.low; (repeat' split) <;> omega
  have h4 : Isa.high op ≤ 1048575 := by unfold Isa.high; (repeat' split) <;> omega
  omega
theorem text_of {op d a b imm : Int} (ho : Isa.ok op d a b imm = true) {x0 x1 x2 x3 : Bool} (hx : x0 = Isa.shape (Isa.form op) 0 ∧ x1 = Isa.shape (Isa.form op) 1 ∧ x2 = Isa.shape (Isa.form op) 2 ∧ x3 = Isa.shape (Isa.form op) 3) :
    Lib.join ((wl x0 x1 x2 op d a b ++ if x3 then [itoaB imm] else []).map (·.data.toList)) [32] = Isa.text op d a b imm := by
  obtain ⟨h0, h1, h2, h3⟩ := hx
  unfold Isa.text Isa.words wl
  rw [← h0, ← h1, ← h2, ← h3]
  congr 1
  have hn := nameOf_list ho
  simp only [List.map_append, List.map_cons, List.map_nil]
  rw [hn]
  congr 1
  · congr 1
    · congr 1
      · congr 1
        cases x0 <;> rfl
      · cases x1 <;> rfl
    · cases x2 <;> rfl
  · cases x3 <;> rfl
theorem text_len {op d a b imm : Int} (ho : Isa.ok op d a b imm = true) : (Isa.text op d a b imm).length ≤ 60 := by
  obtain ⟨_, ⟨d1, d2⟩, ⟨a1, a2⟩, ⟨b1, b2⟩⟩ := ok_bounds ho
  obtain ⟨m1, m2⟩ := ok_imm ho
  have hl : (Isa.words (Isa.shape (Isa.form op) 0) (Isa.shape (Isa.form op) 1) (Isa.shape (Isa.form op) 2) (Isa.shape (Isa.form op) 3) op d a b imm).length ≤ 5 := by
    unfold Isa.words
    simp only [List.length_append, List.length_cons, List.length_nil]
    have q (x : Bool) (y : List UInt8) : (if x = true then [y] else []).length ≤ 1 := by cases x <;> simp
    have := q (Isa.shape (Isa.form op) 0) (Isa.regL d)
    have := q (Isa.shape (Isa.form op) 1) (Isa.regL a)
    have := q (Isa.shape (Isa.form op) 2) (Isa.regL b)
    have := q (Isa.shape (Isa.form op) 3) (Lib.itoa imm)
    omega
  have hj := Isa.join_len 8 (Isa.words (Isa.shape (Isa.form op) 0) (Isa.shape (Isa.form op) 1) (Isa.shape (Isa.form op) 2) (Isa.shape (Isa.form op) 3) op d a b imm) (by
    intro x hx
    have hr (r : Int) (h0 : 0 ≤ r) (h1 : r ≤ 31) : (Isa.regL r).length ≤ 8 := by
      have := reg_len r h0 h1
      unfold Isa.regL; simp only [List.length_cons]; omega
    unfold Isa.words at hx
    simp only [List.mem_append, List.mem_singleton] at hx
    rcases hx with (((hx | hx) | hx) | hx) | hx
    · rw [hx]; have := Isa.nameL_len op.toNat; omega
    · split at hx
      · rw [List.mem_singleton.1 hx]; exact hr d d1 d2
      · cases hx
    · split at hx
      · rw [List.mem_singleton.1 hx]; exact hr a a1 a2
      · cases hx
    · split at hx
      · rw [List.mem_singleton.1 hx]; exact hr b b1 b2
      · cases hx
    · split at hx
      · rw [List.mem_singleton.1 hx]; exact Isa.itoa_len imm (by omega) (by omega)
      · cases hx)
  unfold Isa.text
  omega

set_option maxRecDepth 100000 in
set_option maxHeartbeats 8000000 in
theorem text_ok (op d a b imm : Int) (w : World) (h : Env2 w) (ho : Isa.ok op d a b imm = true) :
    Calls Tryd.prog 21 #[.agg #[.int .i64 op, .int .i64 d, .int .i64 a, .int .i64 b, .int .i64 imm]] w fun e w' => e = .returned (.string ⟨(Isa.text op d a b imm).toArray⟩) ∧ Below w.heap.size w w' := by
  obtain ⟨⟨o1, o2⟩, ⟨d1, d2⟩, ⟨a1, a2⟩, ⟨b1, b2⟩⟩ := ok_bounds ho
  have hl := Isa.form_le op
  have hsz := h.size
  have H := Lib.hid ho
  clear ho
  have i0 := idx0; have i1 := idx1; have i2 := idx2
  obtain ⟨ii, hi, hz0, hz1, hz2⟩ := info_parts info9
  have HII := Lib.hid (And.intro hi (And.intro hz0 (And.intro hz1 hz2)))
  clear hi hz0 hz1 hz2
  go_enter Tryd.func21, Tryd.ntmps21
  go_wp2_with fail
  refine (check_ok _ _ _ _ _ _ (h.toEnv.alloc _) H.out).mono ?_
  rintro e w1 ⟨rfl, hb⟩
  have hb0 := (Below.alloc (Below.refl w.heap.size w) (Nat.le_refl _) (.cells #[.int .i64 op, .int .i64 d, .int .i64 a, .int .i64 b, .int .i64 imm] 27)).trans (hb.mono (by simp))
  have hI := Lib.hid ((hb.block w.heap.size (by simp)).trans (heap_new w (.cells #[.int .i64 op, .int .i64 d, .int .i64 a, .int .i64 b, .int .i64 imm] 27)))
  obtain ⟨c0, -, -, -, -⟩ := cells5 hI.out
  have hz : w.heap.size < w1.heap.size := by have := hb.size; simp at this; omega
  clear hb
  have he1 := h.below hb0
  go_wp2_with fail
  refine (name_any _ _ he1.toEnv).mono ?_
  rintro e w' ⟨rfl, rfl⟩
  go_wp2_with fail
  have hb2 := hb0.alloc (by omega) (.cells #[.string (nameOf op)] 9)
  have hI2 : (w1.alloc (.cells #[.string (nameOf op)] 9)).heap[w.heap.size]? = _ := (Below.heap_alloc _ _ _ hz).trans hI.out
  have hown : (w1.alloc (.cells #[.string (nameOf op)] 9)).ownsRow w.heap.size 9 1 (.slice (some ⟨w1.heap.size, 0, none⟩) 1 1) 1 [.string (nameOf op)] :=
    ⟨rfl, .inr ⟨w1.heap.size, 1, _, rfl, by omega, heap_new _ _, Nat.le_refl _, by unfold maxLen; omega, rfl, rfl⟩⟩
  have hzn : w.heap.size < (w1.alloc (.cells #[.string (nameOf op)] 9)).heap.size := by simp; omega
  obtain ⟨wn, hwn⟩ : ∃ wn, wn = w1.alloc (.cells #[.string (nameOf op)] 9) := ⟨_, rfl⟩
  rw [← hwn] at hb2 hI2 hown hzn ⊢
  obtain ⟨K, hK⟩ : ∃ K, K = w1.heap.size := ⟨_, rfl⟩
  rw [← hK] at hown ⊢
  clear hwn hK hz hI c0 hb0 he1
  have he := h.below hb2
  refine (form_any _ _).mono ?_
  rintro e w' ⟨rfl, rfl⟩
  have s0 : wn.cell? ⟨1, Isa.form op * 4, none⟩ = _ := he.shapes (Isa.form op) 0 (by omega) (by omega)
  have s1 := he.shapes (Isa.form op) 1 (by omega) (by omega)
  have s2 := he.shapes (Isa.form op) 2 (by omega) (by omega)
  have s3 := he.shapes (Isa.form op) 3 (by omega) (by omega)
  obtain ⟨x0, hx0⟩ : ∃ x, x = Isa.shape (Isa.form op) 0 := ⟨_, rfl⟩
  obtain ⟨x1, hx1⟩ : ∃ x, x = Isa.shape (Isa.form op) 1 := ⟨_, rfl⟩
  obtain ⟨x2, hx2⟩ : ∃ x, x = Isa.shape (Isa.form op) 2 := ⟨_, rfl⟩
  obtain ⟨x3, hx3⟩ : ∃ x, x = Isa.shape (Isa.form op) 3 := ⟨_, rfl⟩
  rw [← hx0] at s0
  rw [← hx1] at s1
  rw [← hx2] at s2
  rw [← hx3] at s3
  have HX := Lib.hid (And.intro hx0 (And.intro hx1 (And.intro hx2 hx3)))
  clear hx0 hx1 hx2 hx3
  go_wp2_with fail
  have t : Tx w w.heap.size wn.heap.size op d a b imm x0 x1 x2 x3 (.slice (some ⟨K, 0, none⟩) 1 1) [nameOf op] (wn.alloc (.cells #[.bool x0, .bool x1, .bool x2, .bool x3] 59)) :=
    ⟨hb2.alloc (by omega) _, (Below.heap_alloc _ _ _ hzn).trans hI2, heap_new _ _, hown.alloc _, Nat.le_refl _, by omega⟩
  obtain ⟨wo, hwo⟩ : ∃ wo, wo = wn.alloc (.cells #[.bool x0, .bool x1, .bool x2, .bool x3] 59) := ⟨_, rfl⟩
  rw [← hwo] at t ⊢
  obtain ⟨F, hF⟩ : ∃ F, F = wn.heap.size := ⟨_, rfl⟩
  rw [← hF] at t ⊢
  clear hwo hF hzn hb2 hI2 hown he s0 s1 s2 s3
  refine (registers_any _ _).mono ?_
  rintro e wp ⟨rfl, hb⟩
  replace t := t.grow hb
  clear hb
  go_upto_block 0 with fail
  go_cut [3, 5, 6] (fun v _ _ wx => Tx w w.heap.size F op d a b imm x0 x1 x2 x3 v (wl x0 x1 x2 op d a b) wx)
  case first =>
    obtain ⟨⟨c0, c1, c2, c3, c4⟩, f0, f1, f2, f3⟩ := t.facts
    go_wp2_with fail
    have hs := Isa.shapes_of (Isa.form op)
    rw [← HX.out.1, ← HX.out.2.1, ← HX.out.2.2.1] at hs
    simp only [List.mem_cons, List.mem_nil_iff, or_false, Prod.mk.injEq] at hs
    rcases hs with ⟨rfl, rfl, rfl⟩ | ⟨rfl, rfl, rfl⟩ | ⟨rfl, rfl, rfl⟩ | ⟨rfl, rfl, rfl⟩ | ⟨rfl, rfl, rfl⟩ | ⟨rfl, rfl, rfl⟩
    · refine wp_loop_rounds 4 ?_
      rw [rounds_succ]
      go_wp2_with fail
      refine (itoa_reg d d1 d2 _).mono ?_
      rintro e w' ⟨rfl, rfl⟩
      have l0 := reg_len d d1 d2
      go_wp2_with (first | (at_builtin; go_must (refine wpList_append_own _ rfl _ _ 64 rfl w.heap.size 9 ii (.string ByteArray.empty) 1 16 Tryd.underlying64 HII.out.1 HII.out.2.1 HII.out.2.2.1 HII.out.2.2.2 rfl (by decide) _ _ _ rfl (t.own.alloc _) ⟨wp.heap.size, 0, none⟩ 1 1 [.string ((⟨#[114]⟩ : ByteArray) ++ (⟨(Lib.decDigits d.toNat).toArray⟩ : ByteArray))] rfl rfl (cell_one_new _ _ _) (fun x hx => by simp at hx; subst hx; rfl) (by simp [maxLen]) (by simp) (by have := t.below.size; simp; omega) ?_); intro v4 w4 hown4 hgrow4 hnil4))
      replace t := t.add (show (wp.alloc _).grownBy w4 (Value.slice (some ⟨K, 0, none⟩) 1 1).ownBlock from hgrow4) hown4
      rw [reg_cat] at t
      clear hnil4 hown4 hgrow4 c0 c1 c2 c3 c4 f0 f1 f2 f3 l0
      obtain ⟨⟨c0, c1, c2, c3, c4⟩, f0, f1, f2, f3⟩ := t.facts
      rw [rounds_succ]
      go_wp2_with fail
      refine (itoa_reg a a1 a2 _).mono ?_
      rintro e w' ⟨rfl, rfl⟩
      have l0 := reg_len a a1 a2
      go_wp2_with (first | (at_builtin; go_must (refine wpList_append_own _ rfl _ _ 64 rfl w.heap.size 9 ii (.string ByteArray.empty) 1 16 Tryd.underlying64 HII.out.1 HII.out.2.1 HII.out.2.2.1 HII.out.2.2.2 rfl (by decide) _ _ _ rfl (t.own.alloc _) ⟨w4.heap.size, 0, none⟩ 1 1 [.string ((⟨#[114]⟩ : ByteArray) ++ (⟨(Lib.decDigits a.toNat).toArray⟩ : ByteArray))] rfl rfl (cell_one_new _ _ _) (fun x hx => by simp at hx; subst hx; rfl) (by simp [maxLen]) (by simp) (by have := t.below.size; simp; omega) ?_); intro v5 w5 hown5 hgrow5 hnil5))
      replace t := t.add (show (w4.alloc _).grownBy w5 (v4).ownBlock from hgrow5) hown5
      rw [reg_cat] at t
      clear hnil5 hown5 hgrow5 c0 c1 c2 c3 c4 f0 f1 f2 f3 l0
      obtain ⟨⟨c0, c1, c2, c3, c4⟩, f0, f1, f2, f3⟩ := t.facts
      rw [rounds_succ]
      go_wp2_with fail
      refine (itoa_reg b b1 b2 _).mono ?_
      rintro e w' ⟨rfl, rfl⟩
      have l0 := reg_len b b1 b2
      go_wp2_with (first | (at_builtin; go_must (refine wpList_append_own _ rfl _ _ 64 rfl w.heap.size 9 ii (.string ByteArray.empty) 1 16 Tryd.underlying64 HII.out.1 HII.out.2.1 HII.out.2.2.1 HII.out.2.2.2 rfl (by decide) _ _ _ rfl (t.own.alloc _) ⟨w5.heap.size, 0, none⟩ 1 1 [.string ((⟨#[114]⟩ : ByteArray) ++ (⟨(Lib.decDigits b.toNat).toArray⟩ : ByteArray))] rfl rfl (cell_one_new _ _ _) (fun x hx => by simp at hx; subst hx; rfl) (by simp [maxLen]) (by simp) (by have := t.below.size; simp; omega) ?_); intro v6 w6 hown6 hgrow6 hnil6))
      replace t := t.add (show (w5.alloc _).grownBy w6 (v5).ownBlock from hgrow6) hown6
      rw [reg_cat] at t
      clear hnil6 hown6 hgrow6 c0 c1 c2 c3 c4 f0 f1 f2 f3 l0
      obtain ⟨⟨c0, c1, c2, c3, c4⟩, f0, f1, f2, f3⟩ := t.facts
      rw [rounds_succ]
      go_wp2_with fail
      go_meet
      case rel => exact t
    · refine wp_loop_rounds 4 ?_
      rw [rounds_succ]
      go_wp2_with fail
      refine (itoa_reg d d1 d2 _).mono ?_
      rintro e w' ⟨rfl, rfl⟩
      have l0 := reg_len d d1 d2
      go_wp2_with (first | (at_builtin; go_must (refine wpList_append_own _ rfl _ _ 64 rfl w.heap.size 9 ii (.string ByteArray.empty) 1 16 Tryd.underlying64 HII.out.1 HII.out.2.1 HII.out.2.2.1 HII.out.2.2.2 rfl (by decide) _ _ _ rfl (t.own.alloc _) ⟨wp.heap.size, 0, none⟩ 1 1 [.string ((⟨#[114]⟩ : ByteArray) ++ (⟨(Lib.decDigits d.toNat).toArray⟩ : ByteArray))] rfl rfl (cell_one_new _ _ _) (fun x hx => by simp at hx; subst hx; rfl) (by simp [maxLen]) (by simp) (by have := t.below.size; simp; omega) ?_); intro v4 w4 hown4 hgrow4 hnil4))
      replace t := t.add (show (wp.alloc _).grownBy w4 (Value.slice (some ⟨K, 0, none⟩) 1 1).ownBlock from hgrow4) hown4
      rw [reg_cat] at t
      clear hnil4 hown4 hgrow4 c0 c1 c2 c3 c4 f0 f1 f2 f3 l0
      obtain ⟨⟨c0, c1, c2, c3, c4⟩, f0, f1, f2, f3⟩ := t.facts
      rw [rounds_succ]
      go_wp2_with fail
      refine (itoa_reg a a1 a2 _).mono ?_
      rintro e w' ⟨rfl, rfl⟩
      have l0 := reg_len a a1 a2
      go_wp2_with (first | (at_builtin; go_must (refine wpList_append_own _ rfl _ _ 64 rfl w.heap.size 9 ii (.string ByteArray.empty) 1 16 Tryd.underlying64 HII.out.1 HII.out.2.1 HII.out.2.2.1 HII.out.2.2.2 rfl (by decide) _ _ _ rfl (t.own.alloc _) ⟨w4.heap.size, 0, none⟩ 1 1 [.string ((⟨#[114]⟩ : ByteArray) ++ (⟨(Lib.decDigits a.toNat).toArray⟩ : ByteArray))] rfl rfl (cell_one_new _ _ _) (fun x hx => by simp at hx; subst hx; rfl) (by simp [maxLen]) (by simp) (by have := t.below.size; simp; omega) ?_); intro v5 w5 hown5 hgrow5 hnil5))
      replace t := t.add (show (w4.alloc _).grownBy w5 (v4).ownBlock from hgrow5) hown5
      rw [reg_cat] at t
      clear hnil5 hown5 hgrow5 c0 c1 c2 c3 c4 f0 f1 f2 f3 l0
      obtain ⟨⟨c0, c1, c2, c3, c4⟩, f0, f1, f2, f3⟩ := t.facts
      rw [rounds_succ]
      go_wp2_with fail
      rw [rounds_succ]
      go_wp2_with fail
      go_meet
      case rel => exact t
    · refine wp_loop_rounds 4 ?_
      rw [rounds_succ]
      go_wp2_with fail
      refine (itoa_reg d d1 d2 _).mono ?_
      rintro e w' ⟨rfl, rfl⟩
      have l0 := reg_len d d1 d2
      go_wp2_with (first | (at_builtin; go_must (refine wpList_append_own _ rfl _ _ 64 rfl w.heap.size 9 ii (.string ByteArray.empty) 1 16 Tryd.underlying64 HII.out.1 HII.out.2.1 HII.out.2.2.1 HII.out.2.2.2 rfl (by decide) _ _ _ rfl (t.own.alloc _) ⟨wp.heap.size, 0, none⟩ 1 1 [.string ((⟨#[114]⟩ : ByteArray) ++ (⟨(Lib.decDigits d.toNat).toArray⟩ : ByteArray))] rfl rfl (cell_one_new _ _ _) (fun x hx => by simp at hx; subst hx; rfl) (by simp [maxLen]) (by simp) (by have := t.below.size; simp; omega) ?_); intro v4 w4 hown4 hgrow4 hnil4))
      replace t := t.add (show (wp.alloc _).grownBy w4 (Value.slice (some ⟨K, 0, none⟩) 1 1).ownBlock from hgrow4) hown4
      rw [reg_cat] at t
      clear hnil4 hown4 hgrow4 c0 c1 c2 c3 c4 f0 f1 f2 f3 l0
      obtain ⟨⟨c0, c1, c2, c3, c4⟩, f0, f1, f2, f3⟩ := t.facts
      rw [rounds_succ]
      go_wp2_with fail
      rw [rounds_succ]
      go_wp2_with fail
      rw [rounds_succ]
      go_wp2_with fail
      go_meet
      case rel => exact t
    · refine wp_loop_rounds 4 ?_
      rw [rounds_succ]
      go_wp2_with fail
      rw [rounds_succ]
      go_wp2_with fail
      refine (itoa_reg a a1 a2 _).mono ?_
      rintro e w' ⟨rfl, rfl⟩
      have l0 := reg_len a a1 a2
      go_wp2_with (first | (at_builtin; go_must (refine wpList_append_own _ rfl _ _ 64 rfl w.heap.size 9 ii (.string ByteArray.empty) 1 16 Tryd.underlying64 HII.out.1 HII.out.2.1 HII.out.2.2.1 HII.out.2.2.2 rfl (by decide) _ _ _ rfl (t.own.alloc _) ⟨wp.heap.size, 0, none⟩ 1 1 [.string ((⟨#[114]⟩ : ByteArray) ++ (⟨(Lib.decDigits a.toNat).toArray⟩ : ByteArray))] rfl rfl (cell_one_new _ _ _) (fun x hx => by simp at hx; subst hx; rfl) (by simp [maxLen]) (by simp) (by have := t.below.size; simp; omega) ?_); intro v4 w4 hown4 hgrow4 hnil4))
      replace t := t.add (show (wp.alloc _).grownBy w4 (Value.slice (some ⟨K, 0, none⟩) 1 1).ownBlock from hgrow4) hown4
      rw [reg_cat] at t
      clear hnil4 hown4 hgrow4 c0 c1 c2 c3 c4 f0 f1 f2 f3 l0
      obtain ⟨⟨c0, c1, c2, c3, c4⟩, f0, f1, f2, f3⟩ := t.facts
      rw [rounds_succ]
      go_wp2_with fail
      refine (itoa_reg b b1 b2 _).mono ?_
      rintro e w' ⟨rfl, rfl⟩
      have l0 := reg_len b b1 b2
      go_wp2_with (first | (at_builtin; go_must (refine wpList_append_own _ rfl _ _ 64 rfl w.heap.size 9 ii (.string ByteArray.empty) 1 16 Tryd.underlying64 HII.out.1 HII.out.2.1 HII.out.2.2.1 HII.out.2.2.2 rfl (by decide) _ _ _ rfl (t.own.alloc _) ⟨w4.heap.size, 0, none⟩ 1 1 [.string ((⟨#[114]⟩ : ByteArray) ++ (⟨(Lib.decDigits b.toNat).toArray⟩ : ByteArray))] rfl rfl (cell_one_new _ _ _) (fun x hx => by simp at hx; subst hx; rfl) (by simp [maxLen]) (by simp) (by have := t.below.size; simp; omega) ?_); intro v5 w5 hown5 hgrow5 hnil5))
      replace t := t.add (show (w4.alloc _).grownBy w5 (v4).ownBlock from hgrow5) hown5
      rw [reg_cat] at t
      clear hnil5 hown5 hgrow5 c0 c1 c2 c3 c4 f0 f1 f2 f3 l0
      obtain ⟨⟨c0, c1, c2, c3, c4⟩, f0, f1, f2, f3⟩ := t.facts
      rw [rounds_succ]
      go_wp2_with fail
      go_meet
      case rel => exact t
    · refine wp_loop_rounds 4 ?_
      rw [rounds_succ]
      go_wp2_with fail
      rw [rounds_succ]
      go_wp2_with fail
      refine (itoa_reg a a1 a2 _).mono ?_
      rintro e w' ⟨rfl, rfl⟩
      have l0 := reg_len a a1 a2
      go_wp2_with (first | (at_builtin; go_must (refine wpList_append_own _ rfl _ _ 64 rfl w.heap.size 9 ii (.string ByteArray.empty) 1 16 Tryd.underlying64 HII.out.1 HII.out.2.1 HII.out.2.2.1 HII.out.2.2.2 rfl (by decide) _ _ _ rfl (t.own.alloc _) ⟨wp.heap.size, 0, none⟩ 1 1 [.string ((⟨#[114]⟩ : ByteArray) ++ (⟨(Lib.decDigits a.toNat).toArray⟩ : ByteArray))] rfl rfl (cell_one_new _ _ _) (fun x hx => by simp at hx; subst hx; rfl) (by simp [maxLen]) (by simp) (by have := t.below.size; simp; omega) ?_); intro v4 w4 hown4 hgrow4 hnil4))
      replace t := t.add (show (wp.alloc _).grownBy w4 (Value.slice (some ⟨K, 0, none⟩) 1 1).ownBlock from hgrow4) hown4
      rw [reg_cat] at t
      clear hnil4 hown4 hgrow4 c0 c1 c2 c3 c4 f0 f1 f2 f3 l0
      obtain ⟨⟨c0, c1, c2, c3, c4⟩, f0, f1, f2, f3⟩ := t.facts
      rw [rounds_succ]
      go_wp2_with fail
      rw [rounds_succ]
      go_wp2_with fail
      go_meet
      case rel => exact t
    · refine wp_loop_rounds 4 ?_
      rw [rounds_succ]
      go_wp2_with fail
      rw [rounds_succ]
      go_wp2_with fail
      rw [rounds_succ]
      go_wp2_with fail
      rw [rounds_succ]
      go_wp2_with fail
      go_meet
      case rel => exact t
  case rest =>
    have t := hcut
    clear hcut
    have hwl : 1 ≤ (wl x0 x1 x2 op d a b).length ∧ (wl x0 x1 x2 op d a b).length ≤ 4 := by
      unfold wl
      have q (x : Bool) (y : ByteArray) : (if x = true then [y] else []).length ≤ 1 := by cases x <;> simp
      have := q x0 (regB d)
      have := q x1 (regB a)
      have := q x2 (regB b)
      simp only [List.length_append, List.length_cons, List.length_nil]
      omega
    obtain ⟨⟨c0, c1, c2, c3, c4⟩, f0, f1, f2, f3⟩ := t.facts
    have HT := Lib.hid (text_of H.out HX.out)
    have HL := Lib.hid (text_len H.out)
    cases x3
    · go_wp2_with fail
      obtain ⟨g, cap, hv⟩ := slice_of_own t.own (by omega)
      rw [hv] at t ⊢
      have ht := HT.out
      have hl2 := HL.out
      simp only [Bool.false_eq_true, if_false, List.append_nil] at ht
      refine (join_any _ g cap _ _ t.own (by omega) (by rw [ht]; omega)).mono ?_
      rintro e w9 ⟨rfl, hb⟩
      rw [ht]
      clear ht hl2 hv
      go_wp2_with fail
      go_ret
      exact ⟨rfl, t.below.trans (hb.mono t.below.size)⟩
    · have hm := ok_imm H.out
      go_wp2_with fail
      refine (itoa_any imm (by omega) (by omega) _ (h.below t.below)).mono ?_
      rintro e w8 ⟨rfl, hb⟩
      replace t := t.grow hb
      clear hb c0 c1 c2 c3 c4 f0 f1 f2 f3 hm
      go_wp2_with (first | (at_builtin; go_must (refine wpList_append_own _ rfl _ _ 64 rfl w.heap.size 9 ii (.string ByteArray.empty) 1 16 Tryd.underlying64 HII.out.1 HII.out.2.1 HII.out.2.2.1 HII.out.2.2.2 rfl (by decide) _ _ _ rfl (t.own.alloc _) ⟨w8.heap.size, 0, none⟩ 1 1 [.string (itoaB imm)] rfl rfl (cell_one_new _ _ _) (fun x hx => by simp at hx; subst hx; rfl) (by simp [maxLen]; omega) (by omega) (by have := t.below.size; simp; omega) ?_); intro v9 w9 hown9 hgrow9 hnil9))
      replace t := t.add (show (w8.alloc _).grownBy w9 u3.ownBlock from hgrow9) hown9
      clear hnil9 hown9 hgrow9
      obtain ⟨g, cap, hv⟩ := slice_of_own t.own (by simp)
      rw [hv] at t ⊢
      have ht := HT.out
      have hl2 := HL.out
      simp only [if_true] at ht
      refine (join_any _ g cap _ _ t.own (by simp; omega) (by rw [ht]; omega)).mono ?_
      rintro e wz ⟨rfl, hb⟩
      rw [ht]
      clear ht hl2 hv
      go_wp2_with fail
      go_ret
      exact ⟨rfl, t.below.trans (hb.mono t.below.size)⟩

set_option maxRecDepth 100000 in
set_option maxHeartbeats 1000000 in
theorem text_bad (op d a b imm : Int) (w : World) (h : Env w) (ho : Isa.ok op d a b imm = false) :
    Calls Tryd.prog 21 #[.agg #[.int .i64 op, .int .i64 d, .int .i64 a, .int .i64 b, .int .i64 imm]] w fun e w' => e = .returned (.string ⟨#[63]⟩) ∧ Below w.heap.size w w' := by
  have H := Lib.hid ho
  clear ho
  go_enter Tryd.func21, Tryd.ntmps21
  go_wp2_with fail
  refine (check_bad _ _ _ _ _ _ (h.alloc _) H.out).mono ?_
  rintro e w1 ⟨rfl, hb⟩
  go_wp2_with fail
  go_ret
  exact ⟨rfl, ((Below.refl _ _).alloc (Nat.le_refl _) _).trans (hb.mono (by simp))⟩
theorem text_any (op d a b imm : Int) (w : World) (h : Env2 w) :
    Calls Tryd.prog 21 #[.agg #[.int .i64 op, .int .i64 d, .int .i64 a, .int .i64 b, .int .i64 imm]] w fun e w' => e = .returned (.string ⟨(Isa.txt op d a b imm).toArray⟩) ∧ Below w.heap.size w w' := by
  cases ho : Isa.ok op d a b imm
  · refine (text_bad op d a b imm w h.toEnv ho).mono fun e w' ⟨he, hb⟩ => ⟨?_, hb⟩
    rw [he]; unfold Isa.txt; rw [if_neg (by rw [ho]; decide)]
  · refine (text_ok op d a b imm w h ho).mono fun e w' ⟨he, hb⟩ => ⟨?_, hb⟩
    rw [he]; unfold Isa.txt; rw [if_pos ho]
end Go.Proofs.YtmgheeldoadnhaaDoor
