/- Unlike chars, walked. Conditions: the tables of Go's library lie. -/
import Derived.Test.YtbfikbojhmfdpaaDoorUtN
import Derived.Deep.RegionHeld3
namespace Go.Proofs.YtbfikbojhmfdpaaDoor
open Go.RowKit Bg
set_option linter.unusedVariables false
set_option linter.unusedSimpArgs false


def lexZ : List Int → List Int → Bool
  | _, [] => false
  | [], _ :: _ => true
  | x :: xs, y :: ys => if x < y then true else if y < x then false else lexZ xs ys
theorem less_lex : ∀ (a b : List Int), Byts a → Byts b → Op.bytesLess (a.map fun n => UInt8.ofNat n.toNat) (b.map fun n => UInt8.ofNat n.toNat) = lexZ a b
  | [], [], _, _ => by simp [Op.bytesLess, lexZ]
  | [], y :: ys, _, _ => by simp [Op.bytesLess, lexZ]
  | x :: xs, [], _, _ => by simp [Op.bytesLess, lexZ]
  | x :: xs, y :: ys, ha, hb => by
    have hx := ha.cons
    have hy := hb.cons
    have ih := less_lex xs ys hx.2 hy.2
    simp only [List.map_cons, Op.bytesLess, lexZ, ih]
    have e1 : (UInt8.ofNat x.toNat < UInt8.ofNat y.toNat) ↔ x < y := by
      rw [UInt8.lt_iff_toNat_lt, UInt8.toNat_ofNat', UInt8.toNat_ofNat']
      omega
    have e2 : (UInt8.ofNat x.toNat = UInt8.ofNat y.toNat) ↔ x = y := by
      rw [← UInt8.toNat_inj, UInt8.toNat_ofNat', UInt8.toNat_ofNat']
      omega
    by_cases h1 : x < y
    · rw [if_pos h1, decide_eq_true (e1.2 h1)]; rfl
    · rw [if_neg h1, decide_eq_false (fun h => h1 (e1.1 h))]
      by_cases h2 : y < x
      · rw [if_pos h2]
        have : (UInt8.ofNat x.toNat == UInt8.ofNat y.toNat) = false := by rw [beq_eq_false_iff_ne]; intro h; have := e2.1 h; omega
        rw [this]; rfl
      · rw [if_neg h2]
        have : (UInt8.ofNat x.toNat == UInt8.ofNat y.toNat) = true := by rw [beq_iff_eq]; exact e2.2 (by omega)
        rw [this]; rfl
set_option maxHeartbeats 4000000 in
theorem lex_enc {a b : Int} (ha : isC a = true) (hb : isC b = true) : lexZ (enc a) (enc b) = decide (a < b) := by
  have h1 := isC_iff.1 ha
  have h2 := isC_iff.1 hb
  rw [Bool.eq_iff_iff, decide_eq_true_eq]
  rcases enc_cases ha with ⟨p, he⟩ | ⟨p, q, he⟩ | ⟨p, q, he⟩ | ⟨p, he⟩ <;> rcases enc_cases hb with ⟨r, hf⟩ | ⟨r, s, hf⟩ | ⟨r, s, hf⟩ | ⟨r, hf⟩ <;> rw [he, hf] <;> simp only [lexZ] <;> (repeat' split) <;> simp only [true_iff, Bool.false_eq_true, false_iff] <;> omega
theorem less_str {a b : Int} (ha : isC a = true) (hb : isC b = true) : Op.bytesLess (strOfNums (enc a)).toList (strOfNums (enc b)).toList = decide (a < b) := by
  rw [ByteArray.toList_eq, ByteArray.toList_eq, strOfNums_data, strOfNums_data, less_lex _ _ (Byts.enc a) (Byts.enc b), lex_enc ha hb]
/-- The shorter of two chars' bytes begins the longer only if they are one. -/
theorem enc_pre {a b : Int} (ha : isC a = true) (hb : isC b = true) {n : Nat} (hn : n = min (enc a).length (enc b).length) : (enc a).take n = (enc b).take n ↔ a = b := by
  constructor
  · intro h
    rcases Nat.le_total (enc a).length (enc b).length with hl | hl
    · rw [Nat.min_eq_left hl] at hn
      subst hn
      rw [List.take_length] at h
      have h1 := chr_enc ha ((enc b).drop (enc a).length)
      have h3 : enc a ++ (enc b).drop (enc a).length = enc b := by
        conv => lhs; rw [h]
        rw [List.length_take, Nat.min_eq_left hl]
        exact List.take_append_drop _ _
      rw [h3] at h1
      have h2 := chr_enc hb []
      rw [List.append_nil, h1] at h2
      injection h2 with h2
      exact congrArg Prod.fst h2
    · rw [Nat.min_eq_right hl] at hn
      subst hn
      rw [List.take_length] at h
      have h1 := chr_enc hb ((enc a).drop (enc b).length)
      have h3 : enc b ++ (enc a).drop (enc b).length = enc a := by
        conv => lhs; rw [← h]
        rw [List.length_take, Nat.min_eq_left hl]
        exact List.take_append_drop _ _
      rw [h3] at h1
      have h2 := chr_enc ha []
      rw [List.append_nil, h1] at h2
      injection h2 with h2
      exact (congrArg Prod.fst h2).symm
  · rintro rfl; rfl
theorem ext_take (l : List Int) (n : Nat) : (strOfNums l).extract 0 n = strOfNums (l.take n) := by
  apply ByteArray.ext
  apply Array.toList_inj.1
  rw [ByteArray.data_extract, Array.toList_extract, strOfNums_data, strOfNums_data, List.map_take]
  unfold List.extract
  simp
theorem pre_eq {a b : Int} (ha : isC a = true) (hb : isC b = true) {n : Nat} (hn : n = min (enc a).length (enc b).length) :
    (((strOfNums (enc a)).extract 0 n).toList == ((strOfNums (enc b)).extract 0 n).toList) = (a == b) := by
  rw [ext_take, ext_take, beq_bytes ((Byts.enc a).take n) ((Byts.enc b).take n), Bool.eq_iff_iff, decide_eq_true_eq, beq_iff_eq]
  exact enc_pre ha hb hn
set_option maxRecDepth 100000 in
set_option maxHeartbeats 20000000 in
theorem apart_any {w : World} (a b : Int) (ht : Tab w) : Calls Tryd.prog 7 #[.int .i64 a, .int .i64 b] w fun e w' => e = .returned (.bool true) ∧ Below w.heap.size w w' := by
  have H0 := Lib.hid ht
  clear ht
  by_cases hab : isC a = true ∧ isC b = true
  · obtain ⟨ha, hb⟩ := hab
    have P1 : Hid (∀ w, Calls Tryd.prog 10 #[.int .i64 a] w fun e w' => e = .returned (.tuple #[.string (strOfNums (enc a)), .int .i64 0]) ∧ w = w') := Lib.hid fun w => by
      have := put_at a w
      unfold pst pe at this
      rwa [if_pos ha, if_pos ha] at this
    have P2 : Hid (∀ w, Calls Tryd.prog 10 #[.int .i64 b] w fun e w' => e = .returned (.tuple #[.string (strOfNums (enc b)), .int .i64 0]) ∧ w = w') := Lib.hid fun w => by
      have := put_at b w
      unfold pst pe at this
      rwa [if_pos hb, if_pos hb] at this
    obtain ⟨n, hn⟩ : ∃ n, n = min (enc a).length (enc b).length := ⟨_, rfl⟩
    have hq1 := pre_eq ha hb hn
    have hq2 := less_str ha hb
    have hz1 : (strOfNums (enc a)).size = (enc a).length := str_size _
    have hz2 : (strOfNums (enc b)).size = (enc b).length := str_size _
    have hl1 := enc_len a
    have hl2 := enc_len b
    obtain ⟨s, hs⟩ : ∃ s, s = strOfNums (enc a) := ⟨_, rfl⟩
    obtain ⟨t, ht⟩ : ∃ t, t = strOfNums (enc b) := ⟨_, rfl⟩
    rw [← hs] at P1 hq1 hq2 hz1
    rw [← ht] at P2 hq1 hq2 hz2
    have hm : min (s.size : Int) (t.size : Int) = (n : Int) := by omega
    have g1 : 0 < (n : Int) := by omega
    have g4 : 0 < n := by omega
    have g5 : n ≤ s.size := by omega
    have g6 : n ≤ t.size := by omega
    have g2 : (n : Int) ≤ (s.size : Int) := by omega
    have g3 : (n : Int) ≤ (t.size : Int) := by omega
    have hT := H0.out.below ((Below.refl w.heap.size w).drew)
    have BZ := Lib.hid ((Below.refl w.heap.size w).drew)
    clear hs ht hz1 hz2 hl1 hl2 hn ha hb
    go_enter Tryd.func7, Tryd.ntmps7
    go_wp2_with fail
    refine (P1.out _).mono ?_
    rintro e w' ⟨rfl, rfl⟩
    go_wp2_with fail
    refine (P2.out _).mono ?_
    rintro e w' ⟨rfl, rfl⟩
    go_wp2_with fail
    refine wp_region_noPanic ?_
    refine wp_region_held_drew (S := fun w' => Tab w') (by kernel_rfl) hT (fun hHeld => ?_)
    refine wpAnyH_take (i := 0) (oi := { dst := some 32, op := Op.move (Operand.tmp 9), type := 3, pos := "outright.go:63", after := #[], guard := none }) (v := ?_) rfl (by kernel_rfl) (by kernel_rfl) (by kernel_rfl) (fun _ _ _ h => h) (Or.inl ⟨by rfl, ?_⟩) (by assumption) ?_
    rotate_left
    · (intro w0 hSw; (try dsimp only at hSw); go_simp; (try with_reducible rfl))
    try simp only [Act.put, List.setIfInBounds_toArray, List.set_cons_zero, List.set_cons_succ]
    refine wpAnyH_take (i := 1) (oi := { dst := some 33, op := Op.binOp BinOp.gtr 3 (Operand.tmp 32) (Operand.const (Value.int IntKind.i64 0)) 3, type := 4, pos := "outright.go:63", after := #[{ on := 0, ground := Ground.data }], guard := none }) (v := ?_) rfl (by kernel_rfl) (by kernel_rfl) (by kernel_rfl) (fun _ _ _ h => h) (Or.inl ⟨by rfl, ?_⟩) (by assumption) ?_
    rotate_left
    · (intro w0 hSw; (try dsimp only at hSw); go_simp; (try with_reducible rfl))
    try simp only [Act.put, List.setIfInBounds_toArray, List.set_cons_zero, List.set_cons_succ]
    refine wpAnyH_take (i := 2) (oi := { dst := some 34, op := Op.move (Operand.tmp 33), type := 4, pos := "outright.go:63", after := #[{ on := 1, ground := Ground.data }], guard := none }) (v := ?_) rfl (by kernel_rfl) (by kernel_rfl) (by kernel_rfl) (fun _ _ _ h => h) (Or.inl ⟨by rfl, ?_⟩) (by assumption) ?_
    rotate_left
    · (intro w0 hSw; (try dsimp only at hSw); go_simp; (try with_reducible rfl))
    try simp only [Act.put, List.setIfInBounds_toArray, List.set_cons_zero, List.set_cons_succ]
    refine wpAnyH_take (i := 3) (oi := { dst := some 35, op := Op.move (Operand.tmp 5), type := 9, pos := "outright.go:63", after := #[{ on := 2, ground := Ground.guard }], guard := some (2, true) }) (v := ?_) rfl (by kernel_rfl) (by kernel_rfl) (by kernel_rfl) (fun _ _ _ h => h) (Or.inl ⟨by rfl, ?_⟩) (by assumption) ?_
    rotate_left
    · (intro w0 hSw; (try dsimp only at hSw); go_simp; (try with_reducible rfl))
    try simp only [Act.put, List.setIfInBounds_toArray, List.set_cons_zero, List.set_cons_succ]
    refine wpAnyH_take (i := 4) (oi := { dst := some 36, op := Op.move (Operand.tmp 9), type := 3, pos := "outright.go:63", after := #[{ on := 2, ground := Ground.guard }], guard := some (2, true) }) (v := ?_) rfl (by kernel_rfl) (by kernel_rfl) (by kernel_rfl) (fun _ _ _ h => h) (Or.inl ⟨by rfl, ?_⟩) (by assumption) ?_
    rotate_left
    · (intro w0 hSw; (try dsimp only at hSw); go_simp; (try with_reducible rfl))
    try simp only [Act.put, List.setIfInBounds_toArray, List.set_cons_zero, List.set_cons_succ]
    refine wpAnyH_take (i := 5) (oi := { dst := some 37, op := Op.slice 9 (Operand.tmp 35) none (some (Operand.tmp 36)) none, type := 9, pos := "outright.go:63", after := #[{ on := 3, ground := Ground.data }, { on := 4, ground := Ground.data }, { on := 2, ground := Ground.guard }], guard := some (2, true) }) (v := ?_) rfl (by kernel_rfl) (by kernel_rfl) (by kernel_rfl) (fun _ _ _ h => h) (Or.inl ⟨by rfl, ?_⟩) (by assumption) ?_
    rotate_left
    · (intro w0 hSw; (try dsimp only at hSw); go_simp; (try with_reducible rfl))
    try simp only [Act.put, List.setIfInBounds_toArray, List.set_cons_zero, List.set_cons_succ]
    refine wpAnyH_take (i := 6) (oi := { dst := some 38, op := Op.move (Operand.tmp 7), type := 9, pos := "outright.go:63", after := #[{ on := 2, ground := Ground.guard }], guard := some (2, true) }) (v := ?_) rfl (by kernel_rfl) (by kernel_rfl) (by kernel_rfl) (fun _ _ _ h => h) (Or.inl ⟨by rfl, ?_⟩) (by assumption) ?_
    rotate_left
    · (intro w0 hSw; (try dsimp only at hSw); go_simp; (try with_reducible rfl))
    try simp only [Act.put, List.setIfInBounds_toArray, List.set_cons_zero, List.set_cons_succ]
    refine wpAnyH_take (i := 7) (oi := { dst := some 39, op := Op.move (Operand.tmp 9), type := 3, pos := "outright.go:63", after := #[{ on := 2, ground := Ground.guard }], guard := some (2, true) }) (v := ?_) rfl (by kernel_rfl) (by kernel_rfl) (by kernel_rfl) (fun _ _ _ h => h) (Or.inl ⟨by rfl, ?_⟩) (by assumption) ?_
    rotate_left
    · (intro w0 hSw; (try dsimp only at hSw); go_simp; (try with_reducible rfl))
    try simp only [Act.put, List.setIfInBounds_toArray, List.set_cons_zero, List.set_cons_succ]
    refine wpAnyH_take (i := 8) (oi := { dst := some 40, op := Op.slice 9 (Operand.tmp 38) none (some (Operand.tmp 39)) none, type := 9, pos := "outright.go:63", after := #[{ on := 6, ground := Ground.data }, { on := 7, ground := Ground.data }, { on := 2, ground := Ground.guard }], guard := some (2, true) }) (v := ?_) rfl (by kernel_rfl) (by kernel_rfl) (by kernel_rfl) (fun _ _ _ h => h) (Or.inl ⟨by rfl, ?_⟩) (by assumption) ?_
    rotate_left
    · (intro w0 hSw; (try dsimp only at hSw); go_simp; (try with_reducible rfl))
    try simp only [Act.put, List.setIfInBounds_toArray, List.set_cons_zero, List.set_cons_succ]
    refine wpAnyH_take (i := 9) (oi := { dst := some 41, op := Op.binOp BinOp.eql 9 (Operand.tmp 37) (Operand.tmp 40) 9, type := 4, pos := "outright.go:63", after := #[{ on := 5, ground := Ground.data }, { on := 8, ground := Ground.data }, { on := 2, ground := Ground.guard }], guard := some (2, true) }) (v := ?_) rfl (by kernel_rfl) (by kernel_rfl) (by kernel_rfl) (fun _ _ _ h => h) (Or.inl ⟨by rfl, ?_⟩) (by assumption) ?_
    rotate_left
    · (intro w0 hSw; (try dsimp only at hSw); go_simp; (try with_reducible rfl))
    try simp only [Act.put, List.setIfInBounds_toArray, List.set_cons_zero, List.set_cons_succ]
    refine wpAnyH_take (i := 10) (oi := { dst := some 42, op := Op.move (Operand.tmp 0), type := 3, pos := "outright.go:63", after := #[{ on := 2, ground := Ground.guard }], guard := some (2, true) }) (v := ?_) rfl (by kernel_rfl) (by kernel_rfl) (by kernel_rfl) (fun _ _ _ h => h) (Or.inl ⟨by rfl, ?_⟩) (by assumption) ?_
    rotate_left
    · (intro w0 hSw; (try dsimp only at hSw); go_simp; (try with_reducible rfl))
    try simp only [Act.put, List.setIfInBounds_toArray, List.set_cons_zero, List.set_cons_succ]
    refine wpAnyH_take (i := 11) (oi := { dst := some 43, op := Op.move (Operand.tmp 1), type := 3, pos := "outright.go:63", after := #[{ on := 2, ground := Ground.guard }], guard := some (2, true) }) (v := ?_) rfl (by kernel_rfl) (by kernel_rfl) (by kernel_rfl) (fun _ _ _ h => h) (Or.inl ⟨by rfl, ?_⟩) (by assumption) ?_
    rotate_left
    · (intro w0 hSw; (try dsimp only at hSw); go_simp; (try with_reducible rfl))
    try simp only [Act.put, List.setIfInBounds_toArray, List.set_cons_zero, List.set_cons_succ]
    refine wpAnyH_take (i := 12) (oi := { dst := some 44, op := Op.binOp BinOp.eql 3 (Operand.tmp 42) (Operand.tmp 43) 3, type := 4, pos := "outright.go:63", after := #[{ on := 10, ground := Ground.data }, { on := 11, ground := Ground.data }, { on := 2, ground := Ground.guard }], guard := some (2, true) }) (v := ?_) rfl (by kernel_rfl) (by kernel_rfl) (by kernel_rfl) (fun _ _ _ h => h) (Or.inl ⟨by rfl, ?_⟩) (by assumption) ?_
    rotate_left
    · (intro w0 hSw; (try dsimp only at hSw); go_simp; (try with_reducible rfl))
    try simp only [Act.put, List.setIfInBounds_toArray, List.set_cons_zero, List.set_cons_succ]
    refine wpAnyH_take (i := 13) (oi := { dst := some 45, op := Op.binOp BinOp.eql 4 (Operand.tmp 41) (Operand.tmp 44) 4, type := 4, pos := "outright.go:63", after := #[{ on := 9, ground := Ground.data }, { on := 12, ground := Ground.data }, { on := 2, ground := Ground.guard }], guard := some (2, true) }) (v := ?_) rfl (by kernel_rfl) (by kernel_rfl) (by kernel_rfl) (fun _ _ _ h => h) (Or.inl ⟨by rfl, ?_⟩) (by assumption) ?_
    rotate_left
    · (intro w0 hSw; (try dsimp only at hSw); go_simp; (try with_reducible rfl))
    try simp only [Act.put, List.setIfInBounds_toArray, List.set_cons_zero, List.set_cons_succ]
    refine wpAnyH_take (i := 14) (oi := { dst := some 46, op := Op.pick (Operand.tmp 34) (Operand.tmp 45) (Operand.const (Value.bool false)), type := 4, pos := "outright.go:63", after := #[{ on := 2, ground := Ground.data }, { on := 13, ground := Ground.data }], guard := none }) (v := ?_) rfl (by kernel_rfl) (by kernel_rfl) (by kernel_rfl) (fun _ _ _ h => h) (Or.inl ⟨by rfl, ?_⟩) (by assumption) ?_
    rotate_left
    · (intro w0 hSw; (try dsimp only at hSw); go_simp; (try with_reducible rfl))
    try simp only [Act.put, List.setIfInBounds_toArray, List.set_cons_zero, List.set_cons_succ]
    refine wpAnyH_take (i := 15) (oi := { dst := some 47, op := Op.move (Operand.tmp 46), type := 4, pos := "outright.go:63", after := #[{ on := 14, ground := Ground.data }, { on := 2, ground := Ground.chain }], guard := none }) (v := ?_) rfl (by kernel_rfl) (by kernel_rfl) (by kernel_rfl) (fun _ _ _ h => h) (Or.inl ⟨by rfl, ?_⟩) (by assumption) ?_
    rotate_left
    · (intro w0 hSw; (try dsimp only at hSw); go_simp; (try with_reducible rfl))
    try simp only [Act.put, List.setIfInBounds_toArray, List.set_cons_zero, List.set_cons_succ]
    refine wpAnyH_take (i := 16) (oi := { dst := some 48, op := Op.move (Operand.tmp 5), type := 9, pos := "outright.go:63", after := #[{ on := 15, ground := Ground.guard }], guard := some (15, true) }) (v := ?_) rfl (by kernel_rfl) (by kernel_rfl) (by kernel_rfl) (fun _ _ _ h => h) (Or.inl ⟨by rfl, ?_⟩) (by assumption) ?_
    rotate_left
    · (intro w0 hSw; (try dsimp only at hSw); go_simp; (try with_reducible rfl))
    try simp only [Act.put, List.setIfInBounds_toArray, List.set_cons_zero, List.set_cons_succ]
    refine wpAnyH_take (i := 17) (oi := { dst := some 49, op := Op.move (Operand.tmp 7), type := 9, pos := "outright.go:63", after := #[{ on := 15, ground := Ground.guard }], guard := some (15, true) }) (v := ?_) rfl (by kernel_rfl) (by kernel_rfl) (by kernel_rfl) (fun _ _ _ h => h) (Or.inl ⟨by rfl, ?_⟩) (by assumption) ?_
    rotate_left
    · (intro w0 hSw; (try dsimp only at hSw); go_simp; (try with_reducible rfl))
    try simp only [Act.put, List.setIfInBounds_toArray, List.set_cons_zero, List.set_cons_succ]
    refine wpAnyH_take (i := 18) (oi := { dst := some 50, op := Op.binOp BinOp.lss 9 (Operand.tmp 48) (Operand.tmp 49) 9, type := 4, pos := "outright.go:63", after := #[{ on := 16, ground := Ground.data }, { on := 17, ground := Ground.data }, { on := 15, ground := Ground.guard }], guard := some (15, true) }) (v := ?_) rfl (by kernel_rfl) (by kernel_rfl) (by kernel_rfl) (fun _ _ _ h => h) (Or.inl ⟨by rfl, ?_⟩) (by assumption) ?_
    rotate_left
    · (intro w0 hSw; (try dsimp only at hSw); go_simp; (try with_reducible rfl))
    try simp only [Act.put, List.setIfInBounds_toArray, List.set_cons_zero, List.set_cons_succ]
    refine wpAnyH_take (i := 19) (oi := { dst := some 51, op := Op.move (Operand.tmp 0), type := 3, pos := "outright.go:63", after := #[{ on := 15, ground := Ground.guard }], guard := some (15, true) }) (v := ?_) rfl (by kernel_rfl) (by kernel_rfl) (by kernel_rfl) (fun _ _ _ h => h) (Or.inl ⟨by rfl, ?_⟩) (by assumption) ?_
    rotate_left
    · (intro w0 hSw; (try dsimp only at hSw); go_simp; (try with_reducible rfl))
    try simp only [Act.put, List.setIfInBounds_toArray, List.set_cons_zero, List.set_cons_succ]
    refine wpAnyH_take (i := 20) (oi := { dst := some 52, op := Op.move (Operand.tmp 1), type := 3, pos := "outright.go:63", after := #[{ on := 15, ground := Ground.guard }], guard := some (15, true) }) (v := ?_) rfl (by kernel_rfl) (by kernel_rfl) (by kernel_rfl) (fun _ _ _ h => h) (Or.inl ⟨by rfl, ?_⟩) (by assumption) ?_
    rotate_left
    · (intro w0 hSw; (try dsimp only at hSw); go_simp; (try with_reducible rfl))
    try simp only [Act.put, List.setIfInBounds_toArray, List.set_cons_zero, List.set_cons_succ]
    refine wpAnyH_take (i := 21) (oi := { dst := some 53, op := Op.binOp BinOp.lss 3 (Operand.tmp 51) (Operand.tmp 52) 3, type := 4, pos := "outright.go:63", after := #[{ on := 19, ground := Ground.data }, { on := 20, ground := Ground.data }, { on := 15, ground := Ground.guard }], guard := some (15, true) }) (v := ?_) rfl (by kernel_rfl) (by kernel_rfl) (by kernel_rfl) (fun _ _ _ h => h) (Or.inl ⟨by rfl, ?_⟩) (by assumption) ?_
    rotate_left
    · (intro w0 hSw; (try dsimp only at hSw); go_simp; (try with_reducible rfl))
    try simp only [Act.put, List.setIfInBounds_toArray, List.set_cons_zero, List.set_cons_succ]
    refine wpAnyH_take (i := 22) (oi := { dst := some 54, op := Op.binOp BinOp.eql 4 (Operand.tmp 50) (Operand.tmp 53) 4, type := 4, pos := "outright.go:63", after := #[{ on := 18, ground := Ground.data }, { on := 21, ground := Ground.data }, { on := 15, ground := Ground.guard }], guard := some (15, true) }) (v := ?_) rfl (by kernel_rfl) (by kernel_rfl) (by kernel_rfl) (fun _ _ _ h => h) (Or.inl ⟨by rfl, ?_⟩) (by assumption) ?_
    rotate_left
    · (intro w0 hSw; (try dsimp only at hSw); go_simp; (try with_reducible rfl))
    try simp only [Act.put, List.setIfInBounds_toArray, List.set_cons_zero, List.set_cons_succ]
    refine wpAnyH_take (i := 23) (oi := { dst := some 55, op := Op.pick (Operand.tmp 47) (Operand.tmp 54) (Operand.const (Value.bool false)), type := 4, pos := "outright.go:63", after := #[{ on := 15, ground := Ground.data }, { on := 22, ground := Ground.data }], guard := none }) (v := ?_) rfl (by kernel_rfl) (by kernel_rfl) (by kernel_rfl) (fun _ _ _ h => h) (Or.inl ⟨by rfl, ?_⟩) (by assumption) ?_
    rotate_left
    · (intro w0 hSw; (try dsimp only at hSw); go_simp; (try with_reducible rfl))
    try simp only [Act.put, List.setIfInBounds_toArray, List.set_cons_zero, List.set_cons_succ]
    refine wpAnyH_take (i := 24) (oi := { dst := some 56, op := Op.move (Operand.tmp 55), type := 4, pos := "outright.go:63", after := #[{ on := 23, ground := Ground.data }, { on := 15, ground := Ground.chain }], guard := none }) (v := ?_) rfl (by kernel_rfl) (by kernel_rfl) (by kernel_rfl) (fun _ _ _ h => h) (Or.inl ⟨by rfl, ?_⟩) (by assumption) ?_
    rotate_left
    · (intro w0 hSw; (try dsimp only at hSw); go_simp; (try with_reducible rfl))
    try simp only [Act.put, List.setIfInBounds_toArray, List.set_cons_zero, List.set_cons_succ]
    refine wpAnyH_ready (rs := [25]) (by kernel_rfl) (by simp) ?_
    refine AllReadyH.cons rfl (fun K hK => ?_) AllReadyH.nil
    go_simp
    go_wp2_with (go_at_call 16; refine (works_at hHeld).mono ?_; rintro e w2 ⟨rfl, bb⟩; have hT2 := hHeld.below bb; have BY := Lib.hid (BZ.out.trans (bb.mono BZ.out.size)); clear bb)
    refine hK.out _ _ ?_ (fun hHeld => ?_)
    · assumption
    clear hK K
    refine wpAnyH_take (i := 26) (oi := { dst := some 58, op := Op.pick (Operand.tmp 56) (Operand.tmp 57) (Operand.const (Value.bool false)), type := 4, pos := "outright.go:63", after := #[{ on := 24, ground := Ground.data }, { on := 25, ground := Ground.data }], guard := none }) (v := ?_) rfl (by kernel_rfl) (by kernel_rfl) (by kernel_rfl) (fun _ _ _ h => h) (Or.inl ⟨by rfl, ?_⟩) (by assumption) ?_
    rotate_left
    · (intro w0 hSw; (try dsimp only at hSw); go_simp; (try with_reducible rfl))
    try simp only [Act.put, List.setIfInBounds_toArray, List.set_cons_zero, List.set_cons_succ]
    refine wpAnyH_take (i := 27) (oi := { dst := some 4, op := Op.assign (Operand.tmp 58), type := 4, pos := "outright.go:63", after := #[{ on := 26, ground := Ground.data }, { on := 25, ground := Ground.chain }, { on := 0, ground := Ground.phase }, { on := 1, ground := Ground.phase }, { on := 2, ground := Ground.phase }, { on := 3, ground := Ground.phase }, { on := 4, ground := Ground.phase }, { on := 5, ground := Ground.phase }, { on := 6, ground := Ground.phase }, { on := 7, ground := Ground.phase }, { on := 8, ground := Ground.phase }, { on := 9, ground := Ground.phase }, { on := 10, ground := Ground.phase }, { on := 11, ground := Ground.phase }, { on := 12, ground := Ground.phase }, { on := 13, ground := Ground.phase }, { on := 14, ground := Ground.phase }, { on := 15, ground := Ground.phase }, { on := 16, ground := Ground.phase }, { on := 17, ground := Ground.phase }, { on := 18, ground := Ground.phase }, { on := 19, ground := Ground.phase }, { on := 20, ground := Ground.phase }, { on := 21, ground := Ground.phase }, { on := 22, ground := Ground.phase }, { on := 23, ground := Ground.phase }, { on := 24, ground := Ground.phase }, { on := 25, ground := Ground.phase }, { on := 26, ground := Ground.phase }], guard := none }) (v := ?_) rfl (by kernel_rfl) (by kernel_rfl) (by kernel_rfl) (fun _ _ _ h => h) (Or.inl ⟨by rfl, ?_⟩) (by assumption) ?_
    rotate_left
    · (intro w0 hSw; (try dsimp only at hSw); go_simp; (try with_reducible rfl))
    try simp only [Act.put, List.setIfInBounds_toArray, List.set_cons_zero, List.set_cons_succ]
    refine wpAnyH_done (by kernel_rfl) (NoPanic.normal ?_) _
    go_wp2_with fail
    go_ret
    exact ⟨rfl, BY.out⟩
  · have hne : ¬ (pe a = 0 ∧ pe b = 0) := fun h => hab (by
      have h1 := h.1
      have h2 := h.2
      unfold pe at h1 h2
      constructor
      · by_cases h3 : isC a = true
        · exact h3
        · rw [if_neg h3] at h1; cases h1
      · by_cases h3 : isC b = true
        · exact h3
        · rw [if_neg h3] at h2; cases h2)
    have P1 := Lib.hid fun w => put_at a w
    have P2 := Lib.hid fun w => put_at b w
    obtain ⟨s, hs⟩ : ∃ s, s = pst a := ⟨_, rfl⟩
    obtain ⟨t, ht⟩ : ∃ t, t = pst b := ⟨_, rfl⟩
    obtain ⟨x, hx⟩ : ∃ x, x = pe a := ⟨_, rfl⟩
    obtain ⟨y, hy⟩ : ∃ y, y = pe b := ⟨_, rfl⟩
    rw [← hs, ← hx] at P1
    rw [← ht, ← hy] at P2
    rw [← hx, ← hy] at hne
    clear hs ht hx hy hab
    by_cases h1 : x = 0
    · have h2 : ¬ y = 0 := fun h => hne ⟨h1, h⟩
      have e1 : (x != 0) = false := by simp [h1]
      have e2 : (y != 0) = true := by simp [h2]
      clear hne
      go_enter Tryd.func7, Tryd.ntmps7
      go_wp2_with fail
      refine (P1.out _).mono ?_
      rintro e w' ⟨rfl, rfl⟩
      go_wp2_with fail
      refine (P2.out _).mono ?_
      rintro e w' ⟨rfl, rfl⟩
      go_wp2_with (go_at_call 16; refine (works_at H0.out).mono ?_; rintro e w2 ⟨rfl, bb⟩; replace bb := Lib.hid bb)
      all_goals go_ret
      all_goals exact ⟨rfl, bb.out⟩
    · have e1 : (x != 0) = true := by simp [h1]
      clear hne
      go_enter Tryd.func7, Tryd.ntmps7
      go_wp2_with fail
      refine (P1.out _).mono ?_
      rintro e w' ⟨rfl, rfl⟩
      go_wp2_with fail
      refine (P2.out _).mono ?_
      rintro e w' ⟨rfl, rfl⟩
      go_wp2_with (go_at_call 16; refine (works_at H0.out).mono ?_; rintro e w2 ⟨rfl, bb⟩; replace bb := Lib.hid bb)
      all_goals go_ret
      all_goals exact ⟨rfl, bb.out⟩
end Go.Proofs.YtbfikbojhmfdpaaDoor
