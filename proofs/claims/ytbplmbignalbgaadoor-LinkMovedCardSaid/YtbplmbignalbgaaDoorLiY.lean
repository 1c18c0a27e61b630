/- Contracts: words and instructions alone. Conditions: the items lie as told. -/
import Derived.Test.YtbplmbignalbgaaDoorLiW
namespace Go.Proofs.YtbplmbignalbgaaDoor
open Go.RowKit Asm
set_option linter.unusedVariables false
set_option linter.unusedSimpArgs false

theorem one_ic (x : It) : ∀ u ∈ icells x, u.oneCell' = true := by
  have h := one_rowL [x]
  have e : rowL [x] = icells x := by simp [rowL]
  rwa [e] at h
theorem pl_hit {X : Nat → It} {k : Nat} (h : (X k).kind = 6 ∨ (X k).kind = 1) : pl X (k + 1) = pl X k ++ [X k] := if_pos h
theorem pl_miss {X : Nat → It} {k : Nat} (h : ¬ ((X k).kind = 6 ∨ (X k).kind = 1)) : pl X (k + 1) = pl X k := if_neg h
set_option maxRecDepth 100000 in
set_option maxHeartbeats 8000000 in
theorem plain_at {w : World} {p : Option Addr} {n c : Nat} {X : Nat → It} (h : Items w p n c X) (m : Nat) (hm : m ≤ n ∧ m ≤ 60 ∧ (m = n ∨ m = 60)) :
    Calls Tryd.prog 17 #[.slice p n c] w fun e w' => ∃ v, e = .returned v ∧ w'.ownsRow w.heap.size 40 8 v (pl X m).length (rowL (pl X m)) ∧ Below w.heap.size w w' := by
  obtain ⟨i0, hi, hz0, hz1, hz2⟩ := infoIt_of
  have hnx := Nat.le_trans h.le h.max
  have H := Lib.hid h
  clear h
  go_enter Tryd.func17, Tryd.ntmps17
  go_wp2_with fail
  go_loopw [3, 4] (fun s3 s4 wr => ∃ k : Nat, s4 = .int .i64 k ∧ k ≤ m ∧ wr.ownsRow w.heap.size 40 8 s3 (pl X k).length (rowL (pl X k)) ∧ Below w.heap.size w wr) (fun _ s4 _ => m - (intOf s4).toNat)
  case atStart => exact ⟨0, rfl, Nat.zero_le _, World.ownsRow_nil _ _ _ _, Below.refl _ _⟩
  case round =>
    obtain ⟨k, rfl, hk, ho, hb⟩ := hrel
    obtain ⟨v3, hv3⟩ : ∃ v3, v3 = u3 := ⟨_, rfl⟩
    rw [← hv3] at ho ⊢
    clear hv3
    by_cases hlt : k < m
    · have d1 : decide ((k : Int) < (n : Int)) = true := decide_eq_true (by omega)
      have d2 : decide ((k : Int) < 60) = true := decide_eq_true (by omega)
      have ek : (k : Int) < (n : Int) := by omega
      have hpl := pl_len X k
      obtain ⟨b2, off2, rfl, k0, k1, k2, k3, k4, k5, k6, k7⟩ := (H.out.below hb).at (show k < n by omega)
      obtain ⟨x, hx⟩ : ∃ x, x = X k := ⟨_, rfl⟩
      rw [← hx] at k0 k1 k2 k3 k4 k5 k6 k7
      have hal := (Below.refl wr.heap.size wr).alloc (Nat.le_refl _) (.cells #[.int .i64 x.kind, .int .i64 x.op, .int .i64 x.d, .int .i64 x.a, .int .i64 x.b, .int .i64 x.imm, .string x.lab, .int .u32 x.word] 40)
      have hN := cells8 (heap_new wr (.cells #[.int .i64 x.kind, .int .i64 x.op, .int .i64 x.d, .int .i64 x.a, .int .i64 x.b, .int .i64 x.imm, .string x.lab, .int .u32 x.word] 40))
      have hb3 := hb.trans (hal.mono hb.size)
      have ho3 := ho.alloc (.cells #[.int .i64 x.kind, .int .i64 x.op, .int .i64 x.d, .int .i64 x.a, .int .i64 x.b, .int .i64 x.imm, .string x.lab, .int .u32 x.word] 40)
      obtain ⟨w2, hw2⟩ : ∃ w2, w2 = wr.alloc (.cells #[.int .i64 x.kind, .int .i64 x.op, .int .i64 x.d, .int .i64 x.a, .int .i64 x.b, .int .i64 x.imm, .string x.lab, .int .u32 x.word] 40) := ⟨_, rfl⟩
      obtain ⟨Q, hQ⟩ : ∃ Q, Q = wr.heap.size := ⟨_, rfl⟩
      rw [← hw2] at hN hb3 ho3
      rw [← hQ] at hN
      have HX := Lib.hid hx
      have hb3s := hb3.size
      clear hb ho hal hx
      go_upto_region 6 with fail
      rw [← hw2, ← hQ]
      clear hw2 hQ k0 k1 k2 k3 k4 k5 k6 k7
      obtain ⟨c0, c1, c2, c3, c4, c5, c6, c7⟩ := hN
      by_cases hk61 : x.kind = 6 ∨ x.kind = 1
      · have HK := Lib.hid hk61
        have key : ((x.kind == 6) = true) ∨ ((x.kind == 6) = false ∧ (x.kind == 1) = true) := by
          rcases hk61 with h6 | h1
          · exact Or.inl (by simp [h6])
          · exact Or.inr ⟨by simp [h1], by simp [h1]⟩
        clear hk61
        rcases key with d3 | ⟨d3, d4⟩
        · go_wp2_with (first
            | (at_builtin; refine wpList_append_own _ rfl _ _ 25 rfl w.heap.size 40 i0 (.agg #[.int .i64 0, .int .i64 0, .int .i64 0, .int .i64 0, .int .i64 0, .int .i64 0, .string ByteArray.empty, .int .u32 0]) 8 72 Tryd.underlying25 hi hz0 hz1 hz2 rfl (by decide) _ _ _ rfl (ho3.alloc _) ⟨w2.heap.size, 0, none⟩ 1 1 (icells x) rfl rfl (fun t u hu => (cell_newL w2 (icells x) 40 t).trans hu) (one_ic x) ?c3 ?c4 ?c5 ?_)
            | fail)
          case c3 => unfold maxLen; omega
          case c4 => omega
          case c5 => simp; omega
          intro v' w6 hown3 hgrow _
          have hb6 : Below w.heap.size w w6 := (hb3.alloc (hb3.size) _).grown hgrow (by simp; omega) (fun q hq => (ho3.lt q hq).1)
          have H3 := Lib.hid (And.intro hown3 hb6)
          clear hown3 hgrow hb6 ho3 hb3
          go_wp2_with fail
          go_roundw
          case rel =>
            refine ⟨k + 1, by go_num, hlt, ?_, H3.out.2⟩
            have e2 : rowL [x] = icells x := by simp [rowL]
            rw [pl_hit (by rw [← HX.out]; exact HK.out), ← HX.out, rowL_app, List.length_append, e2]
            exact H3.out.1
          case measure => simp [intOf]; omega
        · go_wp2_with (first
            | (at_builtin; refine wpList_append_own _ rfl _ _ 25 rfl w.heap.size 40 i0 (.agg #[.int .i64 0, .int .i64 0, .int .i64 0, .int .i64 0, .int .i64 0, .int .i64 0, .string ByteArray.empty, .int .u32 0]) 8 72 Tryd.underlying25 hi hz0 hz1 hz2 rfl (by decide) _ _ _ rfl (ho3.alloc _) ⟨w2.heap.size, 0, none⟩ 1 1 (icells x) rfl rfl (fun t u hu => (cell_newL w2 (icells x) 40 t).trans hu) (one_ic x) ?c3 ?c4 ?c5 ?_)
            | fail)
          case c3 => unfold maxLen; omega
          case c4 => omega
          case c5 => simp; omega
          intro v' w6 hown3 hgrow _
          have hb6 : Below w.heap.size w w6 := (hb3.alloc (hb3.size) _).grown hgrow (by simp; omega) (fun q hq => (ho3.lt q hq).1)
          have H3 := Lib.hid (And.intro hown3 hb6)
          clear hown3 hgrow hb6 ho3 hb3
          go_wp2_with fail
          go_roundw
          case rel =>
            refine ⟨k + 1, by go_num, hlt, ?_, H3.out.2⟩
            have e2 : rowL [x] = icells x := by simp [rowL]
            rw [pl_hit (by rw [← HX.out]; exact HK.out), ← HX.out, rowL_app, List.length_append, e2]
            exact H3.out.1
          case measure => simp [intOf]; omega
      · have d3 : (x.kind == 6) = false := by simp; omega
        have d4 : (x.kind == 1) = false := by simp; omega
        have HK := Lib.hid hk61
        have HB := Lib.hid (And.intro hb3 ho3)
        clear hk61 hb3 ho3
        go_wp2_with fail
        go_roundw
        case rel => exact ⟨k + 1, by go_num, hlt, by rw [pl_miss (by rw [← HX.out]; exact HK.out)]; exact HB.out.2, HB.out.1⟩
        case measure => simp [intOf]; omega
    · have hz : k = m := by omega
      subst hz
      have HB := Lib.hid (And.intro ho hb)
      clear ho hb
      by_cases hkn : k < n
      · have hk6 : k = 60 := by omega
        have d1 : decide ((k : Int) < (n : Int)) = true := decide_eq_true (by omega)
        have d2 : decide ((k : Int) < 60) = false := decide_eq_false (by omega)
        go_wp2_with fail
        go_ret
        exact ⟨_, rfl, HB.out⟩
      · have hk6 : k = n := by omega
        have d1 : decide ((k : Int) < (n : Int)) = false := decide_eq_false (by omega)
        go_wp2_with fail
        go_ret
        exact ⟨_, rfl, HB.out⟩
end Go.Proofs.YtbplmbignalbgaaDoor
