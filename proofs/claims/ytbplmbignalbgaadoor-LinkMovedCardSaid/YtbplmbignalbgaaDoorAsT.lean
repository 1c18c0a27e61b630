/- Contracts: instructions are appended as words. Conditions: the slices lie as told; the forms' table is as laid. -/
import Derived.Test.YtbplmbignalbgaaDoorAsS
import Derived.Lib.AppendZeros
namespace Go.Proofs.YtbplmbignalbgaaDoor
open Go.RowKit Asm
set_option linter.unusedVariables false
set_option linter.unusedSimpArgs false

theorem Env.chg {F : Nat → Prop} {w w' : World} (h : Env w) (hc : Chg F w w') (hF : ∀ k, F k → 1 ≤ k) : Env w' :=
  ⟨fun f j hf hj => (World.cell?_of_block (a := ⟨0, f * 4 + j, none⟩) (hc.block _ h.size (fun hk => by have := hF 0 hk; omega))).trans (h.shapes f j hf hj), Nat.lt_of_lt_of_le h.size hc.size⟩
theorem encode_all (op d a b imm : Int) (w : World) (h : Env w) : Calls Tryd.prog 62 #[.agg #[.int .i64 op, .int .i64 d, .int .i64 a, .int .i64 b, .int .i64 imm]] w fun e w' => e = .returned (.tuple #[.int .u32 (Isa.enc op d a b imm), .int .i64 (chk op d a b imm)]) ∧ Below w.heap.size w w' := by
  unfold Isa.enc chk
  cases ho : Isa.ok op d a b imm
  · exact encode_bad op d a b imm w h ho
  · have hs := Isa.shapes_of (Isa.form op)
    have hn := (Isa.ok_parts ho).1
    simp only [List.mem_cons, List.mem_nil_iff, or_false, Prod.mk.injEq] at hs
    rcases hs with ⟨e0, e1, e2⟩ | ⟨e0, e1, e2⟩ | ⟨e0, e1, e2⟩ | ⟨e0, e1, e2⟩ | ⟨e0, e1, e2⟩ | ⟨e0, e1, e2⟩
    · exact encode_ttt op d a b imm w h ho e0 e1 e2
    · exact encode_ttf op d a b imm w h ho e0 e1 e2
    · exact encode_tff op d a b imm w h ho e0 e1 e2
    · exact encode_ftt op d a b imm w h ho e0 e1 e2
    · exact encode_ftf op d a b imm w h ho e0 e1 e2
    · exfalso
      rcases Isa.form_cases op with h | h | h | h | h | h | h | h
      · exact hn h
      all_goals
        rw [h] at e0 e1
        first | (revert e0; decide) | (revert e1; decide)
def byW (l : List Int) : List Value := l.map (Value.int .u32)
theorem byW_len (l : List Int) : (byW l).length = l.length := by unfold byW; simp
theorem byW_app (l r : List Int) : byW (l ++ r) = byW l ++ byW r := by unfold byW; rw [List.map_append]
theorem one_byW (l : List Int) : ∀ u ∈ byW l, u.oneCell' = true := by
  intro u hu
  unfold byW at hu
  obtain ⟨x, -, rfl⟩ := List.mem_map.1 hu
  rfl
theorem infoW : (Tryd.prog.info? 38).map (fun i => (i.zero, i.size, i.bytes)) = some (some (.int .u32 0), 1, 4) := by kernel_rfl
theorem infoW_of : ∃ i, Tryd.prog.info? 38 = some i ∧ i.zero = some (.int .u32 0) ∧ i.size = 1 ∧ i.bytes = 4 := by
  obtain ⟨i, hi, hx⟩ := Option.map_eq_some_iff.1 infoW
  simp only [Prod.mk.injEq] at hx
  exact ⟨i, hi, hx⟩
instance : Inhabited Ins := ⟨⟨0, 0, 0, 0, 0⟩⟩
theorem rowJ_get : ∀ (L : List Ins) (j : Nat), j < L.length → ∀ k, k < 5 → (rowJ L)[j * 5 + k]? = (insC (L.getD j default))[k]?
  | [], j, h, k, hk => by simp at h
  | x :: r, 0, h, k, hk => by
    unfold rowJ
    rw [List.flatMap_cons, List.getElem?_append_left (by show _ < 5; omega)]
    simp
  | x :: r, j + 1, h, k, hk => by
    have ih := rowJ_get r j (by simpa using h) k hk
    unfold rowJ at ih ⊢
    rw [List.flatMap_cons, List.getElem?_append_right (by show 5 ≤ _; omega)]
    rw [show (j + 1) * 5 + k - (insC x).length = j * 5 + k by show (j + 1) * 5 + k - 5 = _; omega, ih]
    simp
/-- A row of words in a row with room. -/
def Words (w : World) (B O len cap : Nat) (xs : List Int) : Prop := w.ownsRow B 38 1 (.slice (some ⟨O, 0, none⟩) len cap) len (byW xs)
theorem Words.keep {w w' : World} {B O len cap : Nat} {xs : List Int} (h : Words w B O len cap xs) (hb : w'.heap[O]? = w.heap[O]?) : Words w' B O len cap xs := by
  refine ⟨h.1, h.2.imp id ?_⟩
  rintro ⟨g, cap', cur, e, hb', hg, rest⟩
  cases e
  exact ⟨O, cap, cur, rfl, hb', hb.trans hg, rest⟩
theorem Words.lt {w : World} {B O len cap : Nat} {xs : List Int} (h : Words w B O len cap xs) : B ≤ O ∧ O < w.heap.size := World.ownsRow.lt h O rfl
theorem Words.len {w : World} {B O len cap : Nat} {xs : List Int} (h : Words w B O len cap xs) : xs.length = len := by
  have := h.1
  rw [byW_len, Nat.mul_one] at this
  exact this

set_option maxRecDepth 100000 in
set_option maxHeartbeats 2000000 in
theorem appendInsts_at {w : World} {B O len cap g c2 : Nat} {xs : List Int} {L : List Ins} (h : Words w B O len cap xs) (hE : Env w) (hcells : ∀ j u, (rowJ L)[j]? = some u → w.cell? ⟨g, j, none⟩ = some u) (hL : L.length ≤ 4) (hne : g ≠ O) (hroom : len + L.length ≤ cap) (hcap : cap ≤ 1000000000) (hB : 1 ≤ B) :
    Calls Tryd.prog 49 #[.slice (some ⟨O, 0, none⟩) len cap, .slice (some ⟨g, 0, none⟩) L.length c2] w fun e w' => e = .returned (.slice (some ⟨O, 0, none⟩) (len + L.length) cap) ∧ Words w' B O (len + L.length) cap (xs ++ L.map insW) ∧ Chg (fun k => k = O) w w' := by
  obtain ⟨i0, hi, hz0, hz1, hz2⟩ := infoW_of
  have H := Lib.hid (And.intro h (And.intro hE (And.intro hcells (And.intro hne hB))))
  clear h hE hcells hne
  go_enter Tryd.func49, Tryd.ntmps49
  go_wp2_with fail
  go_loopw [0, 11] (fun s0 s11 wr => ∃ j : Nat, s11 = .int .i64 j ∧ j ≤ L.length ∧ s0 = .slice (some ⟨O, 0, none⟩) (len + j) cap ∧ Words wr B O (len + j) cap (xs ++ (L.take j).map insW) ∧ Chg (fun k => k = O) w wr) (fun _ s11 _ => L.length - (intOf s11).toNat)
  case atStart => exact ⟨0, rfl, Nat.zero_le _, rfl, by simpa using H.out.1, Chg.refl _ _⟩
  case round =>
    obtain ⟨j, rfl, hj, rfl, hw, hC⟩ := hrel
    by_cases hlt : j < L.length
    · have d1 : decide ((j : Int) < (L.length : Int)) = true := by simp; omega
      have ej : (j : Int) < (L.length : Int) := by omega
      obtain ⟨x, hx⟩ : ∃ x, x = L.getD j default := ⟨_, rfl⟩
      have hk : ∀ k, k < 5 → wr.cell? ⟨g, j * 5 + k, none⟩ = (insC x)[k]? := by
        intro k hk5
        have h1 := rowJ_get L j hlt k hk5
        rw [← hx] at h1
        obtain ⟨u, hu⟩ : ∃ u, (insC x)[k]? = some u := by
          have : k < (insC x).length := hk5
          exact ⟨_, List.getElem?_eq_getElem this⟩
        rw [hu] at h1 ⊢
        have h2 := H.out.2.2.1 _ _ h1
        exact (World.cell?_of_block (hC.block _ (World.block_lt_of_cell? w _ h2) H.out.2.2.2.1)).trans h2
      have k0 : wr.cell? ⟨g, j * 5, none⟩ = some (.int .i64 x.op) := hk 0 (by decide)
      have k1 : wr.cell? ⟨g, j * 5 + 1, none⟩ = some (.int .i64 x.d) := hk 1 (by decide)
      have k2 : wr.cell? ⟨g, j * 5 + 2, none⟩ = some (.int .i64 x.a) := hk 2 (by decide)
      have k3 : wr.cell? ⟨g, j * 5 + 3, none⟩ = some (.int .i64 x.b) := hk 3 (by decide)
      have k4 : wr.cell? ⟨g, j * 5 + 4, none⟩ = some (.int .i64 x.imm) := hk 4 (by decide)
      have hEr : Env wr := H.out.2.1.chg hC (fun k hk => by subst hk; have := hw.lt; omega)
      have hal := (Below.refl wr.heap.size wr).alloc (Nat.le_refl _) (.cells #[.int .i64 x.op, .int .i64 x.d, .int .i64 x.a, .int .i64 x.b, .int .i64 x.imm] 37)
      have hN := cells5 (heap_new wr (.cells #[.int .i64 x.op, .int .i64 x.d, .int .i64 x.a, .int .i64 x.b, .int .i64 x.imm] 37))
      have HX := Lib.hid (And.intro hw (And.intro hC hx))
      clear hw hC hx hk
      go_upto_region 4 with fail
      obtain ⟨w2, hw2⟩ : ∃ w2, w2 = wr.alloc (.cells #[.int .i64 x.op, .int .i64 x.d, .int .i64 x.a, .int .i64 x.b, .int .i64 x.imm] 37) := ⟨_, rfl⟩
      rw [← hw2] at hal hN ⊢
      clear hw2 k0 k1 k2 k3 k4
      obtain ⟨n0, n1, n2, n3, n4⟩ := hN
      go_wp2_with fail
      refine (encode_all _ _ _ _ _ w2 (hEr.below hal)).mono ?_
      rintro e w3 ⟨rfl, hb3⟩
      have hb : Below wr.heap.size wr w3 := hal.trans (hb3.mono hal.size)
      have hw3 := HX.out.1.keep (hb.block _ HX.out.1.lt.2)
      have HB := Lib.hid (And.intro hb hw3)
      have hrow : w3.ownsRow B 38 1 (.slice (some ⟨O, 0, none⟩) (len + j) cap) (len + j) (byW (xs ++ (L.take j).map insW)) := hw3
      clear hb hw3 hb3 hal hEr n0 n1 n2 n3 n4
      go_wp2_with (first
        | (at_builtin; refine wpList_append_own_spare _ rfl _ _ 27 rfl B 38 i0 1 Tryd.underlying27 hi hz1 O (len + j) cap _ rfl (hrow.alloc _) ⟨w3.heap.size, 0, none⟩ 1 1 [.int .u32 (Isa.enc x.op x.d x.a x.b x.imm)] rfl rfl (cell_one_new _ _ _) (one_byW [Isa.enc x.op x.d x.a x.b x.imm]) ?c3 ?_)
        | fail)
      case c3 => omega
      intro w4 hw4 hg4
      have H4 := Lib.hid (And.intro hw4 hg4)
      clear hw4 hg4 hrow
      go_wp2_with fail
      go_roundw
      case rel =>
        have e : (L.take (j + 1)).map insW = (L.take j).map insW ++ [Isa.enc x.op x.d x.a x.b x.imm] := by
          rw [List.take_add_one, List.getElem?_eq_getElem hlt, List.map_append]
          have hx := HX.out.2.2
          have : L[j] = x := by rw [hx]; simp [List.getD, List.getElem?_eq_getElem hlt]
          rw [this]
          rfl
        refine ⟨j + 1, by go_num, hlt, rfl, ?_, ?_⟩
        · rw [e, ← List.append_assoc]
          unfold Words
          rw [byW_app]
          have := H4.out.1
          rw [← List.map_take] at this
          exact this
        · have t1 : Chg (fun k => k = O) w w3 := HX.out.2.1.trans (Chg.of_below HB.out.1 : Chg (fun k => k = O) wr w3) (fun _ h => Or.inl h)
          exact (t1.alloc _).trans (Chg.grown1 H4.out.2) (fun _ h => Or.inl h)
      case measure => simp [intOf]; omega
    · have hz : j = L.length := by omega
      subst hz
      have d1 : decide ((L.length : Int) < (L.length : Int)) = false := by simp
      have HX := Lib.hid (And.intro hw hC)
      clear hw hC
      go_wp2_with fail
      go_ret
      refine ⟨rfl, ?_, HX.out.2⟩
      have := HX.out.1
      rw [List.take_length] at this
      exact this
end Go.Proofs.YtbplmbignalbgaaDoor
