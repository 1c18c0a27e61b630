/- Contracts: the items that the examples are made of; what they begin with; what is refused. Conditions: the items lie as told; the table of forms is as laid. -/
import Derived.Test.YticleblhmkikaaaDoorAsX
import Derived.Test.YticleblhmkikaaaDoorAsY
namespace Go.Proofs.YticleblhmkikaaaDoor
open Go.RowKit Asm
set_option linter.unusedVariables false
set_option linter.unusedSimpArgs false

set_option maxRecDepth 100000 in
set_option maxHeartbeats 2000000 in
theorem label_any (s : ByteArray) (w : World) : Calls Tryd.prog 19 #[.string s] w fun e w' => e = .returned (iv ⟨2, 0, 0, 0, 0, 0, s, 0⟩) ∧ Below w.heap.size w w' := by
  unfold iv
  go_enter Tryd.func19, Tryd.ntmps19
  go_wp2_with fail
  refine bodyPost_ret (v := iv ⟨2, 0, 0, 0, 0, 0, s, 0⟩) (by first | (simp [results, iv, Tryd.results19, go_sem]; done) | (simp [results, iv, Tryd.results19, go_sem]; rfl)) rfl ⟨rfl, ?_⟩
  repeat' (first | exact (Below.refl _ _).alloc (Nat.le_refl _) _ | refine Below.setCell ?_ (Nat.le_refl _) _)
set_option maxRecDepth 100000 in
set_option maxHeartbeats 2000000 in
theorem space_any (k : Int) (w : World) : Calls Tryd.prog 18 #[.int .u32 k] w fun e w' => e = .returned (iv ⟨8, 0, 0, 0, 0, 0, ByteArray.empty, k⟩) ∧ Below w.heap.size w w' := by
  unfold iv
  go_enter Tryd.func18, Tryd.ntmps18
  go_wp2_with fail
  refine bodyPost_ret (v := iv ⟨8, 0, 0, 0, 0, 0, ByteArray.empty, k⟩) (by first | (simp [results, iv, Tryd.results18, go_sem]; done) | (simp [results, iv, Tryd.results18, go_sem]; rfl)) rfl ⟨rfl, ?_⟩
  repeat' (first | exact (Below.refl _ _).alloc (Nat.le_refl _) _ | refine Below.setCell ?_ (Nat.le_refl _) _)
set_option maxRecDepth 100000 in
set_option maxHeartbeats 2000000 in
theorem jump_law (d : Int) (s : ByteArray) (w : World) : Calls Tryd.prog 22 #[.int .i64 d, .string s] w fun e w' => e = .returned (iv ⟨4, 0, d, 0, 0, 0, s, 0⟩) ∧ Below w.heap.size w w' := by
  unfold iv
  go_enter Tryd.func22, Tryd.ntmps22
  go_wp2_with fail
  refine bodyPost_ret (v := iv ⟨4, 0, d, 0, 0, 0, s, 0⟩) (by first | (simp [results, iv, Tryd.results22, go_sem]; done) | (simp [results, iv, Tryd.results22, go_sem]; rfl)) rfl ⟨rfl, ?_⟩
  repeat' (first | exact (Below.refl _ _).alloc (Nat.le_refl _) _ | refine Below.setCell ?_ (Nat.le_refl _) _)
set_option maxRecDepth 100000 in
set_option maxHeartbeats 2000000 in
theorem branch_law (a b : Int) (s : ByteArray) (w : World) : Calls Tryd.prog 17 #[.int .i64 a, .int .i64 b, .string s] w fun e w' => e = .returned (iv ⟨3, 26, 0, a, b, 0, s, 0⟩) ∧ Below w.heap.size w w' := by
  unfold iv
  go_enter Tryd.func17, Tryd.ntmps17
  go_wp2_with fail
  refine bodyPost_ret (v := iv ⟨3, 26, 0, a, b, 0, s, 0⟩) (by first | (simp [results, iv, Tryd.results17, go_sem]; done) | (simp [results, iv, Tryd.results17, go_sem]; rfl)) rfl ⟨rfl, ?_⟩
  repeat' (first | exact (Below.refl _ _).alloc (Nat.le_refl _) _ | refine Below.setCell ?_ (Nat.le_refl _) _)
/-- What the words of items with such forms begin with. -/
def Begins (X : Nat → It) (n : Nat) (base : Int) (N : Nat) (a : Int) (ws : List Int) (f : Nat → Nat) : Prop :=
  ad X base f n ≤ 67108864 ∧ (wordsL X n base f n).length = N ∧ (∃ q r, placesL X (ad X base f) n = q :: r ∧ q.2 = a) ∧ ws.length ≤ N ∧ ∀ j, j < ws.length → (wordsL X n base f n)[j]? = ws[j]?
theorem row_shape {w : World} {base m n t : Nat} {v : Value} {xs : List Value} (h : w.ownsRow base t m v n xs) (hn : 0 < n) : ∃ g cap, v = .slice (some ⟨g, 0, none⟩) n cap ∧ base ≤ g := by
  rcases h.2 with ⟨-, h0⟩ | ⟨g, cap, cur, rfl, hb, -⟩
  · omega
  · exact ⟨g, cap, rfl, hb⟩
set_option maxRecDepth 100000 in
set_option maxHeartbeats 4000000 in
theorem begins_at {w : World} {p : Option Addr} {n c : Nat} {X : Nat → It} (h : Items w p n c X) (hE : Env w) (hn : n ≤ 60) (base : Int) (N : Nat) (a : Int) (bw : Nat) (ws : List Int)
    (hw : ∀ j x, ws[j]? = some x → w.cell? ⟨bw, j, none⟩ = some (.int .u32 x)) (hc : check X n base = 0) (hf : ∀ f, Least X n base f → Begins X n base N a ws f) (K : Nat) (hK : K = ws.length) (hK2 : K ≤ 1000) :
    Calls Tryd.prog 20 #[.slice p n c, .int .i64 base, .int .i64 N, .int .i64 a, .slice (some ⟨bw, 0, none⟩) K K] w fun e w' => e = .returned (.bool true) ∧ Below w.heap.size w w' := by
  have has := assemble_at h hE hn base
  have HW := Lib.hid hw
  have HF := Lib.hid hf
  have HC := Lib.hid hc
  have HK := Lib.hid hK
  clear h hE hw hf hc hK
  go_enter Tryd.func20, Tryd.ntmps20
  go_wp2_with fail
  refine has.mono ?_
  rintro e w1 ⟨ha, hb⟩
  clear has
  rcases ha with ⟨hc, -⟩ | ⟨-, f, hl, ⟨hlong, -⟩ | ⟨-, O, vp, rfl, hw1, hp1⟩⟩
  · exact absurd HC.out hc
  · have := (HF.out f hl).1
    omega
  obtain ⟨-, hN, ⟨q, r, hq, hqa⟩, hle, hws⟩ := HF.out f hl
  rw [← HK.out] at hle hws
  rw [hq] at hp1
  obtain ⟨g, cap, rfl, hg⟩ := row_shape hp1 (by simp)
  obtain ⟨m, hm⟩ : ∃ m, m = (q :: r).length := ⟨_, rfl⟩
  have hm1 : 1 ≤ m := by rw [hm]; simp
  have hga : w1.cell? ⟨g, 1, none⟩ = some (.int .i64 a) := by
    rw [hp1.cellAt 1 (by simp; omega), ← hqa]
    rfl
  rw [← hm]
  have hwc : ∀ j x, j < K → ws[j]? = some x → w1.cell? ⟨O, j, none⟩ = some (.int .u32 x) ∧ w1.cell? ⟨bw, j, none⟩ = some (.int .u32 x) := by
    intro j x hj hx
    refine ⟨?_, ?_⟩
    · rw [World.ownsRow.cellAt hw1 j (by rw [hN]; omega)]
      unfold byW
      rw [List.getElem?_map, hws j hj, hx]
      rfl
    · have hx' := HW.out j x hx
      exact (hb.cell (p := ⟨bw, j, none⟩) (World.block_lt_of_cell? w _ hx')).trans hx'
  rw [hN]
  have H := Lib.hid (And.intro hwc hb)
  have d0 : decide ((m : Int) < 1) = false := by simp; omega
  have d1 : decide ((N : Int) < (K : Int)) = false := by simp; omega
  clear hwc hb hw1 hp1 hq hqa hm hws hN hl hg
  go_wp2_with fail
  go_loopw [14] (fun s14 wr => ∃ k : Nat, s14 = .int .i64 k ∧ k ≤ K ∧ Below w1.heap.size w1 wr) (fun s14 _ => K - (intOf s14).toNat)
  case atStart => exact ⟨0, rfl, Nat.zero_le _, Below.refl _ _⟩
  case round =>
    obtain ⟨k, rfl, hk, hb⟩ := hrel
    by_cases hlt : k < K
    · have d2 : decide ((k : Int) < (K : Int)) = true := by simp; omega
      have ek : (k : Int) < (K : Int) := by omega
      have ek2 : (k : Int) < (N : Int) := by omega
      obtain ⟨x, hx⟩ : ∃ x, ws[k]? = some x := ⟨ws[k]'(by have := HK.out; omega), List.getElem?_eq_getElem _⟩
      obtain ⟨z1, z2⟩ := H.out.1 k x hlt hx
      have y1 := (hb.cell (p := ⟨O, k, none⟩) (World.block_lt_of_cell? w1 _ z1)).trans z1
      have y2 := (hb.cell (p := ⟨bw, k, none⟩) (World.block_lt_of_cell? w1 _ z2)).trans z2
      have HB := Lib.hid hb
      clear hb z1 z2 hx hga
      go_wp2_with fail
      go_quiet (fail)
      go_wp2_with fail
      go_roundw
      case rel => exact ⟨k + 1, by go_num, hlt, below_drewN HB.out nq⟩
      case measure => simp [intOf]; omega
    · have hz : k = K := by omega
      subst hz
      have d2 : decide ((k : Int) < (k : Int)) = false := by simp
      have HB := Lib.hid hb
      clear hb
      go_wp2_with fail
      go_ret
      exact ⟨rfl, H.out.2.trans (HB.out.mono H.out.2.size)⟩
set_option maxRecDepth 100000 in
set_option maxHeartbeats 2000000 in
theorem no_at {w : World} {p : Option Addr} {n c : Nat} {X : Nat → It} (h : Items w p n c X) (hE : Env w) (hn : n ≤ 60) (base code : Int)
    (hr : (check X n base ≠ 0 ∧ check X n base = code) ∨ (check X n base = 0 ∧ code = 3 ∧ ∀ f, Least X n base f → 67108864 < ad X base f n)) :
    Calls Tryd.prog 21 #[.int .i64 code, .int .i64 base, .slice p n c] w fun e w' => e = .returned (.bool true) ∧ Below w.heap.size w w' := by
  have ho : ∀ (fault : Int → Prop) (good : (Nat → Nat) → Prop), Outcome X n base fault good → fault code := by
    rintro fault good (⟨h1, h2⟩ | ⟨h1, f, hl, ⟨h2, h3⟩ | ⟨h2, h3⟩⟩)
    · rcases hr with ⟨-, rfl⟩ | ⟨h3, -⟩
      · exact h2
      · exact absurd h3 h1
    · rcases hr with ⟨h4, -⟩ | ⟨-, rfl, -⟩
      · exact absurd h1 h4
      · exact h3
    · rcases hr with ⟨h4, -⟩ | ⟨-, -, h5⟩
      · exact absurd h1 h4
      · have := h5 f hl
        omega
  have HO := Lib.hid ho
  have HH := Lib.hid (And.intro h hE)
  have has := assemble_at h hE hn base
  clear h hE hr ho
  go_enter Tryd.func21, Tryd.ntmps21
  go_wp2_with fail
  refine has.mono ?_
  rintro e w1 ⟨ha, hb⟩
  clear has
  have he := HO.out _ _ ha
  clear ha
  have hfo := forms_at (HH.out.1.below hb) (HH.out.2.below hb) hn base
  have HB := Lib.hid hb
  clear hb
  subst he
  go_wp2_with fail
  refine hfo.mono ?_
  rintro e w2 ⟨ha, hb⟩
  clear hfo
  have he := HO.out _ _ ha
  clear ha
  have HB2 := Lib.hid hb
  clear hb
  subst he
  go_wp2_with fail
  go_ret
  exact ⟨rfl, HB.out.trans (HB2.out.mono HB.out.size)⟩
end Go.Proofs.YticleblhmkikaaaDoor
