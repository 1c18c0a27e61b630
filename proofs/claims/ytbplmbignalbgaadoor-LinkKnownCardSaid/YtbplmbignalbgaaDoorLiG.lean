/- Contracts: how many items are no labels; rows of words and of places that are alike. Conditions: the objects and rows lie as told. -/
import Derived.Test.YtbplmbignalbgaaDoorLiF
import Derived.Deep.QuietTactic
namespace Go.Proofs.YtbplmbignalbgaaDoor
open Go.RowKit Asm
set_option linter.unusedVariables false
set_option linter.unusedSimpArgs false

/-- How many of the first k items are no labels. -/
def cntI (M : List It) : Nat → Nat
  | 0 => 0
  | k + 1 => cntI M k + if (litX M k).kind = 2 then 0 else 1
theorem cntI_le (M : List It) : ∀ k, cntI M k ≤ k
  | 0 => Nat.le_refl _
  | k + 1 => by
    have := cntI_le M k
    show cntI M k + _ ≤ _
    split <;> omega
/-- The same of the first k objects. -/
def szL (L : List Ob) : Nat → Nat
  | 0 => 0
  | k + 1 => szL L k + cntI (ob L k).items (ob L k).items.length
theorem szL_le {L : List Ob} (h : ∀ i, i < L.length → (ob L i).items.length ≤ 60) : ∀ k, k ≤ L.length → szL L k ≤ k * 60
  | 0, _ => Nat.le_refl _
  | k + 1, hk => by
    have h1 := szL_le h k (by omega)
    have h2 := cntI_le (ob L k).items (ob L k).items.length
    have h3 := h k (by omega)
    show szL L k + _ ≤ _
    omega
set_option maxRecDepth 100000 in
set_option maxHeartbeats 4000000 in
theorem size_at {w : World} {p : Option Addr} {c : Nat} {L : List Ob} (h : Objs w p c L) (hf : Few L) :
    Calls Tryd.prog 16 #[.slice p L.length c] w fun e w' => e = .returned (.int .i64 (szL L L.length : Nat)) ∧ Below w.heap.size w w' := by
  have H := Lib.hid (And.intro h hf)
  have hn8 := hf.n
  clear h hf
  go_enter Tryd.func16, Tryd.ntmps16
  go_wp2_with fail
  go_loopw [3, 10] (fun s3 s10 wr => ∃ k : Nat, s10 = .int .i64 k ∧ k ≤ L.length ∧ s3 = .int .i64 (szL L k : Nat) ∧ Below w.heap.size w wr) (fun _ s10 _ => L.length - (intOf s10).toNat)
  case atStart => exact ⟨0, rfl, Nat.zero_le _, rfl, Below.refl _ _⟩
  case round =>
    obtain ⟨k, rfl, hk, rfl, hb⟩ := hrel
    by_cases hlt : k < L.length
    · as_aux_lemma =>
        have d1 : decide ((k : Int) < (L.length : Int)) = true := decide_eq_true (by omega)
        have ek : (k : Int) < (L.length : Int) := by omega
        obtain ⟨b, off, q, m, rfl, k0, k1, hit⟩ := (H.out.1.below hb).at hlt
        have hz := szL_le H.out.2.items k hk
        have hz2 := H.out.2.items k hlt
        obtain ⟨nm, hnm2⟩ : ∃ nm, nm = (ob L k).name := ⟨_, rfl⟩
        obtain ⟨M, hM⟩ : ∃ M, M = (ob L k).items := ⟨_, rfl⟩
        obtain ⟨z, hzz⟩ : ∃ z, z = szL L k := ⟨_, rfl⟩
        rw [← hnm2] at k0
        rw [← hM] at k1 hit hz2
        rw [← hzz] at hz ⊢
        have hal := (Below.refl wr.heap.size wr).alloc (Nat.le_refl _) (.cells #[.string nm, .slice q M.length m] 49)
        have hN := cells2 (heap_new wr (.cells #[.string nm, .slice q M.length m] 49))
        have hit2 := hit.below hal
        have hb2 := hb.trans (hal.mono hb.size)
        obtain ⟨w2, hw2⟩ : ∃ w2, w2 = wr.alloc (.cells #[.string nm, .slice q M.length m] 49) := ⟨_, rfl⟩
        obtain ⟨Q, hQ⟩ : ∃ Q, Q = wr.heap.size := ⟨_, rfl⟩
        rw [← hw2] at hN hit2 hb2
        rw [← hQ] at hN
        have HB := Lib.hid (And.intro hb2 (And.intro hit2 (And.intro hM hzz)))
        clear hb hal hit hit2 hb2 hnm2 hM hzz
        go_upto_region 5 with fail
        rw [← hw2, ← hQ]
        clear hw2 hQ k0 k1
        obtain ⟨c0, c1⟩ := hN
        go_wp2_with fail
        clear c0 c1
        go_loopw [3, 17] (fun s3 s17 wr => ∃ j : Nat, s17 = .int .i64 j ∧ j ≤ M.length ∧ s3 = .int .i64 (z + cntI M j : Nat) ∧ Below w2.heap.size w2 wr) (fun _ s17 _ => M.length - (intOf s17).toNat)
        case atStart => exact ⟨0, rfl, Nat.zero_le _, rfl, Below.refl _ _⟩
        case round =>
          obtain ⟨j, rfl, hj, rfl, hb⟩ := hrel
          have hcj := cntI_le M j
          by_cases hlt2 : j < M.length
          · as_aux_lemma =>
              have d2 : decide ((j : Int) < (M.length : Int)) = true := decide_eq_true (by omega)
              have ej : (j : Int) < (M.length : Int) := by omega
              obtain ⟨b2, off2, rfl, k0, k1, k2, k3, k4, k5, k6, k7⟩ := (HB.out.2.1.below hb).at hlt2
              obtain ⟨cn, hcn⟩ : ∃ cn, cn = cntI M j := ⟨_, rfl⟩
              rw [← hcn] at hcj ⊢
              have HX := Lib.hid (And.intro hb hcn)
              clear hb hcn
              by_cases hk2 : (litX M j).kind = 2
              · have d3 : ((litX M j).kind != 2) = false := by simp [hk2]
                have HK := Lib.hid hk2
                clear hk2
                go_wp2_with fail
                go_roundw
                case rel =>
                  refine ⟨j + 1, by go_num, hlt2, ?_, HX.out.1.alloc HX.out.1.size _⟩
                  show _ = Value.int .i64 ((z + (cntI M j + if (litX M j).kind = 2 then 0 else 1) : Nat) : Int)
                  rw [if_pos HK.out, ← HX.out.2]
                  rfl
                case measure => simp [intOf]; omega
              · have d3 : ((litX M j).kind != 2) = true := by simp [hk2]
                have HK := Lib.hid hk2
                clear hk2
                go_wp2_with fail
                go_roundw
                case rel =>
                  refine ⟨j + 1, by go_num, hlt2, ?_, HX.out.1.alloc HX.out.1.size _⟩
                  show _ = Value.int .i64 ((z + (cntI M j + if (litX M j).kind = 2 then 0 else 1) : Nat) : Int)
                  rw [if_neg HK.out, ← HX.out.2]
                  go_num
                case measure => simp [intOf]; omega
          · as_aux_lemma =>
              have hzj : j = M.length := by omega
              subst hzj
              have d2 : decide ((M.length : Int) < (M.length : Int)) = false := by simp
              have HX := Lib.hid hb
              clear hb
              go_wp2_with fail
              go_roundw
              case rel =>
                refine ⟨k + 1, by go_num, hlt, ?_, HB.out.1.trans (HX.out.mono HB.out.1.size)⟩
                show _ = Value.int .i64 ((szL L k + cntI (ob L k).items (ob L k).items.length : Nat) : Int)
                rw [← HB.out.2.2.1, ← HB.out.2.2.2]
              case measure => simp [intOf]; omega
    · as_aux_lemma =>
        have hz : k = L.length := by omega
        subst hz
        have d1 : decide ((L.length : Int) < (L.length : Int)) = false := by simp
        have HB := Lib.hid hb
        clear hb
        go_wp2_with fail
        go_ret
        exact ⟨rfl, HB.out⟩
set_option maxRecDepth 100000 in
set_option maxHeartbeats 4000000 in
theorem rSame_at {w : World} {pa pb : Option Addr} {n ca cb : Nat} {g : Nat → Int} (h : 0 < n → ∃ ba bb, pa = some ⟨ba, 0, none⟩ ∧ pb = some ⟨bb, 0, none⟩ ∧ ∀ j, j < n → w.cell? ⟨ba, j, none⟩ = some (.int .u32 (g j)) ∧ w.cell? ⟨bb, j, none⟩ = some (.int .u32 (g j))) (hn : n ≤ 1000000000) :
    Calls Tryd.prog 13 #[.slice pa n ca, .slice pb n cb] w fun e w' => e = .returned (.bool true) ∧ Below w.heap.size w w' := by
  have H := Lib.hid h
  clear h
  go_enter Tryd.func13, Tryd.ntmps13
  go_wp2_with fail
  go_loopw [5] (fun i wr => ∃ k : Nat, i = .int .i64 k ∧ k ≤ n ∧ Below w.heap.size w wr) (fun i _ => n - (intOf i).toNat)
  case atStart => exact ⟨0, rfl, Nat.zero_le _, Below.refl _ _⟩
  case round =>
    obtain ⟨k, rfl, hk, hb⟩ := hrel
    by_cases hlt : k < n
    · as_aux_lemma =>
        have d1 : decide ((k : Int) < (n : Int)) = true := by simp; omega
        have ek : (k : Int) < (n : Int) := by omega
        obtain ⟨ba, bb, rfl, rfl, hc⟩ := H.out (by omega)
        obtain ⟨x1, x2⟩ := hc k hlt
        have y1 := (hb.cell (p := ⟨ba, k, none⟩) (World.block_lt_of_cell? w _ x1)).trans x1
        have y2 := (hb.cell (p := ⟨bb, k, none⟩) (World.block_lt_of_cell? w _ x2)).trans x2
        clear x1 x2
        have HB := Lib.hid hb
        clear hb hc
        go_wp2_with fail
        go_quiet (fail)
        go_wp2_with fail
        go_roundw
        case rel => exact ⟨k + 1, by go_num, hlt, below_drewN HB.out nq⟩
        case measure => simp [intOf]; omega
    · as_aux_lemma =>
        have hz : k = n := by omega
        subst hz
        have d1 : decide ((k : Int) < (k : Int)) = false := by simp
        have HB := Lib.hid hb
        clear hb
        go_wp2_with fail
        go_ret
        exact ⟨rfl, HB.out⟩
set_option maxRecDepth 100000 in
set_option maxHeartbeats 4000000 in
theorem rPlaces_at {w : World} {pa pb : Option Addr} {n ca cb : Nat} {l : Nat → ByteArray} {g : Nat → Int} (h : 0 < n → ∃ ba bb, pa = some ⟨ba, 0, none⟩ ∧ pb = some ⟨bb, 0, none⟩ ∧ ∀ j, j < n → w.cell? ⟨ba, j * 2, none⟩ = some (.string (l j)) ∧ w.cell? ⟨bb, j * 2, none⟩ = some (.string (l j)) ∧ w.cell? ⟨ba, j * 2 + 1, none⟩ = some (.int .i64 (g j)) ∧ w.cell? ⟨bb, j * 2 + 1, none⟩ = some (.int .i64 (g j))) (hn : n ≤ 1000000000) :
    Calls Tryd.prog 14 #[.slice pa n ca, .slice pb n cb] w fun e w' => e = .returned (.bool true) ∧ Below w.heap.size w w' := by
  have H := Lib.hid h
  clear h
  go_enter Tryd.func14, Tryd.ntmps14
  go_wp2_with fail
  go_loopw [5] (fun i wr => ∃ k : Nat, i = .int .i64 k ∧ k ≤ n ∧ Below w.heap.size w wr) (fun i _ => n - (intOf i).toNat)
  case atStart => exact ⟨0, rfl, Nat.zero_le _, Below.refl _ _⟩
  case round =>
    obtain ⟨k, rfl, hk, hb⟩ := hrel
    by_cases hlt : k < n
    · as_aux_lemma =>
        have d1 : decide ((k : Int) < (n : Int)) = true := by simp; omega
        have ek : (k : Int) < (n : Int) := by omega
        obtain ⟨ba, bb, rfl, rfl, hc⟩ := H.out (by omega)
        obtain ⟨x1, x2, x3, x4⟩ := hc k hlt
        have y1 := (hb.cell (p := ⟨ba, k * 2, none⟩) (World.block_lt_of_cell? w _ x1)).trans x1
        have y2 := (hb.cell (p := ⟨bb, k * 2, none⟩) (World.block_lt_of_cell? w _ x2)).trans x2
        have y3 := (hb.cell (p := ⟨ba, k * 2 + 1, none⟩) (World.block_lt_of_cell? w _ x3)).trans x3
        have y4 := (hb.cell (p := ⟨bb, k * 2 + 1, none⟩) (World.block_lt_of_cell? w _ x4)).trans x4
        have yl := bl_true (rfl : l k = l k)
        clear x1 x2 x3 x4
        have HB := Lib.hid hb
        clear hb hc
        go_wp2_with fail
        go_quiet (fail)
        go_wp2_with fail
        go_roundw
        case rel => exact ⟨k + 1, by go_num, hlt, below_drewN HB.out nq⟩
        case measure => simp [intOf]; omega
    · as_aux_lemma =>
        have hz : k = n := by omega
        subst hz
        have d1 : decide ((k : Int) < (k : Int)) = false := by simp
        have HB := Lib.hid hb
        clear hb
        go_wp2_with fail
        go_ret
        exact ⟨rfl, HB.out⟩
/-- Two rows of the same words, however they came to be, compare so. -/
theorem words_alike {w : World} {B B' n : Nat} {v v' : Value} {ys : List Int} (h : w.ownsRow B 38 1 v n (byW ys)) (k : w.ownsRow B' 38 1 v' n (byW ys)) (hn : n ≤ 1000000000) :
    Calls Tryd.prog 13 #[v, v'] w fun e w' => e = .returned (.bool true) ∧ Below w.heap.size w w' := by
  have hl : ys.length = n := by have := h.1; rw [byW_len, Nat.mul_one] at this; exact this
  have key : ∀ {B : Nat} {v : Value}, w.ownsRow B 38 1 v n (byW ys) → ∃ p c, v = .slice p n c ∧ (0 < n → ∃ b, p = some ⟨b, 0, none⟩ ∧ ∀ j, j < n → w.cell? ⟨b, j, none⟩ = some (.int .u32 (ys.getD j 0))) := by
    intro B v h
    rcases h.2 with ⟨rfl, h0⟩ | ⟨g, cap, cur, rfl, -, hg, -⟩
    · exact ⟨none, 0, by rw [h0], fun h => by omega⟩
    · refine ⟨_, _, rfl, fun _ => ⟨g, rfl, fun j hj => ?_⟩⟩
      rw [World.ownsRow.cellAt h j (by omega)]
      unfold byW
      rw [List.getElem?_map, List.getElem?_eq_getElem (by omega), List.getD_eq_getElem?_getD, List.getElem?_eq_getElem (by omega)]
      rfl
  obtain ⟨pa, ca, rfl, ha⟩ := key h
  obtain ⟨pb, cb, rfl, hb⟩ := key k
  refine rSame_at (g := fun j => ys.getD j 0) (fun h0 => ?_) hn
  obtain ⟨ba, e1, h1⟩ := ha h0
  obtain ⟨bb, e2, h2⟩ := hb h0
  exact ⟨ba, bb, e1, e2, fun j hj => ⟨h1 j hj, h2 j hj⟩⟩
theorem rowP_nth (L : List (ByteArray × Int)) {j : Nat} (hj : j < L.length) : (rowP L)[j * 2]? = some (.string (L.getD j default).1) ∧ (rowP L)[j * 2 + 1]? = some (.int .i64 (L.getD j default).2) := by
  induction L generalizing j with
  | nil => simp at hj
  | cons q r ih =>
    have e : rowP (q :: r) = .string q.1 :: .int .i64 q.2 :: rowP r := rfl
    rw [e]
    cases j with
    | zero => exact ⟨rfl, rfl⟩
    | succ j =>
      rw [show (j + 1) * 2 = j * 2 + 2 by omega]
      have := ih (j := j) (by simpa using hj)
      exact ⟨this.1, this.2⟩
theorem places_alike {w : World} {B B' n : Nat} {v v' : Value} {L : List (ByteArray × Int)} (h : w.ownsRow B 47 2 v n (rowP L)) (k : w.ownsRow B' 47 2 v' n (rowP L)) (hL : L.length = n) (hn : n ≤ 1000000000) :
    Calls Tryd.prog 14 #[v, v'] w fun e w' => e = .returned (.bool true) ∧ Below w.heap.size w w' := by
  have key : ∀ {B : Nat} {v : Value}, w.ownsRow B 47 2 v n (rowP L) → ∃ p c, v = .slice p n c ∧ (0 < n → ∃ b, p = some ⟨b, 0, none⟩ ∧ ∀ j, j < n → w.cell? ⟨b, j * 2, none⟩ = some (.string (L.getD j default).1) ∧ w.cell? ⟨b, j * 2 + 1, none⟩ = some (.int .i64 (L.getD j default).2)) := by
    intro B v h
    rcases h.2 with ⟨rfl, h0⟩ | ⟨g, cap, cur, rfl, -, hg, -⟩
    · exact ⟨none, 0, by rw [h0], fun h => by omega⟩
    · refine ⟨_, _, rfl, fun _ => ⟨g, rfl, fun j hj => ?_⟩⟩
      obtain ⟨e1, e2⟩ := rowP_nth L (j := j) (by omega)
      exact ⟨(World.ownsRow.cellAt h (j * 2) (by omega)).trans e1, (World.ownsRow.cellAt h (j * 2 + 1) (by omega)).trans e2⟩
  obtain ⟨pa, ca, rfl, ha⟩ := key h
  obtain ⟨pb, cb, rfl, hb⟩ := key k
  refine rPlaces_at (l := fun j => (L.getD j default).1) (g := fun j => (L.getD j default).2) (fun h0 => ?_) hn
  obtain ⟨ba, e1, h1⟩ := ha h0
  obtain ⟨bb, e2, h2⟩ := hb h0
  exact ⟨ba, bb, e1, e2, fun j hj => ⟨(h1 j hj).1, (h2 j hj).1, (h1 j hj).2, (h2 j hj).2⟩⟩
end Go.Proofs.YtbplmbignalbgaaDoor
