/- The walk of MachInput. Conditions: the setting and the bytes read as told; the forms' table is as laid. -/
import Derived.Test.YtknnmacmohpanaaDoorMaPa
import Derived.Test.YtknnmacmohpanaaDoorMaIa
import Derived.Test.YtknnmacmohpanaaDoorMaIb
namespace Go.Proofs.YtknnmacmohpanaaDoor
open Go.RowKit
set_option linter.unusedVariables false
set_option linter.unusedSimpArgs false

/-- A setting in memory. -/
structure XS (w : World) (X : Nat) (a b c d : Value) : Prop where
  c0 : w.cell? ⟨X, 0, none⟩ = some a
  c1 : w.cell? ⟨X, 1, none⟩ = some b
  c2 : w.cell? ⟨X, 2, none⟩ = some c
  c3 : w.cell? ⟨X, 3, none⟩ = some d
theorem XS.of {w : World} {X : Nat} {a b c d : Value} {t : TypeId} {fr : Nat × Nat} (h : w.heap[X]? = some (.cells #[a, b, c, d] t fr)) : XS w X a b c d :=
  ⟨by rw [cell_of_block h]; rfl, by rw [cell_of_block h]; rfl, by rw [cell_of_block h]; rfl, by rw [cell_of_block h]; rfl⟩
theorem XS.keep {w w' : World} {X B : Nat} {a b c d : Value} (h : XS w X a b c d) (hb : Below B w w') (hX : X < B) : XS w' X a b c d :=
  ⟨(hb.cell (p := ⟨X, 0, none⟩) hX).trans h.c0, (hb.cell (p := ⟨X, 1, none⟩) hX).trans h.c1, (hb.cell (p := ⟨X, 2, none⟩) hX).trans h.c2, (hb.cell (p := ⟨X, 3, none⟩) hX).trans h.c3⟩
theorem store4 {W w : World} {R : Nat} {y0 y1 y2 y3 x0 x1 x2 x3 : Value} {t : TypeId} (hb : Below W.heap.size W w) (h : w.heap[R]? = some (.cells #[y0, y1, y2, y3] t (0, 0))) (hR : W.heap.size ≤ R) :
    Below W.heap.size W ((((w.setCell ⟨R, 0, none⟩ x0).setCell ⟨R, 1, none⟩ x1).setCell ⟨R, 2, none⟩ x2).setCell ⟨R, 3, none⟩ x3) ∧
    ((((w.setCell ⟨R, 0, none⟩ x0).setCell ⟨R, 1, none⟩ x1).setCell ⟨R, 2, none⟩ x2).setCell ⟨R, 3, none⟩ x3).heap[R]? = some (.cells #[x0, x1, x2, x3] t (0, 0)) :=
  ⟨(((hb.setCell hR _).setCell hR _).setCell hR _).setCell hR _,
    set_block (i := 3) (set_block (i := 2) (set_block (i := 1) (set_block (i := 0) h (by simp)) (by simp)) (by simp)) (by simp)⟩
theorem Arg.of_own {w : World} {base : Nat} {p : Option Addr} {c n : Nat} {xs : List Int} (h : w.ownsRow base 5 1 (.slice p n c) n (byL xs)) : n = xs.length ∧ Arg .u8 w p c xs := by
  have hl : xs.length = n := by have := h.1; rw [byL_len] at this; omega
  subst hl
  refine ⟨rfl, ?_⟩
  have hc := fun g hg => h.cells (g := g) hg
  rcases h.2 with ⟨hv, h0⟩ | ⟨g, cap, cur, hv, -, -, hnc, hcm, -, -⟩
  · simp only [Value.slice.injEq] at hv
    obtain ⟨rfl, -, rfl⟩ := hv
    have hx : xs = [] := List.eq_nil_of_length_eq_zero h0
    subst hx
    exact ⟨fun _ => ⟨rfl, rfl⟩, Nat.le_refl _, by decide, fun j u hj => by cases hj⟩
  · simp only [Value.slice.injEq] at hv
    obtain ⟨rfl, -, rfl⟩ := hv
    exact ⟨fun hp => (by cases hp), hnc, (by unfold maxLen at hcm; omega), fun j u hj => ⟨⟨g, 0, none⟩, rfl, hc g rfl j u hj⟩⟩
/-- What Decode answers, as far as it matters here. -/
theorem dec_view (v : Int) (w : World) (h : Env w) (v0 : 0 ≤ v) (v1 : v < 4294967296) :
    Calls Tryd.prog 26 #[.int .u32 v] w fun e w' => ∃ op d a b imm en : Int, e = .returned (.tuple #[.agg #[.int .i64 op, .int .i64 d, .int .i64 a, .int .i64 b, .int .i64 imm], .int .i64 en]) ∧ ((en = 0 ∧ op = 34) ↔ (Isa.dOk v = true ∧ Isa.dOp v = 34)) ∧ Below w.heap.size w w' := by
  refine (decode_any v w h v0 v1).mono ?_
  rintro e w' ⟨hd, hb⟩
  unfold Dec at hd
  have ho : Isa.dOk v = Isa.ok (v / 67108864) (Isa.fD v) (Isa.fA v) (Isa.fB v) (Isa.fImm v) := rfl
  have hop : Isa.dOp v = v / 67108864 := rfl
  by_cases hk : Isa.ok (v / 67108864) (Isa.fD v) (Isa.fA v) (Isa.fB v) (Isa.fImm v) = true
  · rw [if_pos hk] at hd
    exact ⟨_, _, _, _, _, _, hd, by rw [ho, hop]; exact ⟨fun h => ⟨hk, h.2⟩, fun h => ⟨rfl, h.2⟩⟩, hb⟩
  · rw [if_neg hk] at hd
    exact ⟨_, _, _, _, _, _, hd, by rw [ho]; exact ⟨fun h => absurd h.1 (by decide), fun h => absurd h.1 hk⟩, hb⟩
theorem atIn_iff {m : MS} {k : Nat} (hk : m.place = k) {b : Bool} (hb : memB m k = b) {en op : Int} (h : (en = 0 ∧ op = 34) ↔ (Isa.dOk (memV m k) = true ∧ Isa.dOp (memV m k) = 34)) : m.atIn = (b && (decide (en = 0) && decide (op = 34))) := by
  subst hb
  have e : m.place.toNat = k := by omega
  unfold MS.atIn
  rw [e]
  congr 1
  rw [Bool.eq_iff_iff]
  simp only [Bool.and_eq_true, decide_eq_true_eq]
  exact h.symm
theorem take_in (ws : List Int) (size : Int) (is bs rs : List Int) (h : bs.length ≤ 50) : stM ws size bs rs = (stM ws size is rs).inTo bs := by
  unfold stM
  rw [List.take_of_length_le h]
  rfl
theorem ready_y {w6 w8 : World} {Y N c2 : Nat} {p : Option Addr} {a b c d : Value} {xs : List Int} {t : TypeId} (hY : w6.heap[Y]? = some (.cells #[a, b, c, d] t (0, 0))) (B8 : Below w6.heap.size w6 w8) (o2 : w8.ownsRow w6.heap.size 5 1 (.slice p N c2) N (byL xs)) :
    Below Y w6 (w8.setCell ⟨Y, 2, none⟩ (.slice p N c2)) ∧ XS (w8.setCell ⟨Y, 2, none⟩ (.slice p N c2)) Y a b (.slice p N c2) d ∧ N = xs.length ∧ Arg .u8 (w8.setCell ⟨Y, 2, none⟩ (.slice p N c2)) p c2 xs := by
  have hlt := lt_of_block hY
  have hY8 : w8.heap[Y]? = some (.cells #[a, b, c, d] t (0, 0)) := (B8.block _ hlt).trans hY
  refine ⟨(B8.mono (Nat.le_of_lt hlt)).setCell (p := ⟨Y, 2, none⟩) (Nat.le_refl _) _, XS.of (set_block (i := 2) hY8 (by simp)), ?_⟩
  exact Arg.of_own (own_kept o2 fun k hk => Below.heap_setCell _ _ _ _ (fun e => by have e' : k = Y := e; have := (o2.lt k hk).1; omega))
theorem memV_range {m : MS} (h : MOk m) (k : Nat) : 0 ≤ memV m k ∧ memV m k < 4294967296 := by
  unfold memV
  split
  · exact h.mem k
  · decide

set_option maxRecDepth 100000 in
set_option maxHeartbeats 4000000 in
theorem input_any (pw pi pr pm : Option Addr) (cw ci cr cm : Nat) (size n0 : Int) (ws is rs ms : List Int) (w : World) (hE : Env w) (hw : Arg .u32 w pw cw ws) (hi : Arg .u8 w pi ci is) (hr : Arg .u32 w pr cr rs) (hm : Arg .u8 w pm cm ms) (hwr : ∀ x ∈ ws, 0 ≤ x ∧ x < 4294967296) (hir : ∀ x ∈ is, 0 ≤ x ∧ x < 256) (hrr : ∀ x ∈ rs, 0 ≤ x ∧ x < 4294967296) (hmr : ∀ x ∈ ms, 0 ≤ x ∧ x < 256) :
    Calls Tryd.prog 6 #[.agg #[.slice pw ws.length cw, .int .i64 size, .slice pi is.length ci, .slice pr rs.length cr], .int .i64 n0, .slice pm ms.length cm] w fun e w' => e = .returned (.bool true) ∧ Below w.heap.size w w' := by
  have hA := Lib.hid (fun (pi' : Option Addr) (ci' : Nat) (is' : List Int) w' (hb : Below w.heap.size w w') (hi' : Arg .u8 w' pi' ci' is') (hir' : ∀ x ∈ is', 0 ≤ x ∧ x < 256) => setting_at pw pi' pr cw ci' cr size ws is' rs w' (hE.below hb) (hw.below hb) hi' (hr.below hb) hwr hir' hrr)
  have HE := Lib.hid hE
  have HI := Lib.hid (And.intro hi hir)
  have HM := Lib.hid (And.intro hm hmr)
  obtain ⟨is2, his2⟩ : ∃ x, x = is.take 50 := ⟨_, rfl⟩
  obtain ⟨ms2, hms2⟩ : ∃ x, x = ms.take 20 := ⟨_, rfl⟩
  have HT := Lib.hid (And.intro his2 hms2)
  clear hw hi hr hwr hir hrr hE hm hmr his2 hms2
  go_enter Tryd.func6, Tryd.ntmps6
  go_wp2_with fail
  have hb0 : Below w.heap.size w (w.alloc (.cells #[.slice pw ws.length cw, .int .i64 size, .slice pi is.length ci, .slice pr rs.length cr] 25)) := (Below.refl _ _).alloc (Nat.le_refl _) _
  have hX := heap_new w (.cells #[.slice pw ws.length cw, .int .i64 size, .slice pi is.length ci, .slice pr rs.length cr] 25)
  obtain ⟨wX, hwX⟩ : ∃ wX, wX = w.alloc (.cells #[.slice pw ws.length cw, .int .i64 size, .slice pi is.length ci, .slice pr rs.length cr] 25) := ⟨_, rfl⟩
  rw [← hwX] at hb0 hX ⊢
  have hXs : w.heap.size < wX.heap.size := by rw [hwX]; simp
  clear hwX
  refine (hA.out pi ci is _ hb0 (HI.out.1.below hb0) HI.out.2).mono ?_
  rintro e w1 (⟨-, rfl, hb⟩ | ⟨hg, l, q, rfl, hM⟩)
  · have hb2 := hb0.trans (hb.mono hb0.size)
    have HB := Lib.hid hb2
    clear hb hb2 hb0 hX hXs
    go_wp2_with fail
    refine (works_any _ (HE.out.below HB.out)).mono ?_
    rintro e wz ⟨rfl, hb⟩
    have HZ := Lib.hid (HB.out.trans (hb.mono HB.out.size))
    clear hb
    go_wp2_with fail
    go_ret
    exact ⟨rfl, HZ.out⟩
  · have S := Lib.hid ((hM.base hb0).sit HE.out)
    obtain ⟨x0, x1, x2, x3⟩ := (XS.of hX).keep hM.below hXs
    obtain ⟨X, hXe⟩ : ∃ X, X = w.heap.size := ⟨_, rfl⟩
    rw [← hXe] at x0 x1 x2 x3
    have hz := stM_zero ws size is rs
    have HG := Lib.hid (And.intro hg hXe)
    rw [← hXe]
    clear hM hb0 hg hX hXs hXe
    have HZ := Lib.hid hz
    clear hz
    go_upto_region 4 with fail
    go_cut [1] (fun u wx => wx = w1 ∧ ∃ a : Nat, u = .int .i64 a ∧ a ≤ 500)
    case first =>
      go_wp2_with fail
      all_goals
        go_meet
        case rel => exact ⟨rfl, nat_of (by omega) (by omega)⟩
    case rest =>
      obtain ⟨rfl, n, rfl, hn⟩ := hcut
      go_upto_region 5 with fail
      go_cut [11] (fun a wx => wx = wc ∧ a = .slice pi is2.length ci)
      case first =>
        cases hp : pi with
        | none =>
          obtain ⟨h1, h2⟩ := HI.out.1.nil hp
          subst h1 h2 hp
          go_wp2_with fail
          go_meet
          case rel => exact ⟨rfl, sl_meet (by rw [HT.out.1]; rfl)⟩
        | some ad =>
          subst hp
          have hle := HI.out.1.le
          have hmx := HI.out.1.max
          by_cases h50 : is.length ≤ 50
          · go_wp2_with fail
            go_meet
            case rel => exact ⟨rfl, sl_meet (by rw [HT.out.1, List.length_take]; omega)⟩
          · go_wp2_with fail
            go_meet
            case rel => exact ⟨rfl, sl_meet (by rw [HT.out.1, List.length_take]; omega)⟩
      case rest =>
        obtain ⟨rfl, rfl⟩ := hcut
        have hL : is2.length ≤ 50 := by rw [HT.out.1, List.length_take]; omega
        have hL2 : ms2.length ≤ 20 := by rw [HT.out.2, List.length_take]; omega
        obtain ⟨L, hLe⟩ : ∃ L, L = is2.length := ⟨_, rfl⟩
        obtain ⟨N, hNe⟩ : ∃ N, N = L + ms2.length := ⟨_, rfl⟩
        have HN := Lib.hid (And.intro hL (And.intro hL2 (And.intro hLe hNe)))
        rw [← hLe]
        clear hL hL2 hLe hNe
        go_upto_region 7 with fail
        obtain ⟨w6, hw6⟩ : ∃ w6, w6 = wc.alloc (.cells #[.slice pw ws.length cw, .int .i64 size, .slice pi is.length ci, .slice pr rs.length cr] 25) := ⟨_, rfl⟩
        have hY := heap_new wc (.cells #[.slice pw ws.length cw, .int .i64 size, .slice pi is.length ci, .slice pr rs.length cr] 25)
        have hb6 : Below wc.heap.size wc w6 := by rw [hw6]; exact (Below.refl _ _).alloc (Nat.le_refl _) _
        have hs6 : wc.heap.size < w6.heap.size := by rw [hw6]; simp
        rw [← hw6] at hY ⊢
        clear hw6
        obtain ⟨Y, hYe⟩ : ∃ Y, Y = wc.heap.size := ⟨_, rfl⟩
        rw [← hYe] at hY hs6 ⊢
        have y2 : w6.cell? ⟨Y, 2, none⟩ = some (.slice pi is.length ci) := by rw [cell_of_block hY]; rfl
        have f2 : w6.frozen? ⟨Y, 2, none⟩ = false := freeF hY 2
        have HY := Lib.hid (And.intro hY (And.intro hb6 (And.intro hYe S.out)))
        have HB1 := Lib.hid (show ∀ w', Below w6.heap.size w6 w' → BRead w' (.slice pi L ci) is2 from fun w' hb => by
          have hbb : Below w.heap.size w w' := S.out.below.trans ((hb6.trans (hb.mono (by omega))).mono S.out.below.size)
          have := (HI.out.1.below hbb).take 50
          rw [← HT.out.1] at this
          rw [HN.out.2.2.1]
          exact this.bread)
        have HB2 := Lib.hid (show ∀ w', Below w6.heap.size w6 w' → Arg .u8 w' pm cm ms from fun w' hb => by
          have hbb : Below w.heap.size w w' := S.out.below.trans ((hb6.trans (hb.mono (by omega))).mono S.out.below.size)
          exact HM.out.1.below hbb)
        clear hY hb6 hYe S x0 x1 x2 x3
        go_cut [12] (fun y wx => y = .pointer (some ⟨Y, 0, none⟩) ∧ ∃ (p : Option Addr) (c : Nat), Below Y w6 wx ∧ XS wx Y (.slice pw ws.length cw) (.int .i64 size) (.slice p N c) (.slice pr rs.length cr) ∧ N = (is2 ++ ms2).length ∧ Arg .u8 wx p c (is2 ++ ms2))
        case first =>
          cases hp : pm with
          | none =>
            obtain ⟨h1, h2⟩ := HM.out.1.nil hp
            subst h1 h2 hp
            have H2 := Lib.hid (show ∀ w', Below w6.heap.size w6 w' → BRead w' (.slice none 0 0) ms2 from fun w' hb => Or.inl ⟨by rw [HT.out.2]; rfl, rfl⟩)
            go_region_law (first
              | (refine step_app rfl _ _ rfl rfl w6.heap.size _ 0 L [] rfl (own_empty w6 w6.heap.size (Nat.le_refl _)) (.slice pi L ci) is2 rfl (HB1.out _ ((Below.refl _ _).alloc (Nat.le_refl _) _).drew) (by have := HN.out.2.2.1; omega) (by have := HN.out.1; have := HN.out.2.2.1; omega) (by simp) ?_; intro p1 c1 w7 o1 b1; have B7 := Below.trans (((Below.refl w6.heap.size w6).alloc (Nat.le_refl _) _).drew) b1)
              | (refine step_app rfl _ _ rfl rfl w6.heap.size _ L N is2 rfl o1 _ ms2 rfl (H2.out _ B7) (by have := HN.out.2.2.2; omega) (by have := HN.out; omega) B7.size ?_; intro p2 c2 w8 o2 b2; have B8 := Below.trans B7 b2; have y2' := (Below.cell (p := ⟨Y, 2, none⟩) B8 hs6).trans y2; have f2' := (Below.frozen (p := ⟨Y, 2, none⟩) B8 hs6).trans f2; have R8 := Lib.hid (ready_y HY.out.1 B8 o2)))
            all_goals
              clear B7 b1 B8 o1
              go_wp2_with fail
              go_meet
              case rel => exact ⟨rfl, _, _, R8.out⟩
          | some ad =>
            subst hp
            have hle := HM.out.1.le
            have hmx := HM.out.1.max
            by_cases h20 : ms.length ≤ 20
            · have hc20 : ¬ ((20 : Int) < (ms.length : Int)) := by omega
              have hle2 : (ms.length : Int) ≤ (cm : Int) := by omega
              have H2 := Lib.hid (show ∀ w', Below w6.heap.size w6 w' → BRead w' (.slice (some ad) ms.length cm) ms2 from fun w' hb => by rw [HT.out.2, List.take_of_length_le h20]; exact (HB2.out w' hb).bread)
              go_region_law (first
                | (refine step_app rfl _ _ rfl rfl w6.heap.size _ 0 L [] rfl (own_empty w6 w6.heap.size (Nat.le_refl _)) (.slice pi L ci) is2 rfl (HB1.out _ ((Below.refl _ _).alloc (Nat.le_refl _) _).drew) (by have := HN.out.2.2.1; omega) (by have := HN.out.1; have := HN.out.2.2.1; omega) (by simp) ?_; intro p1 c1 w7 o1 b1; have B7 := Below.trans (((Below.refl w6.heap.size w6).alloc (Nat.le_refl _) _).drew) b1)
                | (refine step_app rfl _ _ rfl rfl w6.heap.size _ L N is2 rfl o1 _ ms2 rfl (H2.out _ B7) (by have := HN.out.2.2.2; omega) (by have := HN.out; omega) B7.size ?_; intro p2 c2 w8 o2 b2; have B8 := Below.trans B7 b2; have y2' := (Below.cell (p := ⟨Y, 2, none⟩) B8 hs6).trans y2; have f2' := (Below.frozen (p := ⟨Y, 2, none⟩) B8 hs6).trans f2; have R8 := Lib.hid (ready_y HY.out.1 B8 o2)))
              all_goals
                clear B7 b1 B8 o1
                go_wp2_with fail
                go_meet
                case rel => exact ⟨rfl, _, _, R8.out⟩
            · have hc20 : (20 : Int) < (ms.length : Int) := by omega
              have hle2 : (20 : Int) ≤ (cm : Int) := by omega
              have H2 := Lib.hid (show ∀ w', Below w6.heap.size w6 w' → BRead w' (.slice (some ad) 20 cm) ms2 from fun w' hb => by
                have := ((HB2.out w' hb).take 20).bread
                rw [← HT.out.2] at this
                have e : ms2.length = 20 := by rw [HT.out.2, List.length_take]; omega
                rwa [e] at this)
              go_region_law (first
                | (refine step_app rfl _ _ rfl rfl w6.heap.size _ 0 L [] rfl (own_empty w6 w6.heap.size (Nat.le_refl _)) (.slice pi L ci) is2 rfl (HB1.out _ ((Below.refl _ _).alloc (Nat.le_refl _) _).drew) (by have := HN.out.2.2.1; omega) (by have := HN.out.1; have := HN.out.2.2.1; omega) (by simp) ?_; intro p1 c1 w7 o1 b1; have B7 := Below.trans (((Below.refl w6.heap.size w6).alloc (Nat.le_refl _) _).drew) b1)
                | (refine step_app rfl _ _ rfl rfl w6.heap.size _ L N is2 rfl o1 _ ms2 rfl (H2.out _ B7) (by have := HN.out.2.2.2; omega) (by have := HN.out; omega) B7.size ?_; intro p2 c2 w8 o2 b2; have B8 := Below.trans B7 b2; have y2' := (Below.cell (p := ⟨Y, 2, none⟩) B8 hs6).trans y2; have f2' := (Below.frozen (p := ⟨Y, 2, none⟩) B8 hs6).trans f2; have R8 := Lib.hid (ready_y HY.out.1 B8 o2)))
              all_goals
                clear B7 b1 B8 o1
                go_wp2_with fail
                go_meet
                case rel => exact ⟨rfl, _, _, R8.out⟩
        case rest =>
          obtain ⟨rfl, p, c, hb, ⟨z0, z1, z2, z3⟩, hNe, ha⟩ := hcut
          have hS := HY.out.2.2.2.grow (HY.out.2.1.trans (HY.out.2.2.1 ▸ hb))
          have S := Lib.hid hS
          have HA2 := Lib.hid (And.intro ha hNe)
          clear hb hS ha hNe y2 f2 HY HB1 HB2 hs6
          by_cases h50 : N ≤ 50
          · have d1 : decide ((50 : Int) < (N : Int)) = false := by simp; omega
            have H50 := Lib.hid h50
            clear h50
            go_wp2_with fail
            have hcall := hA.out p c (is2 ++ ms2) _ S.out.below HA2.out.1 (fun x hx => by
              rcases List.mem_append.1 hx with h | h
              · rw [HT.out.1] at h; exact HI.out.2 x (List.mem_of_mem_take h)
              · rw [HT.out.2] at h; exact HM.out.2 x (List.mem_of_mem_take h))
            rw [← HA2.out.2] at hcall
            refine hcall.mono ?_
            clear hcall
            rintro e w2 (⟨hng, -, -⟩ | ⟨-, l2, q2, rfl, hM2⟩)
            · exact absurd HG.out.1 hng
            · have s2 := S.out.add hM2.rep hM2.below
              rw [take_in ws size is (is2 ++ ms2) rs (by rw [← HA2.out.2]; exact H50.out)] at s2
              obtain ⟨m, hm⟩ : ∃ m, m = stM ws size is rs := ⟨_, rfl⟩
              obtain ⟨i2, hi2⟩ : ∃ i2, i2 = is2 ++ ms2 := ⟨_, rfl⟩
              rw [← hm, ← hi2] at s2
              replace S := Lib.hid s2.swap
              rw [← hm] at HZ
              obtain ⟨A, hAe⟩ : ∃ A, A = l.M := ⟨_, rfl⟩
              obtain ⟨B, hBe⟩ : ∃ B, B = l2.M := ⟨_, rfl⟩
              have HH := Lib.hid (And.intro hAe.symm hBe.symm)
              rw [← hAe, ← hBe]
              clear hM2 s2 hm hi2 hAe hBe z0 z1 z2 z3 hA HA2 H50 HT HI HM HG HN
              go_wp2_with fail
              go_loopw [17] (fun i wr => ∃ (j : Nat) (la lb : Lay), i = .int .i64 j ∧ j ≤ n ∧ la.M = A ∧ lb.M = B ∧ Sit w wr ((la, MS.run j m) :: (lb, (MS.run j m).inTo i2) :: [])) (fun i _ => n - (intOf i).toNat)
              case atStart => exact ⟨0, l, l2, rfl, Nat.zero_le _, HH.out.1, HH.out.2, S.out⟩
              case round =>
                obtain ⟨j, la, lb, rfl, hj, ha, hb, s⟩ := hrel
                have hbj := run_bounds j m
                rw [HZ.out.1, HZ.out.2.1] at hbj
                have hr1 := run_add j 1 m
                obtain ⟨mj, hmj⟩ : ∃ mj, mj = MS.run j m := ⟨_, rfl⟩
                rw [← hmj] at hbj s hr1
                have T := Lib.hid (And.intro s (And.intro hbj hr1))
                have HAB := Lib.hid (And.intro ha hb)
                clear s hbj ha hb hmj hr1
                by_cases hlt : j < n
                · have d1 : decide ((j : Int) < (n : Int)) = true := by simp; omega
                  obtain ⟨pl, hpl⟩ : ∃ pl : Nat, mj.place = pl := ⟨mj.place.toNat, by have := T.out.1.rep.ok.place; omega⟩
                  have v := T.out.1.val HAB.out.1
                  obtain ⟨c0, c35, -, -, -, -⟩ := v
                  rw [hpl] at c35
                  have hpr : (pl : Int) < 4294967296 := by have := T.out.1.rep.ok.place; omega
                  have HPL := Lib.hid hpl
                  clear hpl
                  go_wp2_with (go_at_call 25; refine (place_at _ _ _ c0 c35).mono ?_; rintro e w' ⟨rfl, rfl⟩)
                  refine (T.out.1.rep.memAt HAB.out.1 pl).mono ?_
                  rintro e w' ⟨rfl, rfl⟩
                  clear c0 c35
                  obtain ⟨wv, hwv⟩ : ∃ wv, wv = memV mj pl := ⟨_, rfl⟩
                  obtain ⟨bb, hbb⟩ : ∃ bb, bb = memB mj pl := ⟨_, rfl⟩
                  have hwr := memV_range T.out.1.rep.ok pl
                  rw [← hwv] at hwr ⊢
                  rw [← hbb]
                  have HV := Lib.hid (And.intro hwv (And.intro hbb hwr))
                  clear hwv hbb hwr
                  go_wp2_with fail
                  refine (dec_view wv _ T.out.1.env HV.out.2.2.1 HV.out.2.2.2).mono ?_
                  rintro e w9 ⟨op, d, a, b, imm, en, rfl, hio, hb9⟩
                  rw [HV.out.1] at hio
                  have hat := atIn_iff HPL.out HV.out.2.1.symm hio
                  have S9 := Lib.hid (T.out.1.grow hb9)
                  have HAT := Lib.hid hat
                  clear hio hb9 hat
                  go_upto_region 18 with fail
                  obtain ⟨wA, hwA⟩ : ∃ wA, wA = w9.alloc (.cells #[.int .i64 op, .int .i64 d, .int .i64 a, .int .i64 b, .int .i64 imm] 55) := ⟨_, rfl⟩
                  have x0 : wA.cell? ⟨w9.heap.size, 0, none⟩ = some (.int .i64 op) := by rw [hwA, cell_of_block (heap_new w9 _)]; rfl
                  have SA : Sit w wA ((la, mj) :: (lb, mj.inTo i2) :: []) := by rw [hwA]; exact S9.out.alloc _
                  replace SA := Lib.hid SA
                  rw [← hwA]
                  clear hwA S9 HV
                  go_cut [102] (fun t wx => wx = wA ∧ ∃ q, t = .bool q ∧ Hid (q = (mj.atIn && decide (mj.state = 0))))
                  case first =>
                    cases bb with
                    | false =>
                      go_wp2_with fail
                      go_meet
                      case rel => exact ⟨rfl, false, rfl, by unfold Hid; rw [HAT.out]; rfl⟩
                    | true =>
                      by_cases he : en = 0
                      · subst he
                        by_cases ho : op = 34
                        · subst ho
                          have v := SA.out.val HAB.out.1
                          obtain ⟨c0, -, c36, -, -, -⟩ := v
                          by_cases hs : mj.state = 0
                          · rw [hs] at c36
                            have HS := Lib.hid hs
                            clear hs
                            go_wp2_with (go_at_call 22; refine (state_at _ _ _ c0 c36).mono ?_; rintro e w' ⟨rfl, rfl⟩)
                            go_meet
                            case rel => exact ⟨rfl, true, rfl, by unfold Hid; rw [HAT.out, HS.out]; rfl⟩
                          · have hs2 : (mj.state == 0) = false := beq_eq_false_iff_ne.2 hs
                            have HS := Lib.hid hs
                            clear hs
                            go_wp2_with (go_at_call 22; refine (state_at _ _ _ c0 c36).mono ?_; rintro e w' ⟨rfl, rfl⟩)
                            go_meet
                            case rel => exact ⟨rfl, false, rfl, by unfold Hid; rw [decide_eq_false HS.out, Bool.and_false]⟩
                        · have ho2 : (op == 34) = false := beq_eq_false_iff_ne.2 ho
                          have HO := Lib.hid ho
                          clear ho
                          go_wp2_with fail
                          go_meet
                          case rel => exact ⟨rfl, false, rfl, by unfold Hid; rw [HAT.out, decide_eq_false HO.out]; rfl⟩
                      · have he2 : (en == 0) = false := beq_eq_false_iff_ne.2 he
                        have HO := Lib.hid he
                        clear he
                        go_wp2_with fail
                        go_meet
                        case rel => exact ⟨rfl, false, rfl, by unfold Hid; rw [HAT.out, decide_eq_false HO.out]; rfl⟩
                  case rest =>
                    obtain ⟨rfl, t, rfl, HQ⟩ := hcut
                    clear x0 HAT
                    cases t with
                    | true =>
                      go_wp2_with fail
                      refine (works_any _ SA.out.env).mono ?_
                      rintro e wz ⟨rfl, hb⟩
                      replace S := Lib.hid (SA.out.grow hb)
                      clear hb
                      go_wp2_with fail
                      go_ret
                      exact ⟨rfl, S.out.below⟩
                    | false =>
                      have hnot : mj.state = 0 → mj.atIn = false := fun h => by
                        have := HQ.out
                        rw [h] at this
                        simpa using this.symm
                      have hin := run1_in mj i2 T.out.1.rep.ok.place.1 hnot
                      obtain ⟨m1, hm1⟩ : ∃ m1, m1 = MS.run 1 mj := ⟨_, rfl⟩
                      rw [← hm1] at hin
                      obtain ⟨st, hst⟩ : ∃ st, m1.state = st := ⟨_, rfl⟩
                      have hl1 : mj.steps < 1000000 := by have := T.out.2.1.1; omega
                      have hl2 : mj.out.length < 1000000 := by have := T.out.2.1.2; simp at this; omega
                      have HR := Lib.hid (And.intro hin (And.intro hm1.symm (And.intro hst (And.intro hl1 hl2))))
                      clear hnot hin hm1 hst hl1 hl2
                      go_wp2_with fail
                      refine (SA.out.step (m' := m1) HAB.out.1 HR.out.2.1 HR.out.2.2.1 HR.out.2.2.2.1 HR.out.2.2.2.2).mono ?_
                      rintro e wb ⟨rfl, la2, ha2, s⟩
                      have S2 := Lib.hid s.swap
                      have HA2 := Lib.hid ha2
                      clear s ha2
                      go_wp2_with fail
                      refine (S2.out.step (m' := m1.inTo i2) HAB.out.2 HR.out.1 HR.out.2.2.1 HR.out.2.2.2.1 HR.out.2.2.2.2).mono ?_
                      rintro e wd ⟨rfl, lb2, hb2, s⟩
                      have S3 := Lib.hid s.swap
                      have HB2 := Lib.hid hb2
                      clear s hb2
                      go_wp2_with fail
                      go_roundw
                      case rel =>
                        refine ⟨j + 1, la2, lb2, by go_num, hlt, HA2.out, HB2.out, ?_⟩
                        rw [T.out.2.2, HR.out.2.1]
                        exact S3.out
                      case measure => simp [intOf]; omega
                · have he : j = n := by omega
                  subst he
                  have d1 : decide ((j : Int) < (j : Int)) = false := by simp
                  have hl2 : mj.out.length ≤ 1000000 := by have := T.out.2.1.2; simp at this; omega
                  have HL := Lib.hid hl2
                  clear hl2
                  go_wp2_with fail
                  refine (same_in T.out.1 HAB.out.1 HAB.out.2 HL.out).mono ?_
                  rintro e wa ⟨rfl, s⟩
                  replace S := Lib.hid s
                  clear s
                  go_wp2_with fail
                  refine (works_any _ S.out.env).mono ?_
                  rintro e wz ⟨rfl, hb⟩
                  replace S := Lib.hid (S.out.grow hb)
                  clear hb
                  go_wp2_with fail
                  go_ret
                  exact ⟨rfl, S.out.below⟩
          · have d1 : decide ((50 : Int) < (N : Int)) = true := by simp; omega
            clear h50
            go_wp2_with fail
            refine (works_any _ S.out.env).mono ?_
            rintro e wz ⟨rfl, hb⟩
            replace S := Lib.hid (S.out.grow hb)
            clear hb
            go_wp2_with fail
            go_ret
            exact ⟨rfl, S.out.below⟩
end Go.Proofs.YtknnmacmohpanaaDoor
