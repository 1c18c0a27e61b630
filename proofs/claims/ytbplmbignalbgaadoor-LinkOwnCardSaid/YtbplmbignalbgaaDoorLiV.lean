/- The walk of LinkOwn. Conditions: the table of forms is as laid. -/
import Derived.Test.YtbplmbignalbgaaDoorLiU
import Derived.Deep.QuietTactic
import Derived.Laws.BytesArg
namespace Go.Proofs.YtbplmbignalbgaaDoor
open Go.RowKit Asm
set_option linter.unusedVariables false
set_option linter.unusedSimpArgs false

def RelO (B : Nat) (t : ByteArray) (n0 n1 i : Nat) (s6 : Value) (wr : World) : Prop :=
  (i = 0 → s6 = .slice none 0 0) ∧ (i = 1 → ∃ v0, wr.ownsRow B 49 2 s6 1 [.string ⟨#[97]⟩, v0] ∧ wr.ownsRow B 40 8 v0 (n0 + 2) (rowL (ownI t n0))) ∧
  (i = 2 → ∃ v0 v1, wr.ownsRow B 49 2 s6 2 [.string ⟨#[97]⟩, v0, .string ⟨#[98]⟩, v1] ∧ wr.ownsRow B 40 8 v0 (n0 + 2) (rowL (ownI t n0)) ∧ wr.ownsRow B 40 8 v1 (n1 + 2) (rowL (ownI t n1)))
theorem one_icells (x : It) : ∀ u ∈ icells x, u.oneCell' = true := by
  have h := one_rowL [x]
  have e : rowL [x] = icells x := by simp [rowL]
  rwa [e] at h
theorem one_pair (x y : It) : ∀ u ∈ icells x ++ icells y, u.oneCell' = true := fun u hu => (List.mem_append.1 hu).elim (one_icells x u) (one_icells y u)
theorem conv1 (w : World) (c : Int) (nm : ByteArray) (h : strOfNums [c] = nm) : (convert 58 9 (.slice (some ⟨w.heap.size, 0, none⟩) 1 1)).run Tryd.prog (w.alloc (.cells #[.int .u8 c] 5)) = .ok (.string nm) (w.alloc (.cells #[.int .u8 c] 5)) := by
  have hc := run_convert_bytes_arg (P := Tryd.prog) (w.alloc (.cells #[.int .u8 c] 5)) 58 5 (by kernel_rfl) (by kernel_rfl) w.heap.size 0 1 1 [c] rfl
    (by
      intro i hi
      obtain rfl : i = 0 := by omega
      rw [World.cell?_alloc_at _ _ _ _ rfl]; rfl) 9 (by kernel_rfl)
  rw [h] at hc
  exact hc
theorem cell_newLs (w : World) (s : Nat) (hs : s = w.heap.size) (L : List Value) (t j : Nat) : (w.alloc (.cells L.toArray t)).cell? ((⟨s, 0, none⟩ : Addr).add j) = L[j]? := by
  subst hs
  exact cell_newL w L t j
theorem rows_apart {w : World} {B B' t t' m m' n n' : Nat} {v v' : Value} {xs ys : List Value} (h : w.ownsRow B t m v n xs) (k : w.ownsRow B' t' m' v' n' ys) (hne : t ≠ t') : v.ownBlock = none ∨ v.ownBlock ≠ v'.ownBlock := by
  rcases h.2 with ⟨rfl, -⟩ | ⟨g, cap, cur, rfl, -, hg, -⟩
  · exact Or.inl rfl
  · rcases k.2 with ⟨rfl, -⟩ | ⟨g', cap', cur', rfl, -, hg', -⟩
    · exact Or.inr (by simp [Value.ownBlock])
    · refine Or.inr (fun e => ?_)
      have e' : g = g' := by simpa [Value.ownBlock] using e
      subst e'
      rw [hg] at hg'
      simp only [Option.some.injEq, Obj.cells.injEq] at hg'
      exact hne hg'.2.1
theorem one_obj (s : ByteArray) (p : Option Addr) (n c : Nat) : ∀ u ∈ [Value.string s, Value.slice p n c], u.oneCell' = true := by
  intro u hu
  simp only [List.mem_cons, List.not_mem_nil, or_false] at hu
  rcases hu with rfl | rfl <;> rfl
theorem pfind_a (a b : ByteArray) (x y : Int) : pfind [(a, x), (b, y)] a 2 = some x := pfind_stays (k := 1) (pfind_hit (k := 0) rfl rfl) 2 (by decide)
theorem pfind_b {a b : ByteArray} (h : a ≠ b) (x y : Int) : pfind [(a, x), (b, y)] b 2 = some y := pfind_hit (k := 1) (pfind_miss (k := 0) rfl h) rfl
theorem own_objs2 {w : World} {B g c n0 n1 c0 c1 : Nat} {p0 p1 : Option Addr} {t : ByteArray} (h : w.ownsRow B 49 2 (.slice (some ⟨g, 0, none⟩) 2 c) 2 [.string ⟨#[97]⟩, .slice p0 (n0 + 2) c0, .string ⟨#[98]⟩, .slice p1 (n1 + 2) c1])
    (k0 : w.ownsRow B 40 8 (.slice p0 (n0 + 2) c0) (n0 + 2) (rowL (ownI t n0))) (k1 : w.ownsRow B 40 8 (.slice p1 (n1 + 2) c1) (n1 + 2) (rowL (ownI t n1))) (ht : t.size ≤ 20) (h0 : n0 ≤ 31) (h1 : n1 ≤ 31) : Objs w (some ⟨g, 0, none⟩) c (ownL t n0 n1) := by
  have l0 := ownI_len t n0
  have l1 := ownI_len t n1
  rw [← l0] at k0 h
  rw [← l1] at k1 h
  obtain ⟨q0, d0, e0, i0, -⟩ := own_items k0 (ownI_ok t n0 ht h0) (by decide)
  obtain ⟨q1, d1, e1, i1, -⟩ := own_items k1 (ownI_ok t n1 ht h1) (by decide)
  cases e0
  cases e1
  have hcap : 2 ≤ c ∧ c ≤ 9223372036854775807 := by
    rcases h.2 with ⟨h', -⟩ | ⟨g', cap, cur, e, -, -, hc, hm, -⟩
    · cases h'
    · simp only [Value.slice.injEq] at e
      obtain ⟨-, -, rfl⟩ := e
      exact ⟨hc, by unfold maxLen at hm; omega⟩
  refine ⟨fun h => (by cases h), hcap.1, hcap.2, fun _ => ⟨g, 0, rfl, fun i hi => ?_⟩, fun i hi => ?_⟩ <;> rcases (show i = 0 ∨ i = 1 by have : i < 2 := hi; omega) with rfl | rfl
  · exact ⟨(h.cellAt 0 (by decide)).trans rfl, _, _, (h.cellAt 1 (by decide)).trans rfl, i0⟩
  · exact ⟨(h.cellAt 2 (by decide)).trans rfl, _, _, (h.cellAt 3 (by decide)).trans rfl, i1⟩
  · show (1 : Nat) ≤ maxLen; unfold maxLen; omega
  · show (1 : Nat) ≤ maxLen; unfold maxLen; omega
theorem rf_ok (t : ByteArray) (ht : t.size ≤ 20) : OkI 1000 [rfI (dot t)] := by
  intro x hx
  have hd := dot_size t
  obtain rfl := List.mem_singleton.1 hx
  exact ⟨⟨by show (0 : Int) ≤ 0; omega, by show (0 : Int) < 4294967296; omega⟩, by show (dot t).size ≤ 1000; omega⟩
theorem own_objs3 {w : World} {B g c n0 c0 c1 : Nat} {p0 p1 : Option Addr} {t : ByteArray} (h : w.ownsRow B 49 2 (.slice (some ⟨g, 0, none⟩) 2 c) 2 [.string ⟨#[97]⟩, .slice p0 (n0 + 2) c0, .string ⟨#[98]⟩, .slice p1 1 c1])
    (k0 : w.ownsRow B 40 8 (.slice p0 (n0 + 2) c0) (n0 + 2) (rowL (ownI t n0))) (i1 : Items w p1 1 c1 (litX [rfI (dot t)])) (ht : t.size ≤ 20) (h0 : n0 ≤ 31) : Objs w (some ⟨g, 0, none⟩) c (ownL2 t n0) := by
  have l0 := ownI_len t n0
  rw [← l0] at k0 h
  obtain ⟨q0, d0, e0, i0, -⟩ := own_items k0 (ownI_ok t n0 ht h0) (by decide)
  cases e0
  have hcap : 2 ≤ c ∧ c ≤ 9223372036854775807 := by
    rcases h.2 with ⟨h', -⟩ | ⟨g', cap, cur, e, -, -, hc, hm, -⟩
    · cases h'
    · simp only [Value.slice.injEq] at e
      obtain ⟨-, -, rfl⟩ := e
      exact ⟨hc, by unfold maxLen at hm; omega⟩
  refine ⟨fun h => (by cases h), hcap.1, hcap.2, fun _ => ⟨g, 0, rfl, fun i hi => ?_⟩, fun i hi => ?_⟩ <;> rcases (show i = 0 ∨ i = 1 by have : i < 2 := hi; omega) with rfl | rfl
  · exact ⟨(h.cellAt 0 (by decide)).trans rfl, _, _, (h.cellAt 1 (by decide)).trans rfl, i0⟩
  · exact ⟨(h.cellAt 2 (by decide)).trans rfl, _, _, (h.cellAt 3 (by decide)).trans rfl, i1⟩
  · show (1 : Nat) ≤ maxLen; unfold maxLen; omega
  · show (1 : Nat) ≤ maxLen; unfold maxLen; omega
theorem infoOb : (Tryd.prog.info? 49).map (fun i => (i.zero, i.size, i.bytes)) = some (some (.agg #[.string ByteArray.empty, .slice none 0 0]), 2, 40) := by kernel_rfl
theorem infoOb_of : ∃ i, Tryd.prog.info? 49 = some i ∧ i.zero = some (.agg #[.string ByteArray.empty, .slice none 0 0]) ∧ i.size = 2 ∧ i.bytes = 40 := by
  obtain ⟨i, hi, hx⟩ := Option.map_eq_some_iff.1 infoOb
  simp only [Prod.mk.injEq] at hx
  exact ⟨i, hi, hx⟩
set_option maxRecDepth 100000 in
set_option maxHeartbeats 16000000 in
theorem own_any (s : ByteArray) (a0 a1 : Int) (h0 : 0 ≤ a0 ∧ a0 ≤ 255) (h1 : 0 ≤ a1 ∧ a1 ≤ 255) (hs : s.size ≤ maxLen) (w : World) (h : Env w) :
    Calls Tryd.prog 6 #[.string s, .agg #[.int .u8 a0, .int .u8 a1]] w fun e w' => e = .returned (.bool true) ∧ Below w.heap.size w w' := by
  have HE := Lib.hid h
  clear h
  unfold maxLen at hs
  obtain ⟨i0, hi, hz0, hz1, hz2⟩ := infoIt_of
  obtain ⟨j0, hj, hy0, hy1, hy2⟩ := infoOb_of
  go_enter Tryd.func6, Tryd.ntmps6
  go_upto_region 1 with fail
  have hN := cells2 (heap_new w (.cells #[.int .u8 a0, .int .u8 a1] 57))
  have hal := (Below.refl w.heap.size w).alloc (Nat.le_refl _) (.cells #[.int .u8 a0, .int .u8 a1] 57)
  obtain ⟨w1, hw1⟩ : ∃ w1, w1 = w.alloc (.cells #[.int .u8 a0, .int .u8 a1] 57) := ⟨_, rfl⟩
  obtain ⟨A, hA⟩ : ∃ A, A = w.heap.size := ⟨_, rfl⟩
  rw [← hw1, ← hA] at hN
  rw [← hw1] at hal
  rw [← hw1, ← hA]
  have HB1 := Lib.hid hal
  clear hal hw1 hA
  go_upto_if 22 with fail
  go_cut [0] (fun c wx => ∃ t : ByteArray, c = .string t ∧ t.size ≤ 20 ∧ wx = w1)
  case first =>
    by_cases hsz : s.size ≤ 20
    · have d0 : decide (20 < (s.size : Int)) = false := decide_eq_false (by omega)
      rw [d0]
      go_wp2_with fail
      go_meet
      case rel => exact ⟨s, rfl, hsz, rfl⟩
    · have d0 : decide (20 < (s.size : Int)) = true := decide_eq_true (by omega)
      rw [d0]
      go_wp2_with fail
      go_meet
      case rel =>
        refine ⟨_, rfl, ?_, rfl⟩
        rw [Lib.size_eq, Lib.extract_data, List.length_take]
        omega
  case rest =>
    obtain ⟨t, rfl, ht, rfl⟩ := hcut
    clear hs
    have eL : (⟨#[46]⟩ : ByteArray) ++ t = dot t := rfl
    obtain ⟨n0, hn0⟩ : ∃ n0 : Nat, a0 % 31 = n0 := ⟨(a0 % 31).toNat, by omega⟩
    obtain ⟨n1, hn1⟩ : ∃ n1 : Nat, a1 % 31 = n1 := ⟨(a1 % 31).toNat, by omega⟩
    have q0 : n0 ≤ 30 := by omega
    have q1 : n1 ≤ 30 := by omega
    have hd := dot_size t
    have hlA : A < wc.heap.size := World.block_lt_of_cell? wc _ hN.1
    have HN := Lib.hid (And.intro hN hlA)
    clear hN hlA
    go_upto_region 4 with fail
    clear eL
    go_wp2_with fail
    go_loopw [6, 7] (fun s6 s7 wr => ∃ i : Nat, s7 = .int .i64 i ∧ i ≤ 2 ∧ RelO wc.heap.size t n0 n1 i s6 wr ∧ Below wc.heap.size wc wr) (fun _ s7 _ => 2 - (intOf s7).toNat)
    case atStart => exact ⟨0, rfl, by decide, ⟨fun _ => rfl, fun h => (by cases h), fun h => (by cases h)⟩, Below.refl _ _⟩
    case round =>
      obtain ⟨i, rfl, hi2, hrel, hb⟩ := hrel
      obtain ⟨wo, rfl⟩ : ∃ wo, wo = wr := ⟨_, rfl⟩
      rcases (show i = 0 ∨ i = 1 ∨ i = 2 by omega) with rfl | rfl | rfl
      · have h6 := hrel.1 rfl
        subst h6
        clear hrel
        have k0 := (hb.cell (p := ⟨A, 0, none⟩) HN.out.2).trans HN.out.1.1
        have HB := Lib.hid hb
        clear hb
        rw [show ((0 : Nat) : Int) = 0 from rfl]
        go_wp2_with fail
        go_loopw [8, 9] (fun s8 s9 wx => ∃ k : Nat, s9 = .int .i64 k ∧ k ≤ n0 ∧ wx.ownsRow wo.heap.size 40 8 s8 k (rowL (wds k)) ∧ Below wo.heap.size wo wx) (fun _ s9 _ => n0 - (intOf s9).toNat)
        case atStart => exact ⟨0, rfl, Nat.zero_le _, World.ownsRow_nil _ _ _ _, Below.refl _ _⟩
        case round =>
          obtain ⟨k, rfl, hk, ho, hb⟩ := hrel
          obtain ⟨v8, hv8⟩ : ∃ v8, v8 = u8 := ⟨_, rfl⟩
          rw [← hv8] at ho ⊢
          clear hv8
          have kx := (hb.cell (World.block_lt_of_cell? _ _ k0)).trans k0
          by_cases hlt : k < n0
          · have d1 : decide ((k : Int) < (n0 : Int)) = true := decide_eq_true (by omega)
            have HX := Lib.hid hb
            have hbs := hb.size
            clear hb
            go_wp2_with (first
              | (at_builtin; refine wpList_append_own _ rfl _ _ 25 rfl wo.heap.size 40 i0 (.agg #[.int .i64 0, .int .i64 0, .int .i64 0, .int .i64 0, .int .i64 0, .int .i64 0, .string ByteArray.empty, .int .u32 0]) 8 72 Tryd.underlying25 hi hz0 hz1 hz2 rfl (by decide) _ _ _ rfl (ho.alloc _) ⟨wr.heap.size, 0, none⟩ 1 1 (icells (wdI k)) rfl rfl (fun t u hu => (cell_newL wr (icells (wdI k)) 40 t).trans hu) (one_icells (wdI k)) ?c3 ?c4 ?c5 ?_)
              | fail)
            case c3 => unfold maxLen; omega
            case c4 => omega
            case c5 => simp; omega
            intro v' w6 hown3 hgrow _
            have hb6 : Below wo.heap.size wo w6 := (HX.out.alloc (HX.out.size) _).grown hgrow (by simp; omega) (fun q hq => (ho.lt q hq).1)
            have H3 := Lib.hid (And.intro hown3 hb6)
            clear hown3 hgrow hb6 ho
            go_wp2_with fail
            go_roundw
            case rel =>
              refine ⟨k + 1, by go_num, hlt, ?_, H3.out.2⟩
              have e2 : rowL [wdI k] = icells (wdI k) := by simp [rowL]
              rw [wds_next, rowL_app, e2]
              exact H3.out.1
            case measure => simp [intOf]; omega
          · have hzk : k = n0 := by omega
            subst hzk
            have d1 : decide ((k : Int) < (k : Int)) = false := by simp
            have HX := Lib.hid hb
            have hbs := hb.size
            clear hb k0
            go_wp2_with (first
              | (at_builtin; refine wpList_append_own _ rfl _ _ 25 rfl wo.heap.size 40 i0 (.agg #[.int .i64 0, .int .i64 0, .int .i64 0, .int .i64 0, .int .i64 0, .int .i64 0, .string ByteArray.empty, .int .u32 0]) 8 72 Tryd.underlying25 hi hz0 hz1 hz2 rfl (by decide) _ _ _ rfl (ho.alloc _) ⟨wr.heap.size, 0, none⟩ 2 2 (icells (lbI (dot t)) ++ icells (rfI (dot t))) rfl rfl (fun j u hu => (cell_newL wr (icells (lbI (dot t)) ++ icells (rfI (dot t))) 40 j).trans hu) (one_pair (lbI (dot t)) (rfI (dot t))) ?c3 ?c4 ?c5 ?_)
              | fail)
            case c3 => unfold maxLen; omega
            case c4 => omega
            case c5 => simp; omega
            intro v' w6 hown3 hgrow _
            have hb6 : Below wo.heap.size wo w6 := (HX.out.alloc (HX.out.size) _).grown hgrow (by simp; omega) (fun q hq => (ho.lt q hq).1)
            have hown6 : w6.ownsRow wo.heap.size 40 8 v' (k + 2) (rowL (ownI t k)) := by
              have e2 : rowL [lbI (dot t), rfI (dot t)] = icells (lbI (dot t)) ++ icells (rfI (dot t)) := by simp [rowL]
              unfold ownI
              rw [rowL_app, e2]
              exact hown3
            obtain ⟨p8, c8, rfl⟩ := own_shape hown6
            have H3 := Lib.hid (And.intro hown6 hb6)
            have hbs6 := hb6.size
            clear hown3 hgrow hb6 ho hown6
            have ho7 := World.ownsRow_nil w6 wc.heap.size 49 2
            have hcv := conv1 w6 97 ⟨#[97]⟩ rfl
            have hbw : wc.heap.size ≤ w6.heap.size := Nat.le_trans HB.out.size hbs6
            go_wp2_with (first
              | (at_builtin; refine wpList_append_own _ rfl _ _ 22 rfl wc.heap.size 49 j0 (.agg #[.string ByteArray.empty, .slice none 0 0]) 2 40 Tryd.underlying22 hj hy0 hy1 hy2 rfl (by decide) _ _ _ rfl ((ho7.alloc _).alloc _) ⟨w6.heap.size + 1, 0, none⟩ 1 1 [.string ⟨#[97]⟩, .slice p8 (k + 2) c8] rfl rfl (fun j u hu => (cell_newLs (w6.alloc (.cells #[.int .u8 97] 5)) (w6.heap.size + 1) (by simp) [.string ⟨#[97]⟩, .slice p8 (k + 2) c8] 49 j).trans hu) (one_obj _ _ _ _) ?c3 ?c4 ?c5 ?_)
              | fail)
            case c3 => unfold maxLen; omega
            case c4 => omega
            case c5 => simp; omega
            intro v7 w7 hown7 hgrow7 _
            clear hcv
            have hbq : Below wc.heap.size wc w7 := (((HB.out.trans (H3.out.2.mono HB.out.size)).alloc hbw _).alloc (by simp; omega) _).grown hgrow7 (by simp; omega) (fun q hq => (ho7.lt q hq).1)
            have hv7 := ((H3.out.1.alloc (.cells #[.int .u8 97] 5)).alloc (.cells #[.string ⟨#[97]⟩, .slice p8 (k + 2) c8] 49)).kept hgrow7 (rows_apart H3.out.1 ho7 (by decide))
            have HQ := Lib.hid (And.intro hbq (And.intro (own_base hv7 HB.out.size) hown7))
            clear hbq hv7 hown7 hgrow7 ho7
            go_wp2_with fail
            go_roundw
            case rel =>
              exact ⟨1, rfl, by decide, ⟨fun h => (by cases h), fun _ => ⟨_, HQ.out.2.2, HQ.out.2.1⟩, fun h => (by cases h)⟩, HQ.out.1⟩
            case measure => simp [intOf]
      · obtain ⟨v0, ho6, hv0⟩ := hrel.2.1 rfl
        obtain ⟨p6, c6, rfl⟩ := own_shape ho6
        have HO6 := Lib.hid (And.intro ho6 hv0)
        clear ho6 hv0
        clear hrel
        have k0 := (hb.cell (p := ⟨A, 1, none⟩) HN.out.2).trans HN.out.1.2
        have HB := Lib.hid hb
        clear hb
        rw [show ((1 : Nat) : Int) = 1 from rfl]
        go_wp2_with fail
        go_loopw [8, 9] (fun s8 s9 wx => ∃ k : Nat, s9 = .int .i64 k ∧ k ≤ n1 ∧ wx.ownsRow wo.heap.size 40 8 s8 k (rowL (wds k)) ∧ Below wo.heap.size wo wx) (fun _ s9 _ => n1 - (intOf s9).toNat)
        case atStart => exact ⟨0, rfl, Nat.zero_le _, World.ownsRow_nil _ _ _ _, Below.refl _ _⟩
        case round =>
          obtain ⟨k, rfl, hk, ho, hb⟩ := hrel
          obtain ⟨v8, hv8⟩ : ∃ v8, v8 = u8 := ⟨_, rfl⟩
          rw [← hv8] at ho ⊢
          clear hv8
          have kx := (hb.cell (World.block_lt_of_cell? _ _ k0)).trans k0
          by_cases hlt : k < n1
          · have d1 : decide ((k : Int) < (n1 : Int)) = true := decide_eq_true (by omega)
            have HX := Lib.hid hb
            have hbs := hb.size
            clear hb
            go_wp2_with (first
              | (at_builtin; refine wpList_append_own _ rfl _ _ 25 rfl wo.heap.size 40 i0 (.agg #[.int .i64 0, .int .i64 0, .int .i64 0, .int .i64 0, .int .i64 0, .int .i64 0, .string ByteArray.empty, .int .u32 0]) 8 72 Tryd.underlying25 hi hz0 hz1 hz2 rfl (by decide) _ _ _ rfl (ho.alloc _) ⟨wr.heap.size, 0, none⟩ 1 1 (icells (wdI k)) rfl rfl (fun t u hu => (cell_newL wr (icells (wdI k)) 40 t).trans hu) (one_icells (wdI k)) ?c3 ?c4 ?c5 ?_)
              | fail)
            case c3 => unfold maxLen; omega
            case c4 => omega
            case c5 => simp; omega
            intro v' w6 hown3 hgrow _
            have hb6 : Below wo.heap.size wo w6 := (HX.out.alloc (HX.out.size) _).grown hgrow (by simp; omega) (fun q hq => (ho.lt q hq).1)
            have H3 := Lib.hid (And.intro hown3 hb6)
            clear hown3 hgrow hb6 ho
            go_wp2_with fail
            go_roundw
            case rel =>
              refine ⟨k + 1, by go_num, hlt, ?_, H3.out.2⟩
              have e2 : rowL [wdI k] = icells (wdI k) := by simp [rowL]
              rw [wds_next, rowL_app, e2]
              exact H3.out.1
            case measure => simp [intOf]; omega
          · have hzk : k = n1 := by omega
            subst hzk
            have d1 : decide ((k : Int) < (k : Int)) = false := by simp
            have HX := Lib.hid hb
            have hbs := hb.size
            clear hb k0
            go_wp2_with (first
              | (at_builtin; refine wpList_append_own _ rfl _ _ 25 rfl wo.heap.size 40 i0 (.agg #[.int .i64 0, .int .i64 0, .int .i64 0, .int .i64 0, .int .i64 0, .int .i64 0, .string ByteArray.empty, .int .u32 0]) 8 72 Tryd.underlying25 hi hz0 hz1 hz2 rfl (by decide) _ _ _ rfl (ho.alloc _) ⟨wr.heap.size, 0, none⟩ 2 2 (icells (lbI (dot t)) ++ icells (rfI (dot t))) rfl rfl (fun j u hu => (cell_newL wr (icells (lbI (dot t)) ++ icells (rfI (dot t))) 40 j).trans hu) (one_pair (lbI (dot t)) (rfI (dot t))) ?c3 ?c4 ?c5 ?_)
              | fail)
            case c3 => unfold maxLen; omega
            case c4 => omega
            case c5 => simp; omega
            intro v' w6 hown3 hgrow _
            have hb6 : Below wo.heap.size wo w6 := (HX.out.alloc (HX.out.size) _).grown hgrow (by simp; omega) (fun q hq => (ho.lt q hq).1)
            have hown6 : w6.ownsRow wo.heap.size 40 8 v' (k + 2) (rowL (ownI t k)) := by
              have e2 : rowL [lbI (dot t), rfI (dot t)] = icells (lbI (dot t)) ++ icells (rfI (dot t)) := by simp [rowL]
              unfold ownI
              rw [rowL_app, e2]
              exact hown3
            obtain ⟨p8, c8, rfl⟩ := own_shape hown6
            have H3 := Lib.hid (And.intro hown6 hb6)
            have hbs6 := hb6.size
            clear hown3 hgrow hb6 ho hown6
            have ho7 := own_below HO6.out.1 H3.out.2
            have hcv := conv1 w6 98 ⟨#[98]⟩ rfl
            have hbw : wc.heap.size ≤ w6.heap.size := Nat.le_trans HB.out.size hbs6
            go_wp2_with (first
              | (at_builtin; refine wpList_append_own _ rfl _ _ 22 rfl wc.heap.size 49 j0 (.agg #[.string ByteArray.empty, .slice none 0 0]) 2 40 Tryd.underlying22 hj hy0 hy1 hy2 rfl (by decide) _ _ _ rfl ((ho7.alloc _).alloc _) ⟨w6.heap.size + 1, 0, none⟩ 1 1 [.string ⟨#[98]⟩, .slice p8 (k + 2) c8] rfl rfl (fun j u hu => (cell_newLs (w6.alloc (.cells #[.int .u8 98] 5)) (w6.heap.size + 1) (by simp) [.string ⟨#[98]⟩, .slice p8 (k + 2) c8] 49 j).trans hu) (one_obj _ _ _ _) ?c3 ?c4 ?c5 ?_)
              | fail)
            case c3 => unfold maxLen; omega
            case c4 => omega
            case c5 => simp; omega
            intro v7 w7 hown7 hgrow7 _
            clear hcv
            have hbq : Below wc.heap.size wc w7 := (((HB.out.trans (H3.out.2.mono HB.out.size)).alloc hbw _).alloc (by simp; omega) _).grown hgrow7 (by simp; omega) (fun q hq => (ho7.lt q hq).1)
            have hv7 := ((H3.out.1.alloc (.cells #[.int .u8 98] 5)).alloc (.cells #[.string ⟨#[98]⟩, .slice p8 (k + 2) c8] 49)).kept hgrow7 (rows_apart H3.out.1 ho7 (by decide))
            have hw7 := (((own_below HO6.out.2 H3.out.2).alloc (.cells #[.int .u8 98] 5)).alloc (.cells #[.string ⟨#[98]⟩, .slice p8 (k + 2) c8] 49)).kept hgrow7 (rows_apart (own_below HO6.out.2 H3.out.2) ho7 (by decide))
            have HQ := Lib.hid (And.intro hbq (And.intro (own_base hv7 HB.out.size) (And.intro hown7 hw7)))
            clear hbq hv7 hown7 hgrow7 ho7 hw7
            go_wp2_with fail
            go_roundw
            case rel =>
              exact ⟨2, rfl, by decide, ⟨fun h => (by cases h), fun h => (by cases h), fun _ => ⟨_, _, HQ.out.2.2.1, HQ.out.2.2.2, HQ.out.2.1⟩⟩, HQ.out.1⟩
            case measure => simp [intOf]
      · obtain ⟨v0, v1, ho6, hv0, hv1⟩ := hrel.2.2 rfl
        clear hrel
        obtain ⟨p0, c0, rfl⟩ := own_shape hv0
        obtain ⟨p1, c1, rfl⟩ := own_shape hv1
        obtain ⟨g6, c6, rfl, -, -⟩ := World.ownsRow.form ho6 (by decide)
        rw [show ((2 : Nat) : Int) = 2 from rfl]
        have ho := own_objs2 ho6 hv0 hv1 ht (by omega) (by omega)
        have HR := Lib.hid (And.intro ho6 (And.intro hv0 hv1))
        have HB := Lib.hid hb
        have hlk := link_at ho (ownL_few t n0 n1 ht (by omega) (by omega)) (HE.out.below (HB1.out.trans (hb.mono HB1.out.size))) 0
        rw [show (ownL t n0 n1).length = 2 from rfl] at hlk
        clear hb ho ho6 hv0 hv1
        go_wp2_with fail
        refine hlk.mono ?_
        clear hlk
        rintro e w2 ⟨hl, hb2⟩
        obtain ⟨m, hm⟩ : ∃ m : Nat, (n0 : Int) + 1 + n1 = m := ⟨n0 + 1 + n1, by omega⟩
        obtain ⟨nw, hnw⟩ : ∃ nw : Nat, (n0 : Int) + n1 + 2 = nw := ⟨n0 + n1 + 2, by omega⟩
        have hX := ownL_isX t n0 n1
        have hne := nm_ne t
        have hlen := ownL_len t n0 n1
        have hLs : Least (litX (flat (ownL t n0 n1))) (flat (ownL t n0 n1)).length 0 (fun i => first (litX (flat (ownL t n0 n1)) i)) := by rw [hlen]; exact x_least hX
        have hfo := (ownL_few t n0 n1 ht (by omega) (by omega)).flat_ok 2 (Nat.le_refl _)
        rw [show flat (List.take 2 (ownL t n0 n1)) = flat (ownL t n0 n1) from rfl] at hfo
        have hwd := own_words hX hne (by omega) (by omega) (fun i => first (litX (flat (ownL t n0 n1)) i)) (by have := hLs.1.1; rw [hlen] at this; exact this) (fun i hi => (hfo _ (litX_mem (by rw [hlen]; exact hi))).1.1)
        obtain ⟨O, pp, cp, rfl, hw, hp⟩ := linked_good hl (ownL_lc t n0 n1) (by rw [hlen]; exact x_check hX hne) hLs
          (by rw [hlen, x_ad hX _ _ (Nat.le_refl _)]; (repeat' split) <;> omega) rfl (ps := [(nmA t, (n0 : Int)), (nmB t, (m : Int))]) (by rw [hlen, x_places hX _ _ (Nat.le_refl _), if_neg (by omega), if_neg (by omega), ← hm]) nw 2 (by rw [hlen, hwd.1]; omega) rfl
        rw [hlen] at hw
        have r0 : w2.cell? ⟨O, n0, none⟩ = some (.int .u32 (4 * (n0 : Int))) := by
          rw [hw.cellAt n0 (by omega)]
          unfold byW
          rw [List.getElem?_map, hwd.2.1]
          show some (Value.int .u32 ((4 * n0 : Nat) : Int)) = _
          rw [show ((4 * n0 : Nat) : Int) = 4 * (n0 : Int) by omega]
        have r1 : w2.cell? ⟨O, m, none⟩ = some (.int .u32 (4 * (m : Int))) := by
          have em : m = n0 + 1 + n1 := by omega
          rw [hw.cellAt m (by omega)]
          unfold byW
          rw [List.getElem?_map, em, hwd.2.2]
          show some (Value.int .u32 ((4 * (n0 + 1 + n1) : Nat) : Int)) = _
          rw [show ((4 * (n0 + 1 + n1) : Nat) : Int) = 4 * ((n0 + 1 + n1 : Nat) : Int) by omega]
        have HP := Lib.hid hp
        have HB2 := Lib.hid hb2
        clear hl hX hlen hLs hfo hwd hw hp hb2
        go_upto_region 16 with fail
        refine wp_one ?_
        intro w3 h3 hb3
        obtain ⟨T, hT⟩ : ∃ T, T = w2.heap.size := ⟨_, rfl⟩
        rw [← hT] at h3
        rw [← hT]
        obtain ⟨t0, t1⟩ := cells2 h3
        replace r0 := (hb3.cell (World.block_lt_of_cell? w2 _ r0)).trans r0
        replace r1 := (hb3.cell (World.block_lt_of_cell? w2 _ r1)).trans r1
        have hp3 := own_below HP.out hb3
        have HB3 := Lib.hid (HB2.out.trans (hb3.mono HB2.out.size))
        have eA : (⟨#[97]⟩ : ByteArray) ++ dot t = nmA t := rfl
        have eB : (⟨#[98]⟩ : ByteArray) ++ dot t = nmB t := rfl
        have hfa := find_at hp3 rfl (by decide) (some ⟨O, 0, none⟩) nw nw (nmA t)
        rw [pfind_a] at hfa
        have HP3 := Lib.hid hp3
        clear h3 hb3 hT hp3 HP HB2
        go_wp2_with fail
        refine hfa.mono ?_
        clear hfa
        unfold foundV
        rintro e w4 ⟨rfl, hb4⟩
        have hp4 := own_below HP3.out hb4
        replace r0 := (hb4.cell (World.block_lt_of_cell? w3 _ r0)).trans r0
        replace r1 := (hb4.cell (World.block_lt_of_cell? w3 _ r1)).trans r1
        replace t0 := (hb4.cell (World.block_lt_of_cell? w3 _ t0)).trans t0
        replace t1 := (hb4.cell (World.block_lt_of_cell? w3 _ t1)).trans t1
        have hfb := find_at hp4 rfl (by decide) (some ⟨O, 0, none⟩) nw nw (nmB t)
        rw [pfind_b hne] at hfb
        have HB4 := Lib.hid (HB3.out.trans (hb4.mono HB3.out.size))
        clear hp4 hb4 HP3 HB3
        simp only [Option.getD_some, Option.isSome_some]
        go_wp2_with fail
        refine hfb.mono ?_
        clear hfb
        unfold foundV
        rintro e w5 ⟨rfl, hb5⟩
        replace r0 := (hb5.cell (World.block_lt_of_cell? w4 _ r0)).trans r0
        replace r1 := (hb5.cell (World.block_lt_of_cell? w4 _ r1)).trans r1
        replace t0 := (hb5.cell (World.block_lt_of_cell? w4 _ t0)).trans t0
        replace t1 := (hb5.cell (World.block_lt_of_cell? w4 _ t1)).trans t1
        have HB5 := Lib.hid (HB4.out.trans (hb5.mono HB4.out.size))
        have hbo := HB.out.trans (HB5.out.mono HB.out.size)
        have k0 := (hbo.cell (p := ⟨A, 0, none⟩) HN.out.2).trans HN.out.1.1
        have k1 := (hbo.cell (p := ⟨A, 1, none⟩) HN.out.2).trans HN.out.1.2
        clear hb5 HB4 hbo eA eB
        simp only [Option.getD_some, Option.isSome_some]
        go_wp2_with fail
        go_quiet (fail)
        obtain ⟨w6, hw6⟩ : ∃ w6, w6 = w5.drewN nq := ⟨_, rfl⟩
        have hb6 : Below wo.heap.size wo w6 := by rw [hw6]; exact below_drewN HB5.out nq
        have r0' : w6.cell? ⟨O, n0, none⟩ = some (.int .u32 (4 * (n0 : Int))) := by rw [hw6]; exact r0
        have r1' : w6.cell? ⟨O, m, none⟩ = some (.int .u32 (4 * (m : Int))) := by rw [hw6]; exact r1
        have t0' : w6.cell? ⟨T, 0, none⟩ = some (.slice (some ⟨O, 0, none⟩) nw nw) := by rw [hw6]; exact t0
        rw [← hw6]
        have HB6 := Lib.hid hb6
        clear hw6 hb6 r0 r1 t0 t1 k0 k1 HB5
        have e1 : (m : Int) < (nw : Int) := by omega
        have e2 : (n0 : Int) < (nw : Int) := by omega
        have e3 : (4 * (n0 : Int)) % 4294967296 = 4 * (n0 : Int) := by omega
        have e4 : (4 * (m : Int)) % 4294967296 = 4 * (m : Int) := by omega
        have e5 : (m : Int) ≤ 100 := by omega
        have h6r := own_below HR.out.1 HB6.out
        have hgc : ∀ o, (w6.alloc o).cell? ⟨g6, 3, none⟩ = some (.slice p1 (n1 + 2) c1) := fun o => ((h6r.alloc o).cellAt 3 (by decide)).trans rfl
        have hgf : ∀ o, (w6.alloc o).frozen? ⟨g6, 3, none⟩ = false := fun o => (h6r.alloc o).frozenAt 3
        have H6 := Lib.hid h6r
        clear h6r
        go_wp2_with fail
        clear hgc hgf
        obtain ⟨w7, hw7⟩ : ∃ w7, w7 = (w6.alloc (.cells #[.int .i64 7, .int .i64 0, .int .i64 0, .int .i64 0, .int .i64 0, .int .i64 0, .string (dot t), .int .u32 0] 40)).setCell ⟨g6, 3, none⟩ (.slice (some ⟨w6.heap.size, 0, none⟩) 1 1) := ⟨_, rfl⟩
        obtain ⟨S, hS⟩ : ∃ S, S = w6.heap.size := ⟨_, rfl⟩
        rw [← hw7]
        rw [← hS] at hw7
        have hg6 : wc.heap.size ≤ g6 ∧ g6 < wo.heap.size := HR.out.1.lt g6 rfl
        have hst := (H6.out.alloc (.cells #[.int .i64 7, .int .i64 0, .int .i64 0, .int .i64 0, .int .i64 0, .int .i64 0, .string (dot t), .int .u32 0] 40)).stored 3 (.slice (some ⟨S, 0, none⟩) 1 1)
        rw [← hw7] at hst
        have hv0 := ((own_below HR.out.2.1 HB6.out).alloc (.cells #[.int .i64 7, .int .i64 0, .int .i64 0, .int .i64 0, .int .i64 0, .int .i64 0, .string (dot t), .int .u32 0] 40)).kept hst.2 (rows_apart HR.out.2.1 HR.out.1 (by decide))
        have hbs6 := HB6.out.size
        have hblk : w7.heap[S]? = some (.cells (rowL [rfI (dot t)]).toArray 40 (0, 0)) := by
          rw [hw7, Below.heap_setCell _ _ _ _ (by show S ≠ g6; omega), hS]
          exact heap_new w6 _
        have hb7 : Below w.heap.size w w7 := by
          rw [hw7]
          have b1 := HB1.out.trans ((HB.out.trans (HB6.out.mono HB.out.size)).mono HB1.out.size)
          have s1 := HB1.out.size
          exact (b1.alloc b1.size _).setCell (by show w.heap.size ≤ g6; omega) _
        have ho7 : Objs w7 (some ⟨g6, 0, none⟩) c6 (ownL2 t n0) := own_objs3 hst.1 hv0 (items_lit (M := [rfI (dot t)]) hblk (rf_ok t ht) rfl (show (1 : Nat) ≤ 1000 by omega) _ rfl) ht (by omega)
        have hlk := link_at ho7 (ownL2_few t n0 ht (by omega)) (HE.out.below hb7) 0
        rw [show (ownL2 t n0).length = 2 from rfl] at hlk
        have HB7 := Lib.hid hb7
        clear hst hv0 hblk hb7 ho7 hw7 hS HB6 H6 HR
        refine hlk.mono ?_
        clear hlk
        rintro e w8 ⟨hl, hb8⟩
        obtain rfl := linked_bad (code := 12) hl (Or.inr ⟨ownL2_lc t n0, by rw [ownL2_len, x2_check (ownL2_is t n0) hne]; decide, by rw [ownL2_len, x2_check (ownL2_is t n0) hne]⟩)
        have HB8 := Lib.hid (HB7.out.trans (hb8.mono HB7.out.size))
        clear hl hb8 r0' r1' t0'
        go_upto_region 23 with fail
        refine wp_one ?_
        intro w9 h9 hb9
        have HB9 := Lib.hid (HB8.out.trans (hb9.mono HB8.out.size))
        clear h9 hb9
        have hwo := works_any w9 (HE.out.below HB9.out)
        go_wp2_with fail
        refine hwo.mono ?_
        clear hwo
        rintro e wa ⟨rfl, hba⟩
        have HBa := Lib.hid (HB9.out.trans (hba.mono HB9.out.size))
        clear hba
        go_wp2_with fail
        go_ret
        exact ⟨rfl, HBa.out⟩
end Go.Proofs.YtbplmbignalbgaaDoor
