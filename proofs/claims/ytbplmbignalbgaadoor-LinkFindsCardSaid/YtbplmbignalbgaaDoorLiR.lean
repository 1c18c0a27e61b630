/- Contracts: the document's items of objects. Conditions: the objects lie as told. Contracts: the document's image of objects. Conditions: the objects lie as told, and may be gone through. Contracts: may objects be gone through? Conditions: the objects lie as told. -/
import Derived.Test.YtbplmbignalbgaaDoorLiQ
import Derived.Deep.RegionHeldLaw
import Derived.Deep.AppendLies
import Derived.Deep.QuietTactic
import Derived.Test.YtbplmbignalbgaaDoorAsAf
namespace Go.Proofs.YtbplmbignalbgaaDoor
open Go.RowKit Asm
set_option linter.unusedVariables false
set_option linter.unusedSimpArgs false

theorem own_apart_set {w : World} {B Q e m n i : Nat} {v : Value} {xs : List Value} (h : w.ownsRow B e m v n xs) (hQ : v.ownBlock ≠ some Q) (y : Value) : (w.setCell ⟨Q, i, none⟩ y).drew.ownsRow B e m v n xs := by
  refine ⟨h.1, h.2.imp id ?_⟩
  rintro ⟨g, cap, cur, rfl, h2, h3, r⟩
  refine ⟨g, cap, cur, rfl, h2, ?_, r⟩
  rw [← h3]
  exact Below.heap_setCell w ⟨Q, i, none⟩ y g (fun e => hQ (by rw [e]; rfl))
theorem full_loc {nm : ByteArray} {x : It} (h : isLoc x.lab = true) : full nm x = ⟨x.kind, x.op, x.d, x.a, x.b, x.imm, nm ++ x.lab, x.word⟩ := by unfold full; rw [if_pos h]
theorem full_not {nm : ByteArray} {x : It} (h : isLoc x.lab = false) : full nm x = x := by unfold full; rw [if_neg (by simp [h])]
theorem one_icells (x : It) : ∀ u ∈ icells x, u.oneCell' = true := by
  have h := one_rowL [x]
  have e : rowL [x] = icells x := by simp [rowL]
  rwa [e] at h
/-- The items of the first k objects, and j of the next one. -/
def upto (L : List Ob) (k j : Nat) : List It := flat (L.take k) ++ ((ob L k).items.take j).map (full (ob L k).name)
theorem upto_0 (L : List Ob) (k : Nat) : upto L k 0 = flat (L.take k) := by simp [upto]
theorem upto_all {L : List Ob} {k : Nat} (hk : k < L.length) : upto L k (ob L k).items.length = flat (L.take (k + 1)) := by rw [flat_take hk]; simp [upto]
theorem upto_next {L : List Ob} {k j : Nat} (hj : j < (ob L k).items.length) : upto L k (j + 1) = upto L k j ++ [full (ob L k).name (litX (ob L k).items j)] := by
  unfold upto
  rw [List.take_add_one, litX_get hj, List.map_append, ← List.append_assoc]
  rfl
theorem upto_len {L : List Ob} (h : Few L) {k j : Nat} (hk : k < L.length) (hj : j ≤ (ob L k).items.length) : (upto L k j).length ≤ 480 := by
  have h1 := h.flat_len k (by omega)
  have h2 := h.items k hk
  have h3 := h.n
  unfold upto
  rw [List.length_append, List.length_map, List.length_take]
  omega
set_option maxRecDepth 100000 in
set_option maxHeartbeats 8000000 in
theorem ritems_at {w : World} {p : Option Addr} {c : Nat} {L : List Ob} (h : Objs w p c L) (hf : Few L) :
    Calls Tryd.prog 10 #[.slice p L.length c] w fun e w' => ∃ v, e = .returned v ∧ w'.ownsRow w.heap.size 40 8 v (flat L).length (rowL (flat L)) ∧ Below w.heap.size w w' := by
  obtain ⟨i0, hi, hz0, hz1, hz2⟩ := infoIt_of
  have H := Lib.hid (And.intro h hf)
  have hn8 := hf.n
  clear h hf
  go_enter Tryd.func10, Tryd.ntmps10
  go_wp2_with fail
  go_loopw [3, 4] (fun s3 s4 wr => ∃ k : Nat, s4 = .int .i64 k ∧ k ≤ L.length ∧ wr.ownsRow w.heap.size 40 8 s3 (flat (L.take k)).length (rowL (flat (L.take k))) ∧ Below w.heap.size w wr) (fun _ s4 _ => L.length - (intOf s4).toNat)
  case atStart => exact ⟨0, rfl, Nat.zero_le _, World.ownsRow_nil _ _ _ _, Below.refl _ _⟩
  case round =>
    obtain ⟨k, rfl, hk, ho, hb⟩ := hrel
    obtain ⟨v3, hv3⟩ : ∃ v3, v3 = u3 := ⟨_, rfl⟩
    rw [← hv3] at ho ⊢
    clear hv3
    by_cases hlt : k < L.length
    ·
        have d1 : decide ((k : Int) < (L.length : Int)) = true := decide_eq_true (by omega)
        have ek : (k : Int) < (L.length : Int) := by omega
        have HO := Lib.hid (And.intro ho hb)
        have hMn := H.out.2.items k hlt
        clear ho hb
        go_wp2_with fail
        go_loopw [3, 5] (fun s3 s5 wr => ∃ j : Nat, s5 = .int .i64 j ∧ j ≤ (ob L k).items.length ∧ wr.ownsRow w.heap.size 40 8 s3 (upto L k j).length (rowL (upto L k j)) ∧ Below w.heap.size w wr) (fun _ s5 _ => (ob L k).items.length - (intOf s5).toNat)
        case atStart => exact ⟨0, rfl, Nat.zero_le _, by rw [upto_0]; exact HO.out.1, HO.out.2⟩
        case round =>
          obtain ⟨j, rfl, hj, ho, hb⟩ := hrel
          obtain ⟨v3, hv3⟩ : ∃ v3, v3 = u3 := ⟨_, rfl⟩
          rw [← hv3] at ho ⊢
          clear hv3
          obtain ⟨b, off, q, m, rfl, k0, k1, hit⟩ := (H.out.1.below hb).at hlt
          obtain ⟨nm, hnm2⟩ : ∃ nm, nm = (ob L k).name := ⟨_, rfl⟩
          obtain ⟨M, hM⟩ : ∃ M, M = (ob L k).items := ⟨_, rfl⟩
          rw [← hnm2] at k0
          rw [← hM] at k1 hit hMn hj
          by_cases hlt2 : j < M.length
          ·
              have d2 : decide ((j : Int) < (M.length : Int)) = true := decide_eq_true (by omega)
              have ej : (j : Int) < (M.length : Int) := by omega
              have hlab := (H.out.2.ok k hlt (litX M j) (by rw [hM]; exact litX_mem (by rw [← hM]; exact hlt2))).2
              have hnl := H.out.2.name k hlt
              rw [← hnm2] at hnl
              obtain ⟨b2, off2, rfl, i0', i1, i2, i3, i4, i5, i6, i7⟩ := hit.at hlt2
              obtain ⟨x, hx⟩ : ∃ x, x = litX M j := ⟨_, rfl⟩
              rw [← hx] at i0' i1 i2 i3 i4 i5 i6 i7 hlab
              have hal := (Below.refl wr.heap.size wr).alloc (Nat.le_refl _) (.cells #[.int .i64 x.kind, .int .i64 x.op, .int .i64 x.d, .int .i64 x.a, .int .i64 x.b, .int .i64 x.imm, .string x.lab, .int .u32 x.word] 40)
              have hN := heap_new wr (.cells #[.int .i64 x.kind, .int .i64 x.op, .int .i64 x.d, .int .i64 x.a, .int .i64 x.b, .int .i64 x.imm, .string x.lab, .int .u32 x.word] 40)
              have hb2 := hb.trans (hal.mono hb.size)
              have ho2 := ho.alloc (.cells #[.int .i64 x.kind, .int .i64 x.op, .int .i64 x.d, .int .i64 x.a, .int .i64 x.b, .int .i64 x.imm, .string x.lab, .int .u32 x.word] 40)
              obtain ⟨w2, hw2⟩ : ∃ w2, w2 = wr.alloc (.cells #[.int .i64 x.kind, .int .i64 x.op, .int .i64 x.d, .int .i64 x.a, .int .i64 x.b, .int .i64 x.imm, .string x.lab, .int .u32 x.word] 40) := ⟨_, rfl⟩
              obtain ⟨Q, hQ⟩ : ∃ Q, Q = wr.heap.size := ⟨_, rfl⟩
              have hQl : w.heap.size ≤ Q := by rw [hQ]; exact hb.size
              have hQo : v3.ownBlock ≠ some Q := fun e => by have := (ho.lt Q e).2; omega
              rw [← hw2] at hN hb2 ho2
              rw [← hQ] at hN
              have y0 := (hal.cell (p := ⟨b, off + k * 2, none⟩) (World.block_lt_of_cell? wr _ k0)).trans k0
              rw [← hw2] at y0
              have HX := Lib.hid (And.intro hb2 (And.intro ho2 (And.intro hN (And.intro hnm2 (And.intro hM (And.intro hx (And.intro hQl hQo)))))))
              clear hb ho hal hit hb2 ho2 hnm2 hM hx
              go_upto_region 9 with fail
              rw [← hw2, ← hQ]
              clear hw2 hQ k0 k1 i0' i1 i2 i3 i4 i5 i6 i7
              obtain ⟨c0, c1, c2, c3, c4, c5, c6, c7⟩ := cells8 hN
              have hfz := freeF hN
              clear hN
              cases hloc : isLoc x.lab with
              | true =>
                go_wp2_with (first | (go_at_call 19; refine (own_at _ _).mono ?_; rintro e w' ⟨rfl, rfl⟩; rw [hloc]) | fail)
                go_region_with (fail)
                all_goals
                  obtain ⟨wq, hwq⟩ : ∃ wq, wq = (w2.setCell ⟨Q, 6, none⟩ (.string (nm ++ x.lab))).drew := ⟨_, rfl⟩
                  have hQ2 : wq.heap[Q]? = some (.cells #[.int .i64 x.kind, .int .i64 x.op, .int .i64 x.d, .int .i64 x.a, .int .i64 x.b, .int .i64 x.imm, .string (nm ++ x.lab), .int .u32 x.word] 40) := by rw [hwq]; exact heap_setCell_same w2 Q 6 _ 40 _ HX.out.2.2.1
                  have hb3 : Below w.heap.size w wq := by rw [hwq]; exact (HX.out.1.setCell (p := ⟨Q, 6, none⟩) HX.out.2.2.2.2.2.2.1 _).drew
                  have ho3 : wq.ownsRow w.heap.size 40 8 v3 (upto L k j).length (rowL (upto L k j)) := by
                    rw [hwq]
                    exact own_apart_set HX.out.2.1 HX.out.2.2.2.2.2.2.2 _
                  rw [← hwq]
                  clear hwq c0 c1 c2 c3 c4 c5 c6 c7 hfz y0
                  obtain ⟨c0, c1, c2, c3, c4, c5, c6, c7⟩ := cells8 hQ2
                  have hlen : (upto L k j).length ≤ 480 := upto_len H.out.2 hlt (by rw [← HX.out.2.2.2.2.1]; exact hj)
                  go_wp2_with (first
                    | (at_builtin; refine wpList_append_own _ rfl _ _ 25 rfl w.heap.size 40 i0 (.agg #[.int .i64 0, .int .i64 0, .int .i64 0, .int .i64 0, .int .i64 0, .int .i64 0, .string ByteArray.empty, .int .u32 0]) 8 72 Tryd.underlying25 hi hz0 hz1 hz2 rfl (by decide) _ _ _ rfl (ho3.alloc _) ⟨wq.heap.size, 0, none⟩ 1 1 (icells ⟨x.kind, x.op, x.d, x.a, x.b, x.imm, (nm ++ x.lab), x.word⟩) rfl rfl (fun t u hu => (cell_newL wq (icells ⟨x.kind, x.op, x.d, x.a, x.b, x.imm, (nm ++ x.lab), x.word⟩) 40 t).trans hu) (one_icells ⟨x.kind, x.op, x.d, x.a, x.b, x.imm, (nm ++ x.lab), x.word⟩) ?c3 ?c4 ?c5 ?_)
                    | fail)
                  case c3 => unfold maxLen; omega
                  case c4 => omega
                  case c5 => have := hb3.size; simp; omega
                  intro v' w6 hown3 hgrow _
                  have hb6 : Below w.heap.size w w6 := (hb3.alloc (hb3.size) _).grown hgrow (by have := hb3.size; simp; omega) (fun q hq => (ho3.lt q hq).1)
                  have H3 := Lib.hid (And.intro hown3 hb6)
                  clear hown3 hgrow hb6 ho3 hb3
                  go_wp2_with fail
                  go_roundw
                  case rel =>
                    refine ⟨j + 1, by go_num, by rw [← HX.out.2.2.2.2.1]; exact hlt2, ?_, H3.out.2⟩
                    have h1 := H3.out.1
                    have e : full (ob L k).name (litX (ob L k).items j) = ⟨x.kind, x.op, x.d, x.a, x.b, x.imm, (nm ++ x.lab), x.word⟩ := by rw [← HX.out.2.2.2.2.1, ← HX.out.2.2.2.2.2.1, ← HX.out.2.2.2.1]; exact full_loc hloc
                    have e2 : rowL [⟨x.kind, x.op, x.d, x.a, x.b, x.imm, (nm ++ x.lab), x.word⟩] = icells ⟨x.kind, x.op, x.d, x.a, x.b, x.imm, (nm ++ x.lab), x.word⟩ := by simp [rowL]
                    rw [upto_next (by rw [← HX.out.2.2.2.2.1]; exact hlt2), e, rowL_app, List.length_append, e2]
                    exact h1
                  case measure => have hMl := congrArg List.length HX.out.2.2.2.2.1; simp [intOf]; omega
              | false =>
                have ho3 := HX.out.2.1
                have hb3 := HX.out.1
                have hlen : (upto L k j).length ≤ 480 := upto_len H.out.2 hlt (by rw [← HX.out.2.2.2.2.1]; exact hj)
                go_wp2_with (first
                  | (go_at_call 19; refine (own_at _ _).mono ?_; rintro e w' ⟨rfl, rfl⟩; rw [hloc])
                  | (at_builtin; refine wpList_append_own _ rfl _ _ 25 rfl w.heap.size 40 i0 (.agg #[.int .i64 0, .int .i64 0, .int .i64 0, .int .i64 0, .int .i64 0, .int .i64 0, .string ByteArray.empty, .int .u32 0]) 8 72 Tryd.underlying25 hi hz0 hz1 hz2 rfl (by decide) _ _ _ rfl (ho3.alloc _) ⟨w2.heap.size, 0, none⟩ 1 1 (icells ⟨x.kind, x.op, x.d, x.a, x.b, x.imm, x.lab, x.word⟩) rfl rfl (fun t u hu => (cell_newL w2 (icells ⟨x.kind, x.op, x.d, x.a, x.b, x.imm, x.lab, x.word⟩) 40 t).trans hu) (one_icells ⟨x.kind, x.op, x.d, x.a, x.b, x.imm, x.lab, x.word⟩) ?c3 ?c4 ?c5 ?_)
                  | fail)
                case c3 => unfold maxLen; omega
                case c4 => omega
                case c5 => have := hb3.size; simp; omega
                intro v' w6 hown3 hgrow _
                have hb6 : Below w.heap.size w w6 := (hb3.alloc (hb3.size) _).grown hgrow (by have := hb3.size; simp; omega) (fun q hq => (ho3.lt q hq).1)
                have H3 := Lib.hid (And.intro hown3 hb6)
                clear hown3 hgrow hb6 ho3 hb3
                go_wp2_with fail
                go_roundw
                case rel =>
                  refine ⟨j + 1, by go_num, by rw [← HX.out.2.2.2.2.1]; exact hlt2, ?_, H3.out.2⟩
                  have h1 := H3.out.1
                  have e : full (ob L k).name (litX (ob L k).items j) = ⟨x.kind, x.op, x.d, x.a, x.b, x.imm, x.lab, x.word⟩ := by rw [← HX.out.2.2.2.2.1, ← HX.out.2.2.2.2.2.1, ← HX.out.2.2.2.1]; rw [full_not hloc]
                  have e2 : rowL [⟨x.kind, x.op, x.d, x.a, x.b, x.imm, x.lab, x.word⟩] = icells ⟨x.kind, x.op, x.d, x.a, x.b, x.imm, x.lab, x.word⟩ := by simp [rowL]
                  rw [upto_next (by rw [← HX.out.2.2.2.2.1]; exact hlt2), e, rowL_app, List.length_append, e2]
                  exact h1
                case measure => have hMl := congrArg List.length HX.out.2.2.2.2.1; simp [intOf]; omega
          ·
              have hzj : j = M.length := by omega
              subst hzj
              have d2 : decide ((M.length : Int) < (M.length : Int)) = false := by simp
              have HX := Lib.hid (And.intro hb (And.intro ho (And.intro hM hnm2)))
              clear hb ho hM hnm2
              go_wp2_with fail
              go_roundw
              case rel =>
                refine ⟨k + 1, by go_num, hlt, ?_, HX.out.1⟩
                have h1 := HX.out.2.1
                rw [HX.out.2.2.1, upto_all hlt] at h1
                exact h1
              case measure => simp [intOf]; omega
    ·
        have hz : k = L.length := by omega
        subst hz
        have d1 : decide ((L.length : Int) < (L.length : Int)) = false := by simp
        rw [flat_all] at ho
        have HB := Lib.hid (And.intro ho hb)
        clear ho hb
        go_wp2_with fail
        go_ret
        exact ⟨_, rfl, HB.out⟩

/-- What the document's Link returns. -/
def RLinked (W w' : World) (L : List Ob) (base : Int) (e : Ending) : Prop :=
  (lcheck L ≠ 0 ∧ e = .returned (.tuple #[.slice none 0 0, .slice none 0 0, .int .i64 (lcheck L)])) ∨
  (lcheck L = 0 ∧ ∃ wm, W.heap.size ≤ wm.heap.size ∧ RAssembled wm w' (litX (flat L)) (flat L).length base e)
theorem rassembled_same {W w w' : World} {X : Nat → It} {n : Nat} {base : Int} {e : Ending} (h : RAssembled W w X n base e) : RAssembled W w X n base e := h
set_option maxRecDepth 100000 in
set_option maxHeartbeats 8000000 in
theorem rlink_at {w : World} {p : Option Addr} {c : Nat} {L : List Ob} (h : Objs w p c L) (hf : Few L) (base : Int) :
    Calls Tryd.prog 12 #[.slice p L.length c, .int .i64 base] w fun e w' => RLinked w w' L base e ∧ Below w.heap.size w w' := by
  have H := Lib.hid (And.intro h hf)
  have hn8 := hf.n
  clear h hf
  go_enter Tryd.func12, Tryd.ntmps12
  go_wp2_with fail
  go_loopw [7] (fun s7 wr => ∃ k : Nat, s7 = .int .i64 k ∧ k ≤ L.length ∧ dup L k = false ∧ Below w.heap.size w wr) (fun s7 _ => L.length - (intOf s7).toNat)
  case atStart => exact ⟨0, rfl, Nat.zero_le _, rfl, Below.refl _ _⟩
  case round =>
    obtain ⟨k, rfl, hk, hdup, hb⟩ := hrel
    by_cases hlt : k < L.length
    · have d1 : decide ((k : Int) < (L.length : Int)) = true := decide_eq_true (by omega)
      have ek : (k : Int) < (L.length : Int) := by omega
      have HD := Lib.hid (And.intro hdup hb)
      clear hdup hb
      go_wp2_with fail
      go_loopw [8] (fun s8 wr => ∃ j : Nat, s8 = .int .i64 j ∧ j ≤ k ∧ (∀ i, i < j → (ob L i).name ≠ (ob L k).name) ∧ Below w.heap.size w wr) (fun s8 _ => k - (intOf s8).toNat)
      case atStart => exact ⟨0, rfl, Nat.zero_le _, fun i hi => absurd hi (Nat.not_lt_zero _), HD.out.2⟩
      case round =>
        obtain ⟨j, rfl, hj, hne, hb⟩ := hrel
        by_cases hlt2 : j < k
        · have d2 : decide ((j : Int) < (k : Int)) = true := decide_eq_true (by omega)
          have ej : (j : Int) < (L.length : Int) := by omega
          obtain ⟨b, off, q, m, hp, k0, k1, -⟩ := (H.out.1.below hb).at hlt
          obtain ⟨b', off', q', m', hp', j0, j1, -⟩ := (H.out.1.below hb).at (show j < L.length by omega)
          rw [hp] at hp'
          cases hp'
          subst hp
          clear k1 j1
          obtain ⟨n1, hn1⟩ : ∃ n1, n1 = (ob L k).name := ⟨_, rfl⟩
          obtain ⟨n2, hn2⟩ : ∃ n2, n2 = (ob L j).name := ⟨_, rfl⟩
          rw [← hn1] at k0
          rw [← hn2] at j0
          have HN := Lib.hid (And.intro hn1 (And.intro hn2 (And.intro hne hb)))
          clear hn1 hn2 hne hb
          by_cases he : n1 = n2
          · have d3 := bl_true he
            go_wp2_with fail
            go_quiet (fail)
            go_wp2_with fail
            go_ret3
            have h1 : dup L L.length = true := dup_stays (dup_hit (k := k) (cnt_some hlt2 (by rw [← HN.out.2.1, ← HN.out.1, he]))) L.length hlt
            refine ⟨Or.inl ⟨by rw [lc_dup h1]; decide, by rw [lc_dup h1]; rfl⟩, below_drewN HN.out.2.2.2 nq⟩
          · have d3 := bl_false he
            go_wp2_with fail
            go_quiet (fail)
            go_wp2_with fail
            go_roundw
            case rel =>
              refine ⟨j + 1, by go_num, hlt2, fun i hi => ?_, below_drewN HN.out.2.2.2 nq⟩
              by_cases hij : i = j
              · subst hij
                rw [← HN.out.1, ← HN.out.2.1]
                exact fun e => he e.symm
              · exact HN.out.2.2.1 i (by omega)
            case measure => simp [intOf]; omega
        · have hzj : j = k := by omega
          subst hzj
          have d2 : decide ((j : Int) < (j : Int)) = false := by simp
          have HN := Lib.hid (And.intro hne hb)
          clear hne hb
          go_wp2_with fail
          go_roundw
          case rel => exact ⟨j + 1, by go_num, hlt, dup_step HD.out.1 (cnt_none HN.out.1), HN.out.2⟩
          case measure => simp [intOf]; omega
    · have hz : k = L.length := by omega
      subst hz
      have d1 : decide ((L.length : Int) < (L.length : Int)) = false := by simp
      have HD := Lib.hid (And.intro hdup hb)
      clear hdup hb
      go_wp2_with fail
      go_loopw [9] (fun s9 wr => ∃ k : Nat, s9 = .int .i64 k ∧ k ≤ L.length ∧ badn L k = false ∧ Below w.heap.size w wr) (fun s9 _ => L.length - (intOf s9).toNat)
      case atStart => exact ⟨0, rfl, Nat.zero_le _, rfl, HD.out.2⟩
      case round =>
        obtain ⟨k, rfl, hk, hbad, hb⟩ := hrel
        by_cases hlt : k < L.length
        · have d1 : decide ((k : Int) < (L.length : Int)) = true := decide_eq_true (by omega)
          have ek : (k : Int) < (L.length : Int) := by omega
          obtain ⟨b, off, q, m, rfl, k0, k1, -⟩ := (H.out.1.below hb).at hlt
          clear k1
          obtain ⟨nm, hnm2⟩ : ∃ nm, nm = (ob L k).name := ⟨_, rfl⟩
          rw [← hnm2] at k0
          have HN := Lib.hid (And.intro hnm2 (And.intro hbad hb))
          clear hnm2 hbad hb
          by_cases hsz : nm.size = 0
          · have d3 : ((nm.size : Int) == 0) = true := by simp [hsz]
            go_wp2_with (first | (go_at_call 19; refine (own_at _ _).mono ?_; rintro e w' ⟨rfl, rfl⟩) | fail)
            go_ret3
            have h2 : badn L L.length = true := badn_stays (badn_hit (k := k) (by rw [← HN.out.1]; unfold noName; simp [hsz])) L.length hlt
            exact ⟨Or.inl ⟨by rw [lc_badn HD.out.1 h2]; decide, by rw [lc_badn HD.out.1 h2]; rfl⟩, HN.out.2.2⟩
          · have d3 : ((nm.size : Int) == 0) = false := by simpa using hsz
            cases hloc : isLoc nm with
            | true =>
              go_wp2_with (first | (go_at_call 19; refine (own_at _ _).mono ?_; rintro e w' ⟨rfl, rfl⟩; rw [hloc]) | fail)
              go_ret3
              have h2 : badn L L.length = true := badn_stays (badn_hit (k := k) (by rw [← HN.out.1]; unfold noName; simp [hloc])) L.length hlt
              exact ⟨Or.inl ⟨by rw [lc_badn HD.out.1 h2]; decide, by rw [lc_badn HD.out.1 h2]; rfl⟩, HN.out.2.2⟩
            | false =>
              go_wp2_with (first | (go_at_call 19; refine (own_at _ _).mono ?_; rintro e w' ⟨rfl, rfl⟩; rw [hloc]) | fail)
              go_roundw
              case rel => exact ⟨k + 1, by go_num, hlt, badn_step HN.out.2.1 (by rw [← HN.out.1]; unfold noName; simp [hloc, hsz]), HN.out.2.2⟩
              case measure => simp [intOf]; omega
        · have hz : k = L.length := by omega
          subst hz
          have d1 : decide ((L.length : Int) < (L.length : Int)) = false := by simp
          have hlc := lc_good HD.out.1 hbad
          have hri := ritems_at (H.out.1.below hb) H.out.2
          have HB := Lib.hid (And.intro hb hlc)
          clear hb hbad hlc
          go_wp2_with fail
          refine hri.mono ?_
          rintro e w2 ⟨v, rfl, ho, hb2⟩
          clear hri
          have hfl := H.out.2.flat_len L.length (Nat.le_refl _)
          have hfo := H.out.2.flat_ok L.length (Nat.le_refl _)
          rw [flat_all] at hfl hfo
          obtain ⟨p7, c7, rfl, hit, -⟩ := own_items ho hfo (by omega)
          have hra := rAssemble_at hit (by omega) base
          have HB2 := Lib.hid (And.intro (HB.out.1.trans (hb2.mono HB.out.1.size)) (And.intro (fun i hi => ((hfo _ (litX_mem hi)).1.1 : 0 ≤ (litX (flat L) i).word)) hfl))
          clear ho hb2 hit hfo hfl
          go_wp2_with fail
          refine hra.mono ?_
          rintro e w3 ⟨ha, hb3⟩
          clear hra
          have HB3 := Lib.hid (HB2.out.1.trans (hb3.mono HB2.out.1.size))
          have hsz2 := HB2.out.1.size
          clear hb3
          rcases ha with ⟨hc, rfl⟩ | ⟨hc, ⟨f, hu, hlong, rfl⟩ | ⟨f, wv, pv, hl, hle, rfl, hw, hp⟩⟩
          · obtain ⟨cv, hcv⟩ : ∃ cv, cv = check (litX (flat L)) (flat L).length base := ⟨_, rfl⟩
            rw [← hcv] at hc ⊢
            have d3 : (cv != 0) = true := by simp [hc]
            have HC := Lib.hid (And.intro hcv hc)
            clear hcv hc
            go_wp2_with fail
            go_ret3
            exact ⟨Or.inr ⟨HB.out.2, w2, hsz2, Or.inl ⟨by rw [← HC.out.1]; exact HC.out.2, by rw [← HC.out.1]; rfl⟩⟩, HB3.out⟩
          · have HC := Lib.hid (And.intro hc (And.intro hu hlong))
            clear hc hu hlong
            go_wp2_with fail
            go_ret3
            exact ⟨Or.inr ⟨HB.out.2, w2, hsz2, Or.inr ⟨HC.out.1, Or.inl ⟨f, HC.out.2.1, HC.out.2.2, rfl⟩⟩⟩, HB3.out⟩
          · have hwl := wordsL_len hl.1.1 HB2.out.2.1 (kind_of hc) (flat L).length (Nat.le_refl _) (base := base)
            obtain ⟨ws, hws⟩ : ∃ ws, ws = (wordsL (litX (flat L)) (flat L).length base f (flat L).length).length := ⟨_, rfl⟩
            rw [← hws] at hwl
            have hck := (check_parts hc).1
            have d4 : decide (67108864 < (ws : Int)) = false := decide_eq_false (by omega)
            obtain ⟨pw, cw, rfl⟩ := own_shape hw
            rw [← hws]
            have HC := Lib.hid (And.intro hc (And.intro hl (And.intro hle (And.intro hw (And.intro hp hws)))))
            clear hc hl hle hw hp hws hwl hck
            go_wp2_with fail
            go_ret3
            exact ⟨Or.inr ⟨HB.out.2, w2, hsz2, Or.inr ⟨HC.out.1, Or.inr ⟨f, _, _, HC.out.2.1, HC.out.2.2.1, rfl, by rw [HC.out.2.2.2.2.2]; exact HC.out.2.2.2.1, HC.out.2.2.2.2.1⟩⟩⟩, HB3.out⟩

def FewIs (L : List Ob) (e : Ending) : Prop := ∃ b : Bool, e = .returned (.bool b) ∧ (b = true → Few L)
def FewI (L : List Ob) (i : Nat) : Prop := (ob L i).items.length ≤ 60 ∧ (ob L i).name.size ≤ 40 ∧ ∀ j, j < (ob L i).items.length → (litX (ob L i).items j).lab.size ≤ 40
theorem okI_of {M : List It} {m : Nat} (hw : ∀ i, i < M.length → 0 ≤ (litX M i).word ∧ (litX M i).word < 4294967296) (hl : ∀ i, i < M.length → (litX M i).lab.size ≤ m) : OkI m M := by
  intro x hx
  obtain ⟨i, hi, e⟩ := List.mem_iff_getElem.1 hx
  have h := litX_get hi
  rw [List.getElem?_eq_getElem hi, e] at h
  rw [Option.some.inj h]
  exact ⟨hw i hi, hl i hi⟩
set_option maxRecDepth 100000 in
set_option maxHeartbeats 8000000 in
theorem few_at {w : World} {p : Option Addr} {c : Nat} {L : List Ob} (h : Objs w p c L) :
    Calls Tryd.prog 8 #[.slice p L.length c] w fun e w' => FewIs L e ∧ w = w' := by
  have H := Lib.hid h
  have hle := h.le
  have hmx := h.max
  clear h
  go_enter Tryd.func8, Tryd.ntmps8
  go_wp2_with fail
  go_loop [3, 4] (fun s3 s4 => ∃ (k : Nat) (z : Int), s4 = .int .i64 k ∧ s3 = .int .i64 z ∧ k ≤ L.length ∧ k ≤ 9 ∧ ∀ i, i < k → FewI L i) (fun _ s4 => 9 - (intOf s4).toNat)
  case atStart => exact ⟨0, 0, rfl, rfl, Nat.zero_le _, by decide, fun i hi => absurd hi (Nat.not_lt_zero _)⟩
  case round =>
    obtain ⟨k, z, rfl, rfl, hk, hk9, hok⟩ := hrel
    by_cases hlt : k < L.length
    · have d1 : decide ((k : Int) < (L.length : Int)) = true := decide_eq_true (by omega)
      have ek : (k : Int) < (L.length : Int) := by omega
      by_cases h9 : k < 9
      · have d2 : decide ((k : Int) < 9) = true := decide_eq_true (by omega)
        obtain ⟨b, off, q, m, rfl, k0, k1, hit⟩ := H.out.at hlt
        have hnm := H.out.name k hlt
        obtain ⟨nm, hnm2⟩ : ∃ nm, nm = (ob L k).name := ⟨_, rfl⟩
        obtain ⟨M, hM⟩ : ∃ M, M = (ob L k).items := ⟨_, rfl⟩
        rw [← hnm2] at k0 hnm
        rw [← hM] at k1 hit
        have hml := Nat.le_trans hit.le hit.max
        unfold maxLen at hnm
        have HX := Lib.hid (And.intro hok (And.intro hnm2 (And.intro hM hit)))
        clear hok hnm2 hM hit
        by_cases hm60 : M.length ≤ 60
        · have d3 : decide (60 < (M.length : Int)) = false := decide_eq_false (by omega)
          by_cases hn40 : nm.size ≤ 40
          · have d4 : decide (40 < (nm.size : Int)) = false := decide_eq_false (by omega)
            go_wp2_with fail
            go_loop [3, 5] (fun s3 s5 => ∃ (j : Nat) (z : Int), s5 = .int .i64 j ∧ s3 = .int .i64 z ∧ j ≤ M.length ∧ ∀ i, i < j → (litX M i).lab.size ≤ 40) (fun _ s5 => M.length - (intOf s5).toNat)
            case atStart => exact ⟨0, z, rfl, rfl, Nat.zero_le _, fun i hi => absurd hi (Nat.not_lt_zero _)⟩
            case round =>
              obtain ⟨j, y, rfl, rfl, hj, hlb⟩ := hrel
              by_cases hlt2 : j < M.length
              · have d5 : decide ((j : Int) < (M.length : Int)) = true := decide_eq_true (by omega)
                have ej : (j : Int) < (M.length : Int) := by omega
                obtain ⟨b2, off2, rfl, i0, i1, i2, i3, i4, i5, i6, i7⟩ := HX.out.2.2.2.at hlt2
                have hlm := HX.out.2.2.2.lab j hlt2
                unfold maxLen at hlm
                clear i1 i2 i3 i4 i5
                have HL := Lib.hid hlb
                clear hlb
                obtain ⟨kd, hkd⟩ : ∃ kd, kd = (litX M j).kind := ⟨_, rfl⟩
                obtain ⟨lb, hlb⟩ : ∃ lb, lb = (litX M j).lab := ⟨_, rfl⟩
                obtain ⟨wd, hwd⟩ : ∃ wd, wd = (litX M j).word := ⟨_, rfl⟩
                rw [← hkd] at i0
                rw [← hlb] at i6 hlm
                rw [← hwd] at i7
                have HB := Lib.hid hlb
                clear hkd hlb hwd
                by_cases hl40 : lb.size ≤ 40
                · have d6 : decide (40 < (lb.size : Int)) = false := decide_eq_false (by omega)
                  by_cases h8 : kd = 8
                  · have d7 : (kd == 8) = true := by simp [h8]
                    go_wp2_with fail
                    go_round
                    case rel =>
                      refine ⟨j + 1, _, by go_num, rfl, hlt2, fun i hi => ?_⟩
                      by_cases hij : i = j
                      · rw [hij, ← HB.out]; exact hl40
                      · exact HL.out i (by omega)
                    case measure => simp [intOf]; omega
                  · have d7 : (kd == 8) = false := by simp [h8]
                    go_wp2_with fail
                    go_round
                    case rel =>
                      refine ⟨j + 1, _, by go_num, rfl, hlt2, fun i hi => ?_⟩
                      by_cases hij : i = j
                      · rw [hij, ← HB.out]; exact hl40
                      · exact HL.out i (by omega)
                    case measure => simp [intOf]; omega
                · have d6 : decide (40 < (lb.size : Int)) = true := decide_eq_true (by omega)
                  go_wp2_with fail
                  go_ret
                  exact ⟨⟨false, rfl, fun h => (by cases h)⟩, rfl⟩
              · have hzj : j = M.length := by omega
                subst hzj
                have d5 : decide ((M.length : Int) < (M.length : Int)) = false := by simp
                have HL := Lib.hid hlb
                clear hlb
                go_wp2_with fail
                go_round
                case rel =>
                  refine ⟨k + 1, _, by go_num, rfl, hlt, by omega, fun i hi => ?_⟩
                  by_cases hik : i = k
                  · subst hik
                    refine ⟨?_, ?_, ?_⟩
                    · rw [← HX.out.2.2.1]; exact hm60
                    · rw [← HX.out.2.1]; exact hn40
                    · rw [← HX.out.2.2.1]; exact HL.out
                  · exact HX.out.1 i (by omega)
                case measure => simp [intOf]; omega
          · have d4 : decide (40 < (nm.size : Int)) = true := decide_eq_true (by omega)
            go_wp2_with fail
            go_ret
            exact ⟨⟨false, rfl, fun h => (by cases h)⟩, rfl⟩
        · have d3 : decide (60 < (M.length : Int)) = true := decide_eq_true (by omega)
          go_wp2_with fail
          go_ret
          exact ⟨⟨false, rfl, fun h => (by cases h)⟩, rfl⟩
      · have hk' : k = 9 := by omega
        subst hk'
        have d3 : decide ((L.length : Int) ≤ 8) = false := decide_eq_false (by omega)
        have d1' : decide ((9 : Int) < (L.length : Int)) = true := decide_eq_true (by omega)
        go_wp2_with fail
        go_ret
        exact ⟨⟨false, rfl, fun h => (by cases h)⟩, rfl⟩
    · have hz : k = L.length := by omega
      subst hz
      have d1 : decide ((L.length : Int) < (L.length : Int)) = false := by simp
      have HO := Lib.hid hok
      clear hok
      by_cases hl8 : L.length ≤ 8
      · have d3 : decide ((L.length : Int) ≤ 8) = true := decide_eq_true (by omega)
        have hfew : Few L := ⟨hl8, fun i hi => (HO.out i hi).1, fun i hi => (HO.out i hi).2.1, fun i hi => by
          obtain ⟨b, off, q, m, -, -, -, hit⟩ := H.out.at hi
          exact okI_of hit.word (HO.out i hi).2.2⟩
        have HF := Lib.hid hfew
        clear hfew
        obtain ⟨bz, hbz⟩ : ∃ bz, bz = decide (z ≤ 4194304) := ⟨_, rfl⟩
        obtain ⟨by', hby⟩ : ∃ by', by' = decide (134217728 < z) := ⟨_, rfl⟩
        have d4 := hbz.symm
        have d5 := hby.symm
        clear hbz hby
        cases bz <;> cases by' <;>
          (go_wp2_with fail
           go_ret
           exact ⟨⟨_, rfl, fun _ => HF.out⟩, rfl⟩)
      · have d3 : decide ((L.length : Int) ≤ 8) = false := decide_eq_false (by omega)
        go_wp2_with fail
        go_ret
        exact ⟨⟨false, rfl, fun h => (by cases h)⟩, rfl⟩
end Go.Proofs.YtbplmbignalbgaaDoor
