/- The walk of MachRuns; arguments that are numbers, and rows of three numbers. Conditions: the setting, the fuels and what is put read as told; the forms' table is as laid. -/
import Derived.Test.YtknnmacmohpanaaDoorMaXb
import Derived.Test.YtknnmacmohpanaaDoorMaQf
import Derived.OpenShut
namespace Go.Proofs.YtknnmacmohpanaaDoor
open Go.ChangeShapes Go.WideShapes Go.RowKit
set_option linter.unusedVariables false
set_option linter.unusedSimpArgs false

set_option maxRecDepth 100000 in
theorem slice_open {H : Type} {enc : TypeId × Value → H} {w : World} {base : Nat} {sp : Nat → Bool} {held : Bool} {r : Reach} {b0 : Nat} {t e : TypeId} {k : IntKind} {v : Value} {d : DataW H} {p : List MemPlace} (ht : Tryd.prog.underlying t = some (.slice e)) (he : Tryd.prog.underlying e = some (.int k)) (hc : Tryd.prog.cellsOf e = 1)
    (hv : Value.okWide Tryd.prog w r b0 t v) (h : DataW.Trod enc Tryd.prog w base sp held t v d p) :
    ∃ (p : Option Addr) (c : Nat) (xs : List Int), v = .slice p xs.length c ∧ Arg k w p c xs ∧ ∀ n ∈ xs, (Lit.int k n).wf = true := by
  obtain ⟨a, len, cap, rfl⟩ := okWide_slice ht hv
  obtain ⟨fuel, hf⟩ := h
  obtain ⟨p, c, xs, e0, ha, hw⟩ := arg_open ht he hc hf
  have k0 : [Value.slice a len cap] = [Value.slice p xs.length c] := e0
  exact ⟨p, c, xs, (List.cons.inj k0).1, ha, hw⟩
theorem Arg.flat {k : IntKind} {w : World} {p : Option Addr} {c : Nat} {xs : List Int} (h : Arg k w p c xs) (hx : xs ≠ []) : ∃ b off, p = some ⟨b, off, none⟩ ∧ ∀ j, j < xs.length → w.cell? ⟨b, off + j, none⟩ = some (.int k (xs.getD j 0)) := by
  have hg : ∀ j, j < xs.length → (xs.map (Value.int k))[j]? = some (.int k (xs.getD j 0)) := fun j hj => by
    rw [List.getElem?_map, List.getElem?_eq_getElem hj]
    simp [List.getD, List.getElem?_eq_getElem hj]
  obtain ⟨ad, hp, h0⟩ := h.cell 0 _ (hg 0 (List.length_pos_iff.2 hx))
  obtain ⟨b, off, spot⟩ := ad
  have hspot : spot = none := by simpa [Addr.add] using World.cell?_spot h0
  subst hspot
  refine ⟨b, off, hp, fun j hj => ?_⟩
  obtain ⟨ad', hp', hc⟩ := h.cell j _ (hg j hj)
  rw [hp] at hp'
  cases hp'
  rwa [Addr.add_mid] at hc

/-- Rows of three numbers that read as told. -/
structure Arg3 (w : World) (p : Option Addr) (n c : Nat) (f : Nat → Nat → Int) : Prop where
  nil : p = none → n = 0 ∧ c = 0
  le : n ≤ c
  max : c ≤ 9223372036854775807
  cell : 0 < n → ∃ b off, p = some ⟨b, off, none⟩ ∧ ∀ i, i < n → ∀ j, j < 3 → w.cell? ⟨b, off + i * 3 + j, none⟩ = some (.int .i64 (f i j))
  rng : ∀ i, i < n → ∀ j, j < 3 → -9223372036854775808 ≤ f i j ∧ f i j ≤ 9223372036854775807
theorem Arg3.below {w w' : World} {p : Option Addr} {n c : Nat} {f : Nat → Nat → Int} (h : Arg3 w p n c f) (hb : Below w.heap.size w w') : Arg3 w' p n c f :=
  ⟨h.nil, h.le, h.max, fun hn => by
    obtain ⟨b, off, hp, hc⟩ := h.cell hn
    exact ⟨b, off, hp, fun i hi j hj => (hb.cell (p := ⟨b, off + i * 3 + j, none⟩) (World.block_lt_of_cell? w _ (hc i hi j hj))).trans (hc i hi j hj)⟩, h.rng⟩
def cellNum (w : World) (a : Addr) : Int := match w.cell? a with | some (.int _ x) => x | _ => 0
set_option maxRecDepth 100000
theorem isize37 : Tryd.prog.cellsOf 37 = 3 := by kernel_rfl
theorem isize2 : Tryd.prog.cellsOf 2 = 1 := by kernel_rfl
theorem rows_open {H : Type} {enc : TypeId × Value → H} {w : World} {base : Nat} {sp : Nat → Bool} {held : Bool} {r : Reach} {b0 : Nat} {v : Value} {d : DataW H} {p : List MemPlace}
    (hv : Value.okWide Tryd.prog w r b0 35 v) (h : DataW.Trod enc Tryd.prog w base sp held 35 v d p) :
    ∃ (p : Option Addr) (n c : Nat) (f : Nat → Nat → Int), v = .slice p n c ∧ Arg3 w p n c f := by
  obtain ⟨a, len, cap, rfl⟩ := okWide_slice Tryd.underlying35 hv
  obtain ⟨fuel, hf⟩ := h
  rcases DataW.trod_slice Tryd.underlying35 hf with ⟨h0, -⟩ | ⟨a', len', cap', elems, rest, n, -, hcs, -, -, hl, hm, hlen, hel, -, -⟩
  · have k0 : [Value.slice a len cap] = [Value.slice none 0 0] := h0
    have k1 := (List.cons.inj k0).1
    rw [k1]
    exact ⟨none, 0, 0, fun _ _ => 0, rfl, fun _ => ⟨rfl, rfl⟩, Nat.le_refl _, by decide, fun h => absurd h (Nat.lt_irrefl _), fun i hi => absurd hi (Nat.not_lt_zero _)⟩
  · have k0 : [Value.slice a len cap] = [Value.slice (some a') len' cap'] := hcs
    have k1 := (List.cons.inj k0).1
    rw [k1]
    have key : ∀ i, i < len' → ∀ j, j < 3 → ∃ x : Int, w.cell? ((a'.add (i * 3)).add j) = some (.int .i64 x) ∧ (Lit.int .i64 x).wf = true := by
      intro i hi j hj
      have hb' := hel i hi
      rw [isize37] at hb'
      rw [List.getElem?_eq_getElem (by omega), Option.bind_eq_some_iff] at hb'
      obtain ⟨cs', hcs', ht⟩ := hb'
      obtain ⟨xs, m, -, -, hcl, hxl, hg⟩ := DataW.trod_array Tryd.underlying37 ht
      obtain ⟨-, hl3, hcell⟩ := World.cells?_some hcs'
      have hgj := hg j hj
      rw [isize2, Nat.mul_one, List.getElem?_eq_getElem (by omega)] at hgj
      obtain ⟨x, hx1, -, hw⟩ := DataW.trod_int Tryd.underlying2 hgj
      refine ⟨x, ?_, hw⟩
      rw [hcell j hj]
      have hd : (cs'.drop j).take 1 = [.int .i64 x] := hx1
      have : ((cs'.drop j).take 1)[0]? = cs'[j]? := by rw [List.getElem?_take, if_pos (by decide), List.getElem?_drop, Nat.add_zero]
      rw [← this, hd]
      rfl
    refine ⟨some a', len', cap', fun i j => cellNum w ((a'.add (i * 3)).add j), rfl, fun h => (by cases h), hl, by unfold maxLen at hm; omega, fun hn => ?_, fun i hi j hj => ?_⟩
    · obtain ⟨b, off, spot⟩ := a'
      obtain ⟨x0, h0, -⟩ := key 0 hn 0 (by decide)
      have hspot : spot = none := by simpa [Addr.add] using World.cell?_spot h0
      subst hspot
      refine ⟨b, off, rfl, fun i hi j hj => ?_⟩
      obtain ⟨x, hx, -⟩ := key i hi j hj
      have hc : cellNum w (((⟨b, off, none⟩ : Addr).add (i * 3)).add j) = x := by unfold cellNum; rw [hx]
      show w.cell? ⟨b, off + i * 3 + j, none⟩ = some (.int .i64 (cellNum w (((⟨b, off, none⟩ : Addr).add (i * 3)).add j)))
      rw [hc]
      rwa [Addr.add_mid, Addr.add_mid] at hx
    · obtain ⟨x, hx, hw⟩ := key i hi j hj
      have hc : cellNum w ((a'.add (i * 3)).add j) = x := by unfold cellNum; rw [hx]
      show -9223372036854775808 ≤ cellNum w ((a'.add (i * 3)).add j) ∧ cellNum w ((a'.add (i * 3)).add j) ≤ 9223372036854775807
      rw [hc]
      exact bounds_i64 hw
theorem readable34 : Tryd.prog.readableRec 34 = true := by kernel_rfl
theorem row34 : 34 < Tryd.prog.types.size := of_decide_eq_true (by kernel_rfl)
theorem readable35 : Tryd.prog.readableRec 35 = true := by kernel_rfl
theorem row35 : 35 < Tryd.prog.types.size := of_decide_eq_true (by kernel_rfl)

theorem Duo.run {W w : World} {l : Lay} {m : MS} {q : QL} {mq m1 : MS} {M : Nat} {st n : Int} (h : Duo W l m q mq w) (hE : Env W) (hM : l.M = M) (hm : MS.run n.toNat m = m1) (hst : m1.state = st) (h1 : m.steps + n ≤ 1000000) (h2 : (m.out.length : Int) + n ≤ 1000000) :
    Calls Tryd.prog 13 #[.pointer (some ⟨M, 0, none⟩), .int .i64 n] w fun e w' => e = .returned (.int .i64 st) ∧ ∃ l', l'.M = M ∧ Duo W l' m1 q mq w' := by
  subst hM hst hm
  exact (run_at h.rep (hE.below h.below) hE.size n h1 h2).mono fun _ _ ⟨he, l', s⟩ => ⟨he, l', s.M, h.stp s⟩
theorem Duo.qrun {W w : World} {l : Lay} {m : MS} {q : QL} {mq m1 : MS} {Q : Nat} {st n : Int} (h : Duo W l m q mq w) (hQ : q.Q = Q) (hm : MS.run n.toNat mq = m1) (hst : m1.state = st) (h1 : mq.steps + n ≤ 1000000) (h2 : (mq.out.length : Int) + n ≤ 1000000) (h3 : mq.steps ≤ 1000000) (h4 : mq.out.length ≤ 1000000) :
    Calls Tryd.prog 14 #[.pointer (some ⟨Q, 0, none⟩), .int .i64 n] w fun e w' => e = .returned (.int .i64 st) ∧ ∃ q', q'.Q = Q ∧ Duo W l m q' m1 w' := by
  subst hst hm
  exact (rrun_at h.qrep hQ n h1 h2 h3 h4).mono fun _ _ ⟨he, q', s⟩ => ⟨he, q', s.Q.trans hQ, h.qstp s⟩
theorem Duo.put {W w : World} {l : Lay} {m : MS} {q : QL} {mq : MS} {M : Nat} (h : Duo W l m q mq w) (hM : l.M = M) (T : Nat) (x : Int) (hT : T < m.size) (hx : 0 ≤ x ∧ x < 4294967296) :
    Calls Tryd.prog 15 #[.pointer (some ⟨M, 0, none⟩), .int .i64 T, .int .u32 x] w fun e w' => e = .returned (.int .i64 0) ∧ ∃ l', l'.M = M ∧ Duo W l' { m with mem := updF m.mem T x } q mq w' := by
  subst hM
  exact (put_in h.rep T x hT hx).mono fun _ _ ⟨he, l', s⟩ => ⟨he, l', s.M, h.stp s⟩
theorem Duo.putOut {W w : World} {l : Lay} {m : MS} {q : QL} {mq : MS} {M : Nat} (h : Duo W l m q mq w) (hM : l.M = M) (a x : Int) (ha : ¬ (0 ≤ a ∧ a < m.size)) :
    Calls Tryd.prog 15 #[.pointer (some ⟨M, 0, none⟩), .int .i64 a, .int .u32 x] w fun e w' => e = .returned (.int .i64 2) ∧ w = w' := by
  subst hM
  exact put_out h.rep a x ha
theorem Duo.set {W w : World} {l : Lay} {m : MS} {q : QL} {mq : MS} {M : Nat} (h : Duo W l m q mq w) (hM : l.M = M) (T : Nat) (x : Int) (hT : T < 32) (hx : 0 ≤ x ∧ x < 4294967296) :
    Calls Tryd.prog 16 #[.pointer (some ⟨M, 0, none⟩), .int .i64 T, .int .u32 x] w fun e w' => e = .returned (.int .i64 0) ∧ Duo W l (m.setR T x) q mq w' := by
  subst hM
  exact (set_in h.rep T x hT hx).mono fun _ _ ⟨he, s⟩ => ⟨he, h.stp s⟩
theorem Duo.setOut {W w : World} {l : Lay} {m : MS} {q : QL} {mq : MS} {M : Nat} (h : Duo W l m q mq w) (hM : l.M = M) (a x : Int) (ha : ¬ (0 ≤ a ∧ a < 32)) :
    Calls Tryd.prog 16 #[.pointer (some ⟨M, 0, none⟩), .int .i64 a, .int .u32 x] w fun e w' => e = .returned (.int .i64 2) ∧ w = w' := by
  subst hM
  exact set_out h.rep a x ha
theorem Duo.goRun {W w : World} {l : Lay} {m : MS} {q : QL} {mq : MS} {M : Nat} (h : Duo W l m q mq w) (hM : l.M = M) (x : Int) (hs : m.state = 0) (hx : 0 ≤ x ∧ x < 4294967296) :
    Calls Tryd.prog 17 #[.pointer (some ⟨M, 0, none⟩), .int .u32 x] w fun e w' => e = .returned (.int .i64 0) ∧ Duo W l { m with place := x } q mq w' := by
  subst hM
  exact (go_run h.rep x hs hx).mono fun _ _ ⟨he, s⟩ => ⟨he, h.stp s⟩
theorem Duo.goNot {W w : World} {l : Lay} {m : MS} {q : QL} {mq : MS} {M : Nat} (h : Duo W l m q mq w) (hM : l.M = M) (x : Int) (hs : m.state ≠ 0) :
    Calls Tryd.prog 17 #[.pointer (some ⟨M, 0, none⟩), .int .u32 x] w fun e w' => e = .returned (.int .i64 2) ∧ w = w' := by
  subst hM
  exact go_not h.rep x hs
theorem Duo.grow {W w w' : World} {l : Lay} {m : MS} {q : QL} {mq : MS} (h : Duo W l m q mq w) (hb : Below w.heap.size w w') : Duo W l m q mq w' :=
  ⟨h.below.trans (hb.mono h.below.size), h.rep.below hb, h.qrep.below hb, h.ap⟩
theorem setR_zero (m : MS) (x : Int) : m.setR 0 x = m := rfl
/-- Behind what was put: the machines are alike again. -/
def Again (W : World) (A B : Nat) (m1 : MS) (wx : World) : Prop := ∃ (la : Lay) (qa : QL) (m2 : MS), la.M = A ∧ qa.Q = B ∧ Mad W la qa m2 wx ∧ m2.steps = m1.steps ∧ m2.out = m1.out

set_option maxRecDepth 100000 in
set_option maxHeartbeats 8000000 in
theorem runs_any (pw pi pr pf pp : Option Addr) (cw ci cr cf cp np : Nat) (size : Int) (ws is rs fs : List Int) (f : Nat → Nat → Int) (w : World) (hE : Env w) (hw : Arg .u32 w pw cw ws) (hi : Arg .u8 w pi ci is) (hr : Arg .u32 w pr cr rs) (hf : Arg .i64 w pf cf fs) (hp : Arg3 w pp np cp f) (hwr : ∀ x ∈ ws, 0 ≤ x ∧ x < 4294967296) (hir : ∀ x ∈ is, 0 ≤ x ∧ x < 256) (hrr : ∀ x ∈ rs, 0 ≤ x ∧ x < 4294967296) (hfr : ∀ x ∈ fs, -9223372036854775808 ≤ x ∧ x ≤ 9223372036854775807) :
    Calls Tryd.prog 4 #[.agg #[.slice pw ws.length cw, .int .i64 size, .slice pi is.length ci, .slice pr rs.length cr], .slice pf fs.length cf, .slice pp np cp] w fun e w' => e = .returned (.bool true) ∧ Below w.heap.size w w' := by
  have hA := Lib.hid (fun w' (hb : Below w.heap.size w w') => setting_at pw pi pr cw ci cr size ws is rs w' (hE.below hb) (hw.below hb) (hi.below hb) (hr.below hb) hwr hir hrr)
  have HE := Lib.hid hE
  have HF := Lib.hid (And.intro hf (And.intro hfr hp))
  obtain ⟨L, hL⟩ : ∃ L, L = fs.length := ⟨_, rfl⟩
  rw [← hL]
  have HL := Lib.hid hL
  clear hw hi hr hwr hir hrr hE hf hp hfr hL
  go_enter Tryd.func4, Tryd.ntmps4
  go_wp2_with fail
  have hb0 : Below w.heap.size w (w.alloc (.cells #[.slice pw ws.length cw, .int .i64 size, .slice pi is.length ci, .slice pr rs.length cr] 25)) := (Below.refl _ _).alloc (Nat.le_refl _) _
  refine (hA.out _ hb0).mono ?_
  rintro e w1 (⟨-, rfl, hb⟩ | ⟨-, l, q, rfl, hM⟩)
  · have hb2 := hb0.trans (hb.mono hb0.size)
    have HB := Lib.hid hb2
    clear hb hb2 hb0
    go_wp2_with fail
    refine (works_any _ (HE.out.below HB.out)).mono ?_
    rintro e wz ⟨rfl, hb⟩
    have HZ := Lib.hid (HB.out.trans (hb.mono HB.out.size))
    clear hb
    go_wp2_with fail
    go_ret
    exact ⟨rfl, HZ.out⟩
  · have S := Lib.hid (hM.base hb0)
    clear hM hb0
    obtain ⟨m, hm⟩ : ∃ m, m = stM ws size is rs := ⟨_, rfl⟩
    have hz := stM_zero ws size is rs
    rw [← hm] at S hz
    clear hm
    have HZ := Lib.hid hz
    clear hz
    obtain ⟨A, hAe⟩ : ∃ A, A = l.M := ⟨_, rfl⟩
    obtain ⟨B, hBe⟩ : ∃ B, B = q.Q := ⟨_, rfl⟩
    have HH := Lib.hid (And.intro hAe.symm hBe.symm)
    rw [← hAe, ← hBe]
    clear hAe hBe hA
    go_wp2_with fail
    go_loopw [11] (fun i wr => ∃ (j : Nat) (la : Lay) (qa : QL) (mj : MS), i = .int .i64 j ∧ j ≤ L ∧ j ≤ 8 ∧ la.M = A ∧ qa.Q = B ∧ Mad w la qa mj wr ∧ mj.steps ≤ 500 * j ∧ mj.out.length ≤ 500 * j) (fun i _ => 8 - (intOf i).toNat)
    case atStart => exact ⟨0, l, q, m, rfl, Nat.zero_le _, Nat.zero_le _, HH.out.1, HH.out.2, S.out, by rw [HZ.out.1]; simp, by rw [HZ.out.2.1]; simp⟩
    case round =>
      obtain ⟨j, la, qa, mj, rfl, hj, hj8, ha, hb, s, hbs, hbo⟩ := hrel
      have T := Lib.hid (And.intro s (And.intro hbs hbo))
      have HAB := Lib.hid (And.intro ha hb)
      clear s hbs hbo ha hb
      by_cases h1 : j < L
      · have d1 : decide ((j : Int) < (L : Int)) = true := by simp; omega
        by_cases h2 : j < 8
        · have d2 : decide ((j : Int) < 8) = true := by simp; omega
          have hne : fs ≠ [] := by intro h; have := HL.out; rw [h] at this; simp at this; omega
          obtain ⟨bF, oF, rfl, hcell⟩ := HF.out.1.flat hne
          obtain ⟨x, hxe⟩ : ∃ x, x = fs.getD j 0 := ⟨_, rfl⟩
          have c0 := hcell j (by rw [← HL.out]; exact h1)
          rw [← hxe] at c0
          have cF := (T.out.1.below.cell (p := ⟨bF, oF + j, none⟩) (World.block_lt_of_cell? w _ c0)).trans c0
          have hlt2 : (j : Int) < (L : Int) := by omega
          have hle := HF.out.1.le
          have hmx := HF.out.1.max
          rw [← HL.out] at hle
          clear hne hcell c0 hxe
          go_upto_region 7 with fail
          go_cut [12] (fun c wx => wx = wr ∧ ∃ n : Int, c = .int .i64 n ∧ n ≤ 500)
          case first =>
            go_wp2_with fail
            all_goals
              go_meet
              case rel => exact ⟨rfl, _, rfl, by omega⟩
          case rest =>
            obtain ⟨rfl, n, rfl, hn⟩ := hcut
            clear cF
            obtain ⟨m1, hm1⟩ : ∃ m1, m1 = MS.run n.toNat mj := ⟨_, rfl⟩
            obtain ⟨st, hst⟩ : ∃ st, m1.state = st := ⟨_, rfl⟩
            have hb1 := run_bounds n.toNat mj
            rw [← hm1] at hb1
            have hB := T.out.2
            have k1 : mj.steps + n ≤ 1000000 := by omega
            have k2 : (mj.out.length : Int) + n ≤ 1000000 := by omega
            have k3 : m1.steps ≤ 500 * ((j + 1 : Nat) : Int) := by omega
            have k4 : m1.out.length ≤ 500 * (j + 1) := by omega
            have k5 : mj.steps ≤ 1000000 := by omega
            have k6 : mj.out.length ≤ 1000000 := by omega
            have HR := Lib.hid (And.intro hm1.symm (And.intro hst (And.intro k1 (And.intro k2 (And.intro k3 (And.intro k4 (And.intro k5 k6)))))))
            clear hm1 hst hb1 hB k1 k2 k3 k4 k5 k6
            go_wp2_with fail
            refine (T.out.1.duo.run HE.out HAB.out.1 HR.out.1 HR.out.2.1 HR.out.2.2.1 HR.out.2.2.2.1).mono ?_
            rintro e w2 ⟨rfl, l2, ha2, s2⟩
            have S2 := Lib.hid (And.intro s2 ha2)
            clear s2 ha2
            go_wp2_with fail
            refine (S2.out.1.qrun HAB.out.2 HR.out.1 HR.out.2.1 HR.out.2.2.1 HR.out.2.2.2.1 HR.out.2.2.2.2.2.2.1 HR.out.2.2.2.2.2.2.2).mono ?_
            rintro e w3 ⟨rfl, q2, hb2, s3⟩
            have S3 := Lib.hid (And.intro s3 (And.intro S2.out.2 hb2))
            clear s3 hb2 S2
            go_upto_if 58 with fail
            go_cut [11] (fun i wx => i = .int .i64 j ∧ Again w A B m1 wx)
            case first =>
              by_cases h3 : j < np
              · have d3 : decide ((j : Int) < (np : Int)) = true := by simp; omega
                have hj3 : (j : Int) < (np : Int) := by omega
                obtain ⟨bP, oP, rfl, hcell⟩ := HF.out.2.2.cell (by omega)
                obtain ⟨z, hze⟩ : ∃ z, z = f j 0 := ⟨_, rfl⟩
                obtain ⟨a, hae⟩ : ∃ a, a = f j 1 := ⟨_, rfl⟩
                obtain ⟨y0, hye⟩ : ∃ y0, y0 = f j 2 := ⟨_, rfl⟩
                have p0 := hcell j h3 0 (by decide)
                have p1 := hcell j h3 1 (by decide)
                have p2 := hcell j h3 2 (by decide)
                rw [← hze, Nat.add_zero] at p0
                rw [← hae] at p1
                rw [← hye] at p2
                have hbP := World.block_lt_of_cell? w _ p0
                have ha := HF.out.2.2.rng j h3 1 (by decide)
                rw [← hae] at ha
                have r0 := (S3.out.1.below.cell (p := ⟨bP, oP + j * 3, none⟩) hbP).trans p0
                have r1 := (S3.out.1.below.cell (p := ⟨bP, oP + j * 3 + 1, none⟩) hbP).trans p1
                have r2 := (S3.out.1.below.cell (p := ⟨bP, oP + j * 3 + 2, none⟩) hbP).trans p2
                have hle := HF.out.2.2.le
                have hmx := HF.out.2.2.max
                obtain ⟨ha0, ha1⟩ := ha
                clear hcell hze hae hye p0 p1 p2 hbP
                go_upto_region 11 with fail
                go_quiet (fail)
                obtain ⟨w4, hw4⟩ : ∃ w4, w4 = w3.drewN nq := ⟨_, rfl⟩
                have s4 : Duo w l2 m1 q2 m1 w4 := by rw [hw4]; exact S3.out.1.grow (below_drewN (Below.refl _ _) nq)
                have S4 := Lib.hid s4
                replace r0 : w4.cell? ⟨bP, oP + j * 3, none⟩ = some (.int .i64 z) := by rw [hw4]; exact r0
                rw [← hw4]
                clear hw4 r1 r2 s4
                obtain ⟨y, hy⟩ : ∃ y, y = y0 % 4294967296 := ⟨_, rfl⟩
                have hyr : 0 ≤ y ∧ y < 4294967296 := by omega
                rw [← hy]
                clear hy
                go_upto_region 12 with fail
                go_cut [75] (fun c wx => wx = w4 ∧ ∃ k : Int, c = .int .i64 k)
                case first =>
                  go_wp2_with fail
                  go_meet
                  case rel => exact ⟨rfl, _, rfl⟩
                case rest =>
                  obtain ⟨rfl, k, rfl⟩ := hcut
                  clear r0 hj3 hle hmx
                  have HY := Lib.hid hyr
                  clear hyr
                  by_cases k0 : k = 0
                  · subst k0
                    by_cases hin : 0 ≤ a ∧ a < m1.size
                    · obtain ⟨Tn, rfl⟩ : ∃ Tn : Nat, a = Tn := ⟨a.toNat, by omega⟩
                      have hT : Tn < m1.size := by omega
                      have hT2 : (Tn : Int) < (m1.size : Int) := by omega
                      have dT0 : decide (0 ≤ (Tn : Int)) = true := by simp
                      have dT1 : decide ((Tn : Int) < (m1.size : Int)) = true := by simp; omega
                      clear hin
                      go_wp2_with fail
                      refine (S4.out.put S3.out.2.1 Tn y hT HY.out).mono ?_
                      rintro e w5 ⟨rfl, l5, ha5, s5⟩
                      have c32 := s5.qrep.c32
                      rw [S3.out.2.2] at c32
                      have cT := s5.qrep.cm Tn hT
                      have fT := s5.qrep.fB Tn
                      have hsz := s5.qrep.ok.size
                      have S5 := Lib.hid (And.intro s5 ha5)
                      clear s5 ha5
                      go_wp2_with fail
                      go_meet
                      case rel => exact ⟨rfl, l5, q2, { m1 with mem := updF m1.mem Tn y }, S5.out.2, S3.out.2.2, (S5.out.1.qstp (S5.out.1.qrep.setM Tn y hT HY.out)).mad, rfl, rfl⟩
                    · have c32 := S4.out.qrep.c32
                      rw [S3.out.2.2] at c32
                      have hsz := S4.out.qrep.ok.size
                      have HO := Lib.hid hin
                      by_cases hneg : 0 ≤ a
                      · have dT0 : decide (0 ≤ a) = true := by simpa using hneg
                        have dT1 : decide (a < (m1.size : Int)) = false := by simp; omega
                        clear hin hneg
                        go_wp2_with fail
                        refine (S4.out.putOut S3.out.2.1 a y HO.out).mono ?_
                        rintro e w5 ⟨rfl, rfl⟩
                        go_wp2_with fail
                        go_meet
                        case rel => exact ⟨rfl, l2, q2, m1, S3.out.2.1, S3.out.2.2, S4.out.mad, rfl, rfl⟩
                      · have dT0 : decide (0 ≤ a) = false := by simpa using hneg
                        clear hin hneg
                        go_wp2_with fail
                        refine (S4.out.putOut S3.out.2.1 a y HO.out).mono ?_
                        rintro e w5 ⟨rfl, rfl⟩
                        go_wp2_with fail
                        go_meet
                        case rel => exact ⟨rfl, l2, q2, m1, S3.out.2.1, S3.out.2.2, S4.out.mad, rfl, rfl⟩
                  · have e0 : (k == 0) = false := beq_eq_false_iff_ne.2 k0
                    by_cases k1 : k = 1
                    · subst k1
                      clear k0 e0
                      by_cases hin : 0 ≤ a ∧ a < 32
                      · obtain ⟨Tn, rfl⟩ : ∃ Tn : Nat, a = Tn := ⟨a.toNat, by omega⟩
                        have hT : Tn < 32 := by omega
                        have hT2 : (Tn : Int) < 32 := by omega
                        have dT0 : decide (0 ≤ (Tn : Int)) = true := by simp
                        have dT1 : decide ((Tn : Int) < 32) = true := by simp; omega
                        clear hin
                        by_cases hz : Tn = 0
                        · subst hz
                          go_wp2_with fail
                          refine (S4.out.set S3.out.2.1 0 y hT HY.out).mono ?_
                          rintro e w5 ⟨rfl, s5⟩
                          rw [setR_zero] at s5
                          have S5 := Lib.hid s5
                          clear s5
                          go_wp2_with fail
                          go_meet
                          case rel => exact ⟨rfl, l2, q2, m1, S3.out.2.1, S3.out.2.2, S5.out.mad, rfl, rfl⟩
                        · have dT3 : decide (0 < (Tn : Int)) = true := by simp; omega
                          have hpos : 0 < Tn := by omega
                          have hpos2 : 0 < (Tn : Int) := by omega
                          have HZn := Lib.hid hz
                          clear hz
                          go_wp2_with fail
                          refine (S4.out.set S3.out.2.1 Tn y hT HY.out).mono ?_
                          rintro e w5 ⟨rfl, s5⟩
                          have cR := s5.qrep.cr Tn hT
                          have fR := s5.qrep.fQ Tn
                          rw [S3.out.2.2] at cR fR
                          have hd := s5.qstp (QStp.own (s5.qrep.setR Tn y hT HZn.out HY.out))
                          rw [S3.out.2.2] at hd
                          have S5 := Lib.hid hd
                          clear s5 hd
                          go_wp2_with fail
                          go_meet
                          case rel => exact ⟨rfl, l2, q2, m1.setR Tn y, S3.out.2.1, S3.out.2.2, S5.out.mad, rfl, rfl⟩
                      · have HO := Lib.hid hin
                        by_cases hneg : 0 ≤ a
                        · have dT0 : decide (0 ≤ a) = true := by simpa using hneg
                          have dT1 : decide (a < 32) = false := by simp; omega
                          clear hin hneg
                          go_wp2_with fail
                          refine (S4.out.setOut S3.out.2.1 a y HO.out).mono ?_
                          rintro e w5 ⟨rfl, rfl⟩
                          go_wp2_with fail
                          go_meet
                          case rel => exact ⟨rfl, l2, q2, m1, S3.out.2.1, S3.out.2.2, S4.out.mad, rfl, rfl⟩
                        · have dT0 : decide (0 ≤ a) = false := by simpa using hneg
                          clear hin hneg
                          go_wp2_with fail
                          refine (S4.out.setOut S3.out.2.1 a y HO.out).mono ?_
                          rintro e w5 ⟨rfl, rfl⟩
                          go_wp2_with fail
                          go_meet
                          case rel => exact ⟨rfl, l2, q2, m1, S3.out.2.1, S3.out.2.2, S4.out.mad, rfl, rfl⟩
                    · have e1 : (k == 1) = false := beq_eq_false_iff_ne.2 k1
                      clear k0 k1
                      by_cases hs : m1.state = 0
                      · have HS := Lib.hid hs
                        clear hs
                        go_wp2_with fail
                        refine (S4.out.goRun S3.out.2.1 y HS.out HY.out).mono ?_
                        rintro e w5 ⟨rfl, s5⟩
                        have c36 := s5.qrep.c36
                        have c33 := s5.qrep.c33
                        have f33 := s5.qrep.fQ 33
                        rw [S3.out.2.2] at c36 c33 f33
                        rw [HS.out] at c36
                        have hd := s5.qstp (s5.qrep.cell1 33 (.int .u32 y) (by decide) (qupd_place q2 m1 y) (s5.qrep.ok.goto y HY.out) rfl rfl rfl rfl)
                        rw [S3.out.2.2] at hd
                        have S5 := Lib.hid hd
                        clear s5 hd
                        go_wp2_with fail
                        go_meet
                        case rel => exact ⟨rfl, l2, q2, { m1 with place := y }, S3.out.2.1, S3.out.2.2, S5.out.mad, rfl, rfl⟩
                      · have es : (m1.state == 0) = false := beq_eq_false_iff_ne.2 hs
                        have HS := Lib.hid hs
                        have c36 := S4.out.qrep.c36
                        rw [S3.out.2.2] at c36
                        clear hs
                        go_wp2_with fail
                        refine (S4.out.goNot S3.out.2.1 y HS.out).mono ?_
                        rintro e w5 ⟨rfl, rfl⟩
                        go_wp2_with fail
                        go_meet
                        case rel => exact ⟨rfl, l2, q2, m1, S3.out.2.1, S3.out.2.2, S4.out.mad, rfl, rfl⟩
              · have d3 : decide ((j : Int) < (np : Int)) = false := by simp; omega
                go_wp2_with fail
                go_meet
                case rel => exact ⟨rfl, l2, q2, m1, S3.out.2.1, S3.out.2.2, S3.out.1.mad, rfl, rfl⟩
            case rest =>
              obtain ⟨rfl, l5, q5, m5, ha5, hb5, s5, e5, o5⟩ := hcut
              have S5 := Lib.hid (And.intro s5 (And.intro e5 o5))
              have H5 := Lib.hid (And.intro ha5 hb5)
              have hol : m5.out.length ≤ 1000000 := by rw [o5]; have := HR.out.2.2.2.2.2.1; omega
              have HOL := Lib.hid hol
              clear s5 e5 o5 ha5 hb5 hol
              go_wp2_with fail
              refine (alike_at S5.out.1 HE.out H5.out.1 H5.out.2 HOL.out).mono ?_
              rintro e w6 ⟨rfl, s6⟩
              have S6 := Lib.hid s6
              clear s6
              go_wp2_with fail
              go_roundw
              case rel => exact ⟨j + 1, l5, q5, m5, by go_num, h1, h2, H5.out.1, H5.out.2, S6.out, by rw [S5.out.2.1]; exact HR.out.2.2.2.2.1, by rw [S5.out.2.2]; exact HR.out.2.2.2.2.2.1⟩
              case measure => simp [intOf]; omega
        · have he : j = 8 := by omega
          subst he
          go_wp2_with fail
          refine (works_any _ (HE.out.below T.out.1.below)).mono ?_
          rintro e wz ⟨rfl, hb⟩
          have HZ2 := Lib.hid (T.out.1.below.trans (hb.mono T.out.1.below.size))
          clear hb
          go_wp2_with fail
          go_ret
          exact ⟨rfl, HZ2.out⟩
      · have he : j = L := by omega
        subst he
        have d1 : decide ((j : Int) < (j : Int)) = false := by simp
        go_wp2_with fail
        refine (works_any _ (HE.out.below T.out.1.below)).mono ?_
        rintro e wz ⟨rfl, hb⟩
        have HZ2 := Lib.hid (T.out.1.below.trans (hb.mono T.out.1.below.size))
        clear hb
        go_wp2_with fail
        go_ret
        exact ⟨rfl, HZ2.out⟩
end Go.Proofs.YtknnmacmohpanaaDoor
