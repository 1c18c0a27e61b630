/- An argument that is a row of items; the document's and the program's readings of it stay. Conditions: none. -/
import Derived.Test.YtbplmbignalbgaaDoorAsCa
import Derived.Test.YtbplmbignalbgaaDoorAsX
import Derived.OpenShut
import Derived.Carry
namespace Go.Proofs.YtbplmbignalbgaaDoor
open Go.ChangeShapes Go.WideShapes Go.RowKit Asm
set_option linter.unusedVariables false
set_option linter.unusedSimpArgs false

set_option maxRecDepth 100000
theorem isize44 : Tryd.prog.cellsOf 40 = 8 := by kernel_rfl
theorem isize41 : Tryd.prog.cellsOf 37 = 5 := by kernel_rfl
theorem isize3 : Tryd.prog.cellsOf 3 = 1 := by kernel_rfl
theorem isize9 : Tryd.prog.cellsOf 9 = 1 := by kernel_rfl
theorem isize42 : Tryd.prog.cellsOf 38 = 1 := by kernel_rfl
theorem bounds_u32 {n : Int} (h : (Lit.int .u32 n).wf = true) : 0 ≤ n ∧ n < 4294967296 := by
  simp only [Lit.wf, Bool.and_eq_true, decide_eq_true_eq] at h
  have e1 : IntKind.u32.min = 0 := rfl
  have e2 : IntKind.u32.max = 4294967295 := rfl
  omega
theorem item_cells {H : Type} {enc : TypeId × Value → H} {w : World} {base : Nat} {sp : Nat → Bool} {held : Bool} {fuel : Nat} {cs : List Value} {x : DataW H × List MemPlace} (hl : cs.length = 8)
    (h : DataW.trod enc Tryd.prog w base sp held fuel 40 cs = some x) : ∃ y : It, cs = [.int .i64 y.kind, .int .i64 y.op, .int .i64 y.d, .int .i64 y.a, .int .i64 y.b, .int .i64 y.imm, .string y.lab, .int .u32 y.word] ∧ (0 ≤ y.word ∧ y.word < 4294967296) ∧ y.lab.size ≤ maxLen := by
  match cs, hl with
  | [c0, c1, c2, c3, c4, c5, c6, c7], _ =>
    obtain ⟨xs, n, _, hx, _, hlen, hg⟩ := DataW.trod_struct Tryd.underlying40 h
    match xs, hlen with
    | [y0, y1, y2, y3], _ =>
      have g0 : DataW.trod enc Tryd.prog w base sp held n 3 ((List.drop 0 [c0, c1, c2, c3, c4, c5, c6, c7]).take (Tryd.prog.cellsOf 3)) = some y0 := hg 0 _ rfl
      have g1 : DataW.trod enc Tryd.prog w base sp held n 37 ((List.drop 1 [c0, c1, c2, c3, c4, c5, c6, c7]).take (Tryd.prog.cellsOf 37)) = some y1 := hg 1 _ rfl
      have g2 : DataW.trod enc Tryd.prog w base sp held n 9 ((List.drop 6 [c0, c1, c2, c3, c4, c5, c6, c7]).take (Tryd.prog.cellsOf 9)) = some y2 := hg 2 _ rfl
      have g3 : DataW.trod enc Tryd.prog w base sp held n 38 ((List.drop 7 [c0, c1, c2, c3, c4, c5, c6, c7]).take (Tryd.prog.cellsOf 38)) = some y3 := hg 3 _ rfl
      rw [isize3] at g0
      rw [isize41] at g1
      rw [isize9] at g2
      rw [isize42] at g3
      obtain ⟨n0, e0, -, -⟩ := DataW.trod_int Tryd.underlying3 g0
      obtain ⟨s6, e6, -, w6⟩ := DataW.trod_string Tryd.underlying9 g2
      obtain ⟨n7, e7, -, w7⟩ := DataW.trod_int Tryd.underlying38 g3
      have g1' : DataW.trod enc Tryd.prog w base sp held n 37 [c1, c2, c3, c4, c5] = some y1 := g1
      obtain ⟨zs, m, _, hz, _, hzl, hzg⟩ := DataW.trod_struct Tryd.underlying37 g1'
      match zs, hzl with
      | [z0, z1, z2, z3, z4], _ =>
        have k0 : DataW.trod enc Tryd.prog w base sp held m 3 ((List.drop 0 [c1, c2, c3, c4, c5]).take (Tryd.prog.cellsOf 3)) = some z0 := hzg 0 _ rfl
        have k1 : DataW.trod enc Tryd.prog w base sp held m 3 ((List.drop 1 [c1, c2, c3, c4, c5]).take (Tryd.prog.cellsOf 3)) = some z1 := hzg 1 _ rfl
        have k2 : DataW.trod enc Tryd.prog w base sp held m 3 ((List.drop 2 [c1, c2, c3, c4, c5]).take (Tryd.prog.cellsOf 3)) = some z2 := hzg 2 _ rfl
        have k3 : DataW.trod enc Tryd.prog w base sp held m 3 ((List.drop 3 [c1, c2, c3, c4, c5]).take (Tryd.prog.cellsOf 3)) = some z3 := hzg 3 _ rfl
        have k4 : DataW.trod enc Tryd.prog w base sp held m 3 ((List.drop 4 [c1, c2, c3, c4, c5]).take (Tryd.prog.cellsOf 3)) = some z4 := hzg 4 _ rfl
        rw [isize3] at k0 k1 k2 k3 k4
        obtain ⟨n1, e1, -, -⟩ := DataW.trod_int Tryd.underlying3 k0
        obtain ⟨n2, e2, -, -⟩ := DataW.trod_int Tryd.underlying3 k1
        obtain ⟨n3, e3, -, -⟩ := DataW.trod_int Tryd.underlying3 k2
        obtain ⟨n4, e4, -, -⟩ := DataW.trod_int Tryd.underlying3 k3
        obtain ⟨n5, e5, -, -⟩ := DataW.trod_int Tryd.underlying3 k4
        have f0 : [c0] = [Value.int .i64 n0] := e0
        have f1 : [c1] = [Value.int .i64 n1] := e1
        have f2 : [c2] = [Value.int .i64 n2] := e2
        have f3 : [c3] = [Value.int .i64 n3] := e3
        have f4 : [c4] = [Value.int .i64 n4] := e4
        have f5 : [c5] = [Value.int .i64 n5] := e5
        have f6 : [c6] = [Value.string s6] := e6
        have f7 : [c7] = [Value.int .u32 n7] := e7
        refine ⟨⟨n0, n1, n2, n3, n4, n5, s6, n7⟩, ?_, bounds_u32 w7, w6⟩
        rw [List.cons.inj f0 |>.1, List.cons.inj f1 |>.1, List.cons.inj f2 |>.1, List.cons.inj f3 |>.1, List.cons.inj f4 |>.1, List.cons.inj f5 |>.1, List.cons.inj f6 |>.1, List.cons.inj f7 |>.1]
theorem items_open {H : Type} {enc : TypeId × Value → H} {w : World} {base : Nat} {sp : Nat → Bool} {held : Bool} {r : Reach} {b0 : Nat} {v : Value} {d : DataW H} {p : List MemPlace}
    (hv : Value.okWide Tryd.prog w r b0 25 v) (h : DataW.Trod enc Tryd.prog w base sp held 25 v d p) :
    ∃ (p : Option Addr) (n c : Nat) (X : Nat → It), v = .slice p n c ∧ Items w p n c X := by
  obtain ⟨a, len, cap, rfl⟩ := okWide_slice Tryd.underlying25 hv
  obtain ⟨fuel, hf⟩ := h
  rcases DataW.trod_slice Tryd.underlying25 hf with ⟨h0, -⟩ | ⟨a', len', cap', elems, rest, n, -, hcs, -, -, hl, hm, hlen, hel, -, -⟩
  · have k0 : [Value.slice a len cap] = [Value.slice none 0 0] := h0
    have k1 := (List.cons.inj k0).1
    rw [k1]
    exact ⟨none, 0, 0, fun _ => default, rfl, fun _ => ⟨rfl, rfl⟩, Nat.le_refl _, by decide, fun h => absurd h (Nat.lt_irrefl _), fun i hi => absurd hi (Nat.not_lt_zero _), fun i hi => absurd hi (Nat.not_lt_zero _)⟩
  · have k0 : [Value.slice a len cap] = [Value.slice (some a') len' cap'] := hcs
    have k1 := (List.cons.inj k0).1
    rw [k1]
    have key : ∀ i, ∃ y : It, i < len' → (∀ k, k < 8 → w.cell? ((a'.add (i * 8)).add k) = some (icell y k)) ∧ (0 ≤ y.word ∧ y.word < 4294967296) ∧ y.lab.size ≤ maxLen := by
      intro i
      by_cases hi : i < len'
      · have hb' := hel i hi
        rw [isize44] at hb'
        rw [List.getElem?_eq_getElem (by omega), Option.bind_eq_some_iff] at hb'
        obtain ⟨cs', hcs', ht⟩ := hb'
        obtain ⟨-, hl8, hcell⟩ := World.cells?_some hcs'
        obtain ⟨y, rfl, h1, h2⟩ := item_cells hl8 ht
        refine ⟨y, fun _ => ⟨fun k hk => ?_, h1, h2⟩⟩
        rw [hcell k hk]
        rcases (show k = 0 ∨ k = 1 ∨ k = 2 ∨ k = 3 ∨ k = 4 ∨ k = 5 ∨ k = 6 ∨ k = 7 by omega) with rfl | rfl | rfl | rfl | rfl | rfl | rfl | rfl <;> rfl
      · exact ⟨default, fun h => absurd h hi⟩
    obtain ⟨X, hX⟩ : ∃ X : Nat → It, ∀ i, i < len' → (∀ k, k < 8 → w.cell? ((a'.add (i * 8)).add k) = some (icell (X i) k)) ∧ (0 ≤ (X i).word ∧ (X i).word < 4294967296) ∧ (X i).lab.size ≤ maxLen := ⟨fun i => Classical.choose (key i), fun i => Classical.choose_spec (key i)⟩
    refine ⟨some a', len', cap', X, rfl, fun h => (by cases h), hl, by unfold maxLen at hm; omega, fun hn => ?_, fun i hi => (hX i hi).2.1, fun i hi => (hX i hi).2.2⟩
    obtain ⟨b, off, spot⟩ := a'
    have h0 := (hX 0 hn).1 0 (by decide)
    have hspot : spot = none := by simpa [Addr.add] using World.cell?_spot h0
    subst hspot
    refine ⟨b, off, rfl, fun i hi k hk => ?_⟩
    have hx := (hX i hi).1 k hk
    rwa [Addr.add_mid, Addr.add_mid] at hx
theorem readable22 : Tryd.prog.readableRec 25 = true := by kernel_rfl
theorem row22 : 25 < Tryd.prog.types.size := of_decide_eq_true (by kernel_rfl)
end Go.Proofs.YtbplmbignalbgaaDoor
