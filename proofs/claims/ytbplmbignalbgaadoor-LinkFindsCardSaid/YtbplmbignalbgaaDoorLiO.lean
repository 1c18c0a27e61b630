/- An argument that is a row of objects.  Conditions: none. -/
import Derived.Test.YtbplmbignalbgaaDoorAsCb
import Derived.Test.YtbplmbignalbgaaDoorLiP
namespace Go.Proofs.YtbplmbignalbgaaDoor
open Go.ChangeShapes Go.WideShapes Go.RowKit Asm
set_option linter.unusedVariables false
set_option linter.unusedSimpArgs false
set_option maxRecDepth 100000

theorem osize49 : Tryd.prog.cellsOf 49 = 2 := by kernel_rfl
theorem osize25 : Tryd.prog.cellsOf 25 = 1 := by kernel_rfl
theorem items_trod {H : Type} {enc : TypeId × Value → H} {w : World} {base : Nat} {sp : Nat → Bool} {held : Bool} {fuel : Nat} {v : Value} {x : DataW H × List MemPlace} (h : DataW.trod enc Tryd.prog w base sp held fuel 25 [v] = some x) :
    ∃ (p : Option Addr) (n c : Nat) (X : Nat → It), v = .slice p n c ∧ Items w p n c X := by
  rcases DataW.trod_slice Tryd.underlying25 h with ⟨h0, -⟩ | ⟨a', len', cap', elems, rest, n, -, hcs, -, -, hl, hm, hlen, hel, -, -⟩
  · have k1 := (List.cons.inj h0).1
    rw [k1]
    exact ⟨none, 0, 0, fun _ => default, rfl, fun _ => ⟨rfl, rfl⟩, Nat.le_refl _, by decide, fun h => absurd h (Nat.lt_irrefl _), fun i hi => absurd hi (Nat.not_lt_zero _), fun i hi => absurd hi (Nat.not_lt_zero _)⟩
  · have k1 := (List.cons.inj hcs).1
    rw [k1]
    have key : ∀ i, ∃ y : It, i < len' → (∀ k, k < 8 → w.cell? ((a'.add (i * 8)).add k) = some (icell y k)) ∧ (0 ≤ y.word ∧ y.word < 4294967296) ∧ y.lab.size ≤ maxLen := by
      intro i
      by_cases hi : i < len'
      · have hb' := hel i hi
        rw [isize44] at hb'
        rw [List.getElem?_eq_getElem (by omega), Option.bind_eq_some_iff] at hb'
        obtain ⟨cs', hcs', ht⟩ := hb'
        obtain ⟨-, hl8, hcell⟩ := World.cells?_some hcs'
        obtain ⟨y, rfl, h1, h2⟩ := item_cells hl8 ht
        refine ⟨y, fun _ => ⟨fun k hk => ?_, h1, h2⟩⟩
        rw [hcell k hk]
        rcases (show k = 0 ∨ k = 1 ∨ k = 2 ∨ k = 3 ∨ k = 4 ∨ k = 5 ∨ k = 6 ∨ k = 7 by omega) with rfl | rfl | rfl | rfl | rfl | rfl | rfl | rfl <;> rfl
      · exact ⟨default, fun h => absurd h hi⟩
    obtain ⟨X, hX⟩ : ∃ X : Nat → It, ∀ i, i < len' → (∀ k, k < 8 → w.cell? ((a'.add (i * 8)).add k) = some (icell (X i) k)) ∧ (0 ≤ (X i).word ∧ (X i).word < 4294967296) ∧ (X i).lab.size ≤ maxLen := ⟨fun i => Classical.choose (key i), fun i => Classical.choose_spec (key i)⟩
    refine ⟨some a', len', cap', X, rfl, fun h => (by cases h), hl, by unfold maxLen at hm; omega, fun hn => ?_, fun i hi => (hX i hi).2.1, fun i hi => (hX i hi).2.2⟩
    obtain ⟨b, off, spot⟩ := a'
    have h0 := (hX 0 hn).1 0 (by decide)
    have hspot : spot = none := by simpa [Addr.add] using World.cell?_spot h0
    subst hspot
    refine ⟨b, off, rfl, fun i hi k hk => ?_⟩
    have hx := (hX i hi).1 k hk
    rwa [Addr.add_mid, Addr.add_mid] at hx
theorem range_litX (X : Nat → It) (n : Nat) {i : Nat} (hi : i < n) : litX ((List.range n).map X) i = X i := by
  unfold litX
  rw [List.getD_eq_getElem?_getD, List.getElem?_map, List.getElem?_range hi]
  rfl
theorem obj_cells {H : Type} {enc : TypeId × Value → H} {w : World} {base : Nat} {sp : Nat → Bool} {held : Bool} {fuel : Nat} {cs : List Value} {x : DataW H × List MemPlace} (hl : cs.length = 2)
    (h : DataW.trod enc Tryd.prog w base sp held fuel 49 cs = some x) : ∃ (o : Ob) (q : Option Addr) (m : Nat), cs = [.string o.name, .slice q o.items.length m] ∧ Items w q o.items.length m (litX o.items) ∧ o.name.size ≤ maxLen := by
  match cs, hl with
  | [c0, c1], _ =>
    obtain ⟨xs, n, _, hx, _, hlen, hg⟩ := DataW.trod_struct Tryd.underlying49 h
    match xs, hlen with
    | [y0, y1], _ =>
      have g0 : DataW.trod enc Tryd.prog w base sp held n 9 ((List.drop 0 [c0, c1]).take (Tryd.prog.cellsOf 9)) = some y0 := hg 0 _ rfl
      have g1 : DataW.trod enc Tryd.prog w base sp held n 25 ((List.drop 1 [c0, c1]).take (Tryd.prog.cellsOf 25)) = some y1 := hg 1 _ rfl
      rw [isize9] at g0
      rw [osize25] at g1
      obtain ⟨s0, e0, -, w0⟩ := DataW.trod_string Tryd.underlying9 g0
      have g1' : DataW.trod enc Tryd.prog w base sp held n 25 [c1] = some y1 := g1
      obtain ⟨q, k, m, X, e1, hi⟩ := items_trod g1'
      have f0 : [c0] = [Value.string s0] := e0
      refine ⟨⟨s0, (List.range k).map X⟩, q, m, ?_, ?_, w0⟩
      · rw [List.cons.inj f0 |>.1, e1]
        simp
      · have : ((List.range k).map X).length = k := by simp
        show Items w q ((List.range k).map X).length m (litX ((List.range k).map X))
        rw [this]
        exact items_congr hi fun i hi => (range_litX X k hi).symm
theorem objs_open {H : Type} {enc : TypeId × Value → H} {w : World} {base : Nat} {sp : Nat → Bool} {held : Bool} {r : Reach} {b0 : Nat} {v : Value} {d : DataW H} {p : List MemPlace}
    (hv : Value.okWide Tryd.prog w r b0 22 v) (h : DataW.Trod enc Tryd.prog w base sp held 22 v d p) :
    ∃ (p : Option Addr) (c : Nat) (L : List Ob), v = .slice p L.length c ∧ Objs w p c L := by
  obtain ⟨a, len, cap, rfl⟩ := okWide_slice Tryd.underlying22 hv
  obtain ⟨fuel, hf⟩ := h
  rcases DataW.trod_slice Tryd.underlying22 hf with ⟨h0, -⟩ | ⟨a', len', cap', elems, rest, n, -, hcs, -, -, hl, hm, hlen, hel, -, -⟩
  · have k0 : [Value.slice a len cap] = [Value.slice none 0 0] := h0
    have k1 := (List.cons.inj k0).1
    rw [k1]
    exact ⟨none, 0, [], rfl, ⟨fun _ => ⟨rfl, rfl⟩, Nat.le_refl _, by decide, fun h => absurd h (Nat.lt_irrefl _), fun i hi => absurd hi (Nat.not_lt_zero _)⟩⟩
  · have k0 : [Value.slice a len cap] = [Value.slice (some a') len' cap'] := hcs
    have k1 := (List.cons.inj k0).1
    rw [k1]
    have key : ∀ i, ∃ o : Ob, i < len' → ∃ (q : Option Addr) (m : Nat), w.cell? ((a'.add (i * 2)).add 0) = some (.string o.name) ∧ w.cell? ((a'.add (i * 2)).add 1) = some (.slice q o.items.length m) ∧ Items w q o.items.length m (litX o.items) ∧ o.name.size ≤ maxLen := by
      intro i
      by_cases hi : i < len'
      · have hb' := hel i hi
        rw [osize49] at hb'
        rw [List.getElem?_eq_getElem (by omega), Option.bind_eq_some_iff] at hb'
        obtain ⟨cs', hcs', ht⟩ := hb'
        obtain ⟨-, hl2, hcell⟩ := World.cells?_some hcs'
        obtain ⟨o, q, m, rfl, h1, h2⟩ := obj_cells hl2 ht
        exact ⟨o, fun _ => ⟨q, m, hcell 0 (by decide), hcell 1 (by decide), h1, h2⟩⟩
      · exact ⟨default, fun h => absurd h hi⟩
    obtain ⟨O, hO⟩ : ∃ O : Nat → Ob, ∀ i, i < len' → ∃ (q : Option Addr) (m : Nat), w.cell? ((a'.add (i * 2)).add 0) = some (.string (O i).name) ∧ w.cell? ((a'.add (i * 2)).add 1) = some (.slice q (O i).items.length m) ∧ Items w q (O i).items.length m (litX (O i).items) ∧ (O i).name.size ≤ maxLen := ⟨fun i => Classical.choose (key i), fun i => Classical.choose_spec (key i)⟩
    have hL : ((List.range len').map O).length = len' := by simp
    have hob : ∀ i, i < len' → ob ((List.range len').map O) i = O i := by
      intro i hi
      unfold ob
      rw [List.getD_eq_getElem?_getD, List.getElem?_map, List.getElem?_range hi]
      rfl
    refine ⟨some a', cap', (List.range len').map O, by rw [hL], fun h => (by cases h), by rw [hL]; exact hl, by unfold maxLen at hm; omega, fun hn => ?_, fun i hi => ?_⟩
    · rw [hL] at hn
      obtain ⟨b, off, spot⟩ := a'
      obtain ⟨_, _, h0, -⟩ := hO 0 hn
      have hspot : spot = none := by simpa [Addr.add] using World.cell?_spot h0
      subst hspot
      refine ⟨b, off, rfl, fun i hi => ?_⟩
      rw [hL] at hi
      obtain ⟨q, m, x0, x1, x2, -⟩ := hO i hi
      rw [Addr.add_mid, Addr.add_mid] at x0 x1
      rw [hob i hi]
      exact ⟨x0, q, m, x1, x2⟩
    · rw [hL] at hi
      rw [hob i hi]
      obtain ⟨_, _, -, -, -, h4⟩ := hO i hi
      exact h4
theorem oreadable : Tryd.prog.readableRec 22 = true := by kernel_rfl
theorem orow : 22 < Tryd.prog.types.size := of_decide_eq_true (by kernel_rfl)
end Go.Proofs.YtbplmbignalbgaaDoor
