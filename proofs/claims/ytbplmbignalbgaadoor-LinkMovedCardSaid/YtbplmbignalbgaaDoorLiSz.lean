/- No label of items that are handed in is longer than what can be reached.  Conditions: none. -/
import Derived.Test.YtbplmbignalbgaaDoorAsCb
import Derived.Lib.Strings
namespace Go.Proofs.YtbplmbignalbgaaDoor
open Go.ChangeShapes Go.WideShapes Go.RowKit Asm
set_option linter.unusedVariables false
set_option linter.unusedSimpArgs false
set_option maxRecDepth 100000

theorem weightsAll_mem {H : Type} {P : Program} {e : TypeId} {n : Nat} : ∀ {l : List (DataW H)} {d : DataW H}, d ∈ l → n ∈ d.weights P e → n ∈ DataW.weightsAll P e l
  | [], d, h, _ => by simp at h
  | x :: r, d, h, hn => by
    unfold DataW.weightsAll
    rcases List.mem_cons.1 h with rfl | h
    · exact List.mem_append_left _ hn
    · exact List.mem_append_right _ (weightsAll_mem h hn)
theorem item_weight {H : Type} {enc : TypeId × Value → H} {w : World} {base : Nat} {sp : Nat → Bool} {held : Bool} {fuel : Nat} {cs : List Value} {x : DataW H × List MemPlace} (hl : cs.length = 8)
    (h : DataW.trod enc Tryd.prog w base sp held fuel 40 cs = some x) : ∃ s : ByteArray, cs[6]? = some (.string s) ∧ s.size ∈ x.1.weights Tryd.prog 40 := by
  match cs, hl with
  | [c0, c1, c2, c3, c4, c5, c6, c7], _ =>
    obtain ⟨xs, n, _, hx, _, hlen, hg⟩ := DataW.trod_struct Tryd.underlying40 h
    match xs, hlen with
    | [y0, y1, y2, y3], _ =>
      have g2 : DataW.trod enc Tryd.prog w base sp held n 9 ((List.drop 6 [c0, c1, c2, c3, c4, c5, c6, c7]).take (Tryd.prog.cellsOf 9)) = some y2 := hg 2 _ rfl
      rw [isize9] at g2
      obtain ⟨s6, e6, hy2, -⟩ := DataW.trod_string Tryd.underlying9 g2
      have f6 : [c6] = [Value.string s6] := e6
      refine ⟨s6, by rw [← List.cons.inj f6 |>.1]; rfl, ?_⟩
      rw [hx]
      show s6.size ∈ DataW.weights Tryd.prog 40 (.agg [y0.1, y1.1, y2.1, y3.1])
      unfold DataW.weights
      rw [Tryd.underlying40]
      show s6.size ∈ y0.1.weights Tryd.prog 3 ++ (y1.1.weights Tryd.prog 37 ++ (y2.1.weights Tryd.prog 9 ++ _))
      refine List.mem_append_right _ (List.mem_append_right _ (List.mem_append_left _ ?_))
      rw [hy2]
      show s6.size ∈ [s6.data.toList.length]
      rw [Lib.size_eq]
      exact List.mem_singleton.2 rfl
theorem items_sized {H : Type} {enc : TypeId × Value → H} {w : World} {base : Nat} {sp : Nat → Bool} {held : Bool} {q : Option Addr} {n c : Nat} {X : Nat → It} {d : DataW H} {p : List MemPlace}
    (h : DataW.Trod enc Tryd.prog w base sp held 25 (.slice q n c) d p) (hw : ∀ m, m ∈ d.weights Tryd.prog 25 → m ≤ reachBytes) (hi : Items w q n c X) : ∀ i, i < n → (X i).lab.size ≤ 281474976710656 := by
  intro i hin
  obtain ⟨fuel, hf⟩ := h
  rcases DataW.trod_slice Tryd.underlying25 hf with ⟨h0, -⟩ | ⟨a', len', cap', elems, rest, m, -, hcs, hx, -, hl, hm, hlen, hel, -, -⟩
  · have h0' : [Value.slice q n c] = [Value.slice none 0 0] := h0
    simp only [List.cons.injEq, Value.slice.injEq, and_true] at h0'
    omega
  · have h0' : [Value.slice q n c] = [Value.slice (some a') len' cap'] := hcs
    simp only [List.cons.injEq, Value.slice.injEq, and_true] at h0'
    obtain ⟨rfl, rfl, rfl⟩ := h0'
    have hb' := hel i hin
    rw [isize44] at hb'
    rw [List.getElem?_eq_getElem (by omega), Option.bind_eq_some_iff] at hb'
    obtain ⟨cs', hcs', ht⟩ := hb'
    obtain ⟨-, hl8, hcell⟩ := World.cells?_some hcs'
    obtain ⟨s, hs, hmem⟩ := item_weight hl8 ht
    have hc6 := hcell 6 (by decide)
    obtain ⟨b, off, hp, hc⟩ := hi.cell (by omega)
    cases hp
    have hx6 := hc i hin 6 (by decide)
    rw [Addr.add_mid, Addr.add_mid] at hc6
    rw [hc6, hs] at hx6
    have hlab : s = (X i).lab := by
      have : some (Value.string s) = some (Value.string (X i).lab) := hx6
      simpa using this
    rw [← hlab]
    have hd : d = .slice (elems.map (·.1)) (rest.map (·.1)) := congrArg Prod.fst hx
    have hle := hw s.size (by
      rw [hd]
      unfold DataW.weights
      rw [Tryd.underlying25]
      refine List.mem_cons_of_mem _ (List.mem_append_left _ ?_)
      exact weightsAll_mem (List.mem_map_of_mem (List.getElem_mem (by omega))) hmem)
    unfold reachBytes at hle
    omega
end Go.Proofs.YtbplmbignalbgaaDoor
