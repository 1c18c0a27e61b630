/- Contracts: how many bytes may be handed in. Conditions: none. -/
import Derived.Test.YtgnnkfdpfmlajaaDoorUtP
import Derived.Test.YtgnnkfdpfmlajaaDoorLxZa
namespace Go.Proofs.YtgnnkfdpfmlajaaDoor
open Go.RowKit Bg Lx
set_option linter.unusedVariables false
set_option linter.unusedSimpArgs false

/-- Bytes that are handed in are no more than can be reached. -/
theorem bytes_sized {H : Type} {enc : TypeId × Value → H} {w : World} {base : Nat} {sp : Nat → Bool} {held : Bool} {q : Option Addr} {n c : Nat} {d : DataW H} {p : List MemPlace}
    (h : DataW.Trod enc Tryd.prog w base sp held 22 (.slice q n c) d p) (hw : ∀ m, m ∈ d.weights Tryd.prog 22 → m ≤ reachBytes) : n ≤ 281474976710656 := by
  obtain ⟨fuel, hf⟩ := h
  rcases DataW.trod_slice Tryd.underlying22 hf with ⟨h0, -⟩ | ⟨a', len', cap', elems, rest, m, -, hcs, hx, -, hl, hm, hlen, hel, -, -⟩
  · have h0' : [Value.slice q n c] = [Value.slice none 0 0] := h0
    simp only [List.cons.injEq, Value.slice.injEq, and_true] at h0'
    omega
  · have h0' : [Value.slice q n c] = [Value.slice (some a') len' cap'] := hcs
    simp only [List.cons.injEq, Value.slice.injEq, and_true] at h0'
    obtain ⟨rfl, rfl, rfl⟩ := h0'
    have hd : d = .slice (elems.map (·.1)) (rest.map (·.1)) := congrArg Prod.fst hx
    have hb : Tryd.prog.bytesOf 5 = 1 := by kernel_rfl
    have hle := hw (((elems.map (·.1)).length + (rest.map (·.1)).length) * Tryd.prog.bytesOf 5) (by
      rw [hd]
      unfold DataW.weights
      rw [Tryd.underlying22]
      exact List.mem_cons_self)
    rw [hb, List.length_map, List.length_map] at hle
    unfold reachBytes at hle
    omega
end Go.Proofs.YtgnnkfdpfmlajaaDoor
