/- Contracts: the document's chars of a text, and the text of chars. Conditions: at most 2000 bytes or chars. -/
import Derived.Test.YtgnnkfdpfmlajaaDoorUtE
import Derived.Lib.ConvBytes
namespace Go.Proofs.YtgnnkfdpfmlajaaDoor
open Go.RowKit Bg
set_option linter.unusedVariables false
set_option linter.unusedSimpArgs false


/-- The bytes of a text, as numbers. -/
def byL (s : ByteArray) : List Int := s.data.toList.map fun b => (b.toNat : Int)
theorem byL_len (s : ByteArray) : (byL s).length = s.size := by
  unfold byL
  rw [List.length_map, Array.length_toList]; rfl
theorem byL_byts (s : ByteArray) : Byts (byL s) := fun x hx => by
  obtain ⟨b, -, rfl⟩ := List.mem_map.1 hx
  have := UInt8.toNat_lt b
  omega
theorem str_byL (s : ByteArray) : strOfNums (byL s) = s := by
  unfold strOfNums byL
  rw [List.map_map]
  have : (s.data.toList.map ((fun n : Int => UInt8.ofNat n.toNat) ∘ fun b : UInt8 => (b.toNat : Int))) = s.data.toList := by
    conv => rhs; rw [← List.map_id s.data.toList]
    refine List.map_congr_left fun x _ => ?_
    simp [Function.comp]
  rw [this]
theorem byL_str {l : List Int} (h : Byts l) : byL (strOfNums l) = l := str_inj (byL_byts _) h (by rw [str_byL])
theorem str_size (l : List Int) : (strOfNums l).size = l.length := strOfNums_size l
theorem conv_str {l : List Int} (hb : Byts l) (hl : l.length ≤ 1000000) (w : World) : ∃ c w', (convert 9 22 (.string (strOfNums l))).run Tryd.prog w = .ok (.slice (some ⟨w.heap.size, 0, none⟩) l.length c) w' ∧ Arg .u8 w' (some ⟨w.heap.size, 0, none⟩) c l ∧ Below w.heap.size w w' := by
  have hr := Lib.run_convert_string_bytes w 9 22 5 (strOfNums l) Tryd.underlying9 Tryd.underlying22 Tryd.underlying5
  have hs : (strOfNums l).size = l.length := str_size l
  rw [hs] at hr
  refine ⟨_, _, hr, ⟨fun h => (by cases h), by have := grownCap_ge w l.length 0 5; omega, by have := grownCap_le_maxLen w l.length 0 5 (by unfold maxLen; omega); unfold maxLen at this; omega, fun i hi => ⟨w.heap.size, 0, rfl, ?_⟩⟩, ?_⟩
  · rw [Nat.zero_add, Lib.bytesWorld_cell w 5 (strOfNums l) i (by omega)]
    have e : byL (strOfNums l) = l := byL_str hb
    have e2 : l.getD i 0 = ((strOfNums l).data.toList.getD i 0).toNat := by
      conv => lhs; rw [← e]
      unfold byL
      have hl : i < (strOfNums l).data.toList.length := by rw [Array.length_toList]; exact Nat.lt_of_lt_of_eq hi hs.symm
      rw [List.getD_eq_getElem?_getD, List.getD_eq_getElem?_getD, List.getElem?_map, List.getElem?_eq_getElem hl]
      rfl
    rw [e2]
  · refine ⟨rfl, rfl, rfl, by rw [Lib.bytesWorld_size]; omega, fun k hk => Lib.bytesWorld_at_old _ _ _ _ hk⟩
end Go.Proofs.YtgnnkfdpfmlajaaDoor
