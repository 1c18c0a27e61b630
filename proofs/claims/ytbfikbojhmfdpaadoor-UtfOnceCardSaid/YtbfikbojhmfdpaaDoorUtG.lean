/- Contracts: the document's chars of a text, and the text of chars. Conditions: at most 2000 bytes or chars. -/
import Derived.Test.YtbfikbojhmfdpaaDoorUtF
import Derived.Lib.ConvBytes
namespace Go.Proofs.YtbfikbojhmfdpaaDoor
open Go.RowKit Bg
set_option linter.unusedVariables false
set_option linter.unusedSimpArgs false


/-- The bytes of a text, as numbers. -/
def byL (s : ByteArray) : List Int := s.data.toList.map fun b => (b.toNat : Int)
theorem byL_len (s : ByteArray) : (byL s).length = s.size := by
  unfold byL
  rw [List.length_map, Array.length_toList]; rfl
theorem byL_byts (s : ByteArray) : Byts (byL s) := fun x hx => by
  obtain ⟨b, -, rfl⟩ := List.mem_map.1 hx
  have := UInt8.toNat_lt b
  omega
theorem str_byL (s : ByteArray) : strOfNums (byL s) = s := by
  unfold strOfNums byL
  rw [List.map_map]
  have : (s.data.toList.map ((fun n : Int => UInt8.ofNat n.toNat) ∘ fun b : UInt8 => (b.toNat : Int))) = s.data.toList := by
    conv => rhs; rw [← List.map_id s.data.toList]
    refine List.map_congr_left fun x _ => ?_
    simp [Function.comp]
  rw [this]
theorem byL_str {l : List Int} (h : Byts l) : byL (strOfNums l) = l := str_inj (byL_byts _) h (by rw [str_byL])
theorem str_size (l : List Int) : (strOfNums l).size = l.length := strOfNums_size l
theorem conv_str {l : List Int} (hb : Byts l) (hl : l.length ≤ 1000000) (w : World) : ∃ c w', (convert 9 22 (.string (strOfNums l))).run Tryd.prog w = .ok (.slice (some ⟨w.heap.size, 0, none⟩) l.length c) w' ∧ Arg .u8 w' (some ⟨w.heap.size, 0, none⟩) c l ∧ Below w.heap.size w w' := by
  have hr := Lib.run_convert_string_bytes w 9 22 5 (strOfNums l) Tryd.underlying9 Tryd.underlying22 Tryd.underlying5
  have hs : (strOfNums l).size = l.length := str_size l
  rw [hs] at hr
  refine ⟨_, _, hr, ⟨fun h => (by cases h), by have := grownCap_ge w l.length 0 5; omega, by have := grownCap_le_maxLen w l.length 0 5 (by unfold maxLen; omega); unfold maxLen at this; omega, fun i hi => ⟨w.heap.size, 0, rfl, ?_⟩⟩, ?_⟩
  · rw [Nat.zero_add, Lib.bytesWorld_cell w 5 (strOfNums l) i (by omega)]
    have e : byL (strOfNums l) = l := byL_str hb
    have e2 : l.getD i 0 = ((strOfNums l).data.toList.getD i 0).toNat := by
      conv => lhs; rw [← e]
      unfold byL
      have hl : i < (strOfNums l).data.toList.length := by rw [Array.length_toList]; exact Nat.lt_of_lt_of_eq hi hs.symm
      rw [List.getD_eq_getElem?_getD, List.getD_eq_getElem?_getD, List.getElem?_map, List.getElem?_eq_getElem hl]
      rfl
    rw [e2]
  · refine ⟨rfl, rfl, rfl, by rw [Lib.bytesWorld_size]; omega, fun k hk => Lib.bytesWorld_at_old _ _ _ _ hk⟩
theorem split_of_end {rest : List Int} : (aE rest = 0 ↔ rest = []) := by
  unfold aE
  by_cases h : rest = []
  · rw [if_pos h]; exact ⟨fun _ => h, fun _ => rfl⟩
  · rw [if_neg h]; exact ⟨fun h1 => by omega, fun h1 => absurd h1 h⟩
def CodesIs (B : Nat) (w' : World) (l : List Int) (v : Value) (e : Int) : Prop := ∃ cs rest, Split l cs rest ∧ e = aE rest ∧ Own 3 .i64 B w' v (aL cs rest)
theorem split_len {l cs rest : List Int} (h : Split l cs rest) : cs.length ≤ l.length := by
  have h1 := congrArg List.length h.eq
  have h2 := flat_len cs
  rw [List.length_append] at h1
  omega
theorem take_snoc (l : List Int) (k : Nat) (hk : k < l.length) : l.take (k + 1) = l.take k ++ [l.getD k 0] := by
  rw [List.take_add_one, List.getElem?_eq_getElem hk, List.getD_eq_getElem?_getD, List.getElem?_eq_getElem hk]
  rfl
set_option maxRecDepth 100000 in
set_option maxHeartbeats 20000000 in
theorem rcodes_at {l : List Int} (hb : Byts l) (hl : l.length ≤ 2000) (w : World) :
    Calls Tryd.prog 20 #[.string (strOfNums l)] w fun e w' => ∃ v x, e = .returned (.tuple #[v, .int .i64 x]) ∧ CodesIs w.heap.size w' l v x ∧ Below w.heap.size w w' := by
  obtain ⟨c0, w0, hcv, a0, b0⟩ := conv_str hb (by omega) w
  have T := Lib.hid (rall_at a0 hb hl)
  have HH := Lib.hid (And.intro b0 hl)
  obtain ⟨s, hs⟩ : ∃ s, s = strOfNums l := ⟨_, rfl⟩
  rw [← hs] at hcv ⊢
  obtain ⟨L, hL⟩ : ∃ L, L = l.length := ⟨_, rfl⟩
  rw [← hL] at hcv T
  have HL := Lib.hid hL
  clear hs hb hl a0 b0 hL
  go_enter Tryd.func20, Tryd.ntmps20
  go_wp2_with fail
  refine T.out.mono ?_
  rintro e w1 ⟨v, x, y, rfl, ⟨cs, rest, hsp, rfl, rfl, hr⟩, b1⟩
  by_cases h0 : rest = []
  · subst h0
    have ha : aE [] = 0 := by simp [aE]
    have hp : aP l [] = 0 := by simp [aP]
    have hq : aL cs [] = cs := by simp [aL]
    rw [hq] at hr
    rw [ha, hp]
    obtain ⟨p, c, rfl⟩ := hr.shape
    have hcs := split_len hsp
    have HX := Lib.hid (And.intro (HH.out.1.trans (b1.mono HH.out.1.size)) (And.intro hsp @hr.below))
    have hcl : cs.length ≤ 2000 := by have := HH.out.2; omega
    have hat := fun h => (hr.at h)
    obtain ⟨M, hM⟩ : ∃ M, M = cs.length := ⟨_, rfl⟩
    rw [← hM] at hcl hat ⊢
    have HM := Lib.hid hM
    replace hat := Lib.hid hat
    clear hM b1 hsp hr hq hp ha hcs
    go_wp2_with fail
    go_loopw [7, 8] (fun u t wr => ∃ i : Nat, t = .int .i64 i ∧ i ≤ M ∧ Hid (Own 3 .i64 w1.heap.size wr u (cs.take i) ∧ Below w1.heap.size w1 wr)) (fun _ t _ => M - (intOf t).toNat)
    case atStart => exact ⟨0, rfl, Nat.zero_le _, Lib.hid ⟨Own.nil _ _ _ _, Below.refl _ _⟩⟩
    case round =>
      obtain ⟨i, rfl, hi, HI⟩ := hrel
      by_cases hlt : i < M
      · have d1 : decide ((i : Int) < (M : Int)) = true := by rw [decide_eq_true_eq]; omega
        have f1 : (i : Int) < (M : Int) := by omega
        obtain ⟨hn, g, hg, hnc, hcm, hcell⟩ := hat.out (by omega)
        subst hg
        have hc0 := (hcell i hlt).1
        have hc1 : wr.cell? ⟨g, i * 2, none⟩ = some (.int .i64 (cs.getD i 0)) := (HI.out.2.cell (World.block_lt_of_cell? w1 _ hc0)).trans hc0
        clear hcell hn hc0
        obtain ⟨x, hx⟩ : ∃ x, x = cs.getD i 0 := ⟨_, rfl⟩
        have hsn := take_snoc cs i (by have := HM.out; omega)
        rw [← hx] at hc1 hsn
        have HS := Lib.hid hsn
        clear hsn hx
        obtain ⟨v2, w2, hr2, ho2, hb2⟩ := app_two ktI (x := x) HI.out.1 (by rw [List.length_take]; omega) HI.out.2.size
        have HR := Lib.hid (And.intro hr2 (And.intro ho2 (HI.out.2.trans hb2)))
        clear hr2 ho2 hb2
        go_wp2_with (at_builtin; go_loud (refine Lib.wpList_append_run _ rfl _ _ 36 36 rfl u7 (.slice (some ⟨wr.heap.size, 0, none⟩) 1 1) rfl rfl v2 w2 HR.out.1 ?_))
        go_roundw
        case rel => exact ⟨i + 1, rfl, by omega, Lib.hid ⟨by rw [HS.out]; exact HR.out.2.1, HR.out.2.2⟩⟩
        case measure => simp only [intOf]; omega
      · have d1 : decide ((i : Int) < (M : Int)) = false := by rw [decide_eq_false_iff_not]; omega
        have f1 : ¬ (i : Int) < (M : Int) := by omega
        go_wp2_with fail
        go_ret2
        refine ⟨_, _, rfl, ⟨cs, [], HX.out.2.1, by simp [aE], ?_⟩, HX.out.1.trans (HI.out.2.mono HX.out.1.size)⟩
        have he : i = cs.length := by have := HM.out; omega
        have := HI.out.1
        rw [he, List.take_length] at this
        unfold aL
        rw [if_pos rfl]
        exact this.base HX.out.1.size
  · have ha : aE rest = 4 := by simp [aE, h0]
    have HX := Lib.hid (And.intro (HH.out.1.trans (b1.mono HH.out.1.size)) hsp)
    rw [ha]
    clear hr hsp b1
    go_wp2_with fail
    go_ret2
    refine ⟨_, _, rfl, ⟨cs, rest, HX.out.2, ha.symm, ?_⟩, HX.out.1⟩
    unfold aL
    rw [if_neg h0]
    exact Own.nil _ _ _ _
end Go.Proofs.YtbfikbojhmfdpaaDoor
