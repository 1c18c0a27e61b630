/- Contracts: a char written into a builder, and the program's Text. Conditions: at most 2000 chars. -/
import Derived.Test.YtbfikbojhmfdpaaDoorUtL
import Derived.Shelf.Strings.BuilderRune
namespace Go.Proofs.YtbfikbojhmfdpaaDoor
open Go.RowKit Bg
set_option linter.unusedVariables false
set_option linter.unusedSimpArgs false


theorem check_used (b : Nat) (w : World) (h0 : w.cell? ⟨b, 0, none⟩ = some (.pointer (some ⟨b, 0, none⟩))) :
    Calls Tryd.prog 32 #[.pointer (some ⟨b, 0, none⟩)] w fun e w' => e = .returned (.tuple #[]) ∧ w' = w := by
  obtain ⟨j, hj, _⟩ := Option.map_eq_some_iff.1 Tryd.Builder_Extra_169.toX72.sizeBuilder
  go_enter Tryd.func32, Tryd.ntmps32
  go_wp2_with fail
  rw [Lib.run_neq_ptr_same w _ Tryd.underlying64 hj]
  go_wp2_with fail
  go_end0
  exact ⟨rfl, rfl⟩
theorem check_fresh (b : Nat) (w : World) (h0 : w.cell? ⟨b, 0, none⟩ = some (.pointer none)) (hsh : w.shape? b = some (66, 2)) (hfz : w.frozen? ⟨b, 0, none⟩ = false) :
    Calls Tryd.prog 32 #[.pointer (some ⟨b, 0, none⟩)] w fun e w' => e = .returned (.tuple #[]) ∧ w' = w.setCell ⟨b, 0, none⟩ (.pointer (some ⟨b, 0, none⟩)) := by
  obtain ⟨j, hj, hjs⟩ := Option.map_eq_some_iff.1 Tryd.Builder_Extra_169.toX72.sizeBuilder
  go_enter Tryd.func32, Tryd.ntmps32
  go_wp2_with fail
  rw [Lib.run_to_unsafe w ⟨b, 0, none⟩ Tryd.underlying64 Tryd.underlying80 hj (by rw [hjs]; decide) hsh (Nat.zero_lt_succ 1)]
  simp only [Result.andThen]
  rw [Oper.upon_value]
  go_wp2_with fail
  rw [run_callFunc_extern Tryd.func35 (by kernel_rfl) (by kernel_rfl) (by kernel_rfl) (e := Extern.AbiNoEscape.same) (by kernel_rfl)]
  rw [Lib.run_noEscape]
  simp only [Result.andThen]
  rw [Oper.upon_value]
  go_wp2_with fail
  rw [Lib.run_from_unsafe w ⟨b, 0, none⟩ Tryd.underlying80 Tryd.underlying64 hj hsh Tryd.Builder_Extra_169.toX72.liesBuilder]
  simp only [Result.andThen]
  rw [Oper.upon_value]
  go_wp2_with fail
  go_end0
  exact ⟨rfl, rfl⟩
theorem check_at (B b : Nat) (bs : List Value) (w : World) (h : Lib.IsBuilder 66 5 B b bs w) :
    Calls Tryd.prog 32 #[.pointer (some ⟨b, 0, none⟩)] w fun e w' => e = .returned (.tuple #[]) ∧ Lib.BuilderAt 66 5 B b (.pointer (some ⟨b, 0, none⟩)) bs w' ∧ Below B w w' := by
  rcases h with h | h
  · refine (check_fresh b w h.cell0 h.shape h.frozen0).mono ?_
    rintro e w' ⟨rfl, rfl⟩
    exact ⟨rfl, h.used _, (Below.refl B w).setCell (p := ⟨b, 0, none⟩) h.1 _⟩
  · refine (check_used b w h.cell0).mono ?_
    rintro e w' ⟨rfl, rfl⟩
    exact ⟨rfl, h, Below.refl B _⟩
set_option maxRecDepth 100000 in
set_option maxHeartbeats 4000000 in
theorem write_at (B b : Nat) (bs : List Value) (r : Int) (hr0 : -2147483648 ≤ r) (hr1 : r ≤ 2147483647) (w : World) (h : Lib.IsBuilder 66 5 B b bs w) (hlen : bs.length + 4 ≤ 1000000) (hBw : B ≤ w.heap.size) :
    Calls Tryd.prog 28 #[.pointer (some ⟨b, 0, none⟩), .int .i32 r] w fun e w' => e = .returned (.tuple #[.int .i64 (Lib.runeCells r).length, .nilIface]) ∧ Lib.IsBuilder 66 5 B b (bs ++ Lib.runeCells r) w' ∧ Below B w w' := by
  have hk4 := Lib.runeCells_le r
  go_enter Tryd.func28, Tryd.ntmps28
  go_wp2_with fail
  refine (check_at B b bs _ h).mono ?_
  rintro e w1 ⟨rfl, h1, hb1⟩
  obtain ⟨hB, v, hbk, hown, hne⟩ := h1
  obtain ⟨ao, cap, rfl⟩ : ∃ ao cap, v = .slice ao bs.length cap := by
    rcases hown.2 with ⟨hv, h0⟩ | ⟨g, cap, cur, hv, _⟩
    · exact ⟨none, 0, by rw [hv, h0]⟩
    · exact ⟨_, _, hv⟩
  have c0 : w1.cell? ⟨b, 0, none⟩ = some (.pointer (some ⟨b, 0, none⟩)) := by rw [Lib.cell_of_heap hbk]; rfl
  have c1 : w1.cell? ⟨b, 1, none⟩ = some (.slice ao bs.length cap) := by rw [Lib.cell_of_heap hbk]; rfl
  have HO := Lib.hid (And.intro hown (And.intro hbk (And.intro hb1 (And.intro hne hB))))
  clear hown hbk hb1 hne hB
  go_wp2_with fail
  refine (Tryd.utf8_AppendRune_plain B _ bs.length bs r hr0 hr1 _ HO.out.1 (by omega) (by have := HO.out.2.2.1.size; omega)).mono ?_
  rintro e w2 ⟨v', rfl, hown', o, hgrow⟩
  have hlt : b < w1.heap.size := lt_block HO.out.2.1
  have hb2 : w2.heap[b]? = some (.cells #[.pointer (some ⟨b, 0, none⟩), .slice ao bs.length cap] 66 (0, 0)) := by
    rw [hgrow.block b (by simp; omega) (fun e => HO.out.2.2.2.1 e.symm), Lib.alloc_old w1 _ b hlt]
    exact HO.out.2.1
  have d0 : w2.cell? ⟨b, 0, none⟩ = some (.pointer (some ⟨b, 0, none⟩)) := by rw [Lib.cell_of_heap hb2]; rfl
  have d1 : w2.cell? ⟨b, 1, none⟩ = some (.slice ao bs.length cap) := by rw [Lib.cell_of_heap hb2]; rfl
  have f1 : w2.frozen? ⟨b, 1, none⟩ = false := Lib.frozen_of_heap hb2 1
  obtain ⟨g, cap', rfl⟩ : ∃ g cap', v' = .slice (some ⟨g, 0, none⟩) (bs.length + (Lib.runeCells r).length) cap' := by
    rcases hown'.2 with ⟨_, h0⟩ | ⟨g, cap', cur, hv, _⟩
    · omega
    · exact ⟨g, cap', hv⟩
  go_wp2_with fail
  go_ret2
  have hb1 := HO.out.2.2.1
  refine ⟨?_, Or.inr ?_, ?_⟩
  · have e : ((bs.length : Int) + ((Lib.runeCells r).length : Int) - (bs.length : Int)) = ((Lib.runeCells r).length : Int) := by omega
    simp [e]
  · exact Lib.BuilderAt.put (T := 66) (e := 5) HO.out.2.2.2.2 hb2 (bs' := bs ++ Lib.runeCells r) (by simpa using hown') Tryd.Builder_Extra_169.neB5
  · exact ((hb1.alloc (by have := hb1.size; omega) _).grown hgrow (by have := hb1.size; simp; omega) (fun k hk => (HO.out.1.lt k hk).1)).setCell (p := ⟨b, 1, none⟩) HO.out.2.2.2.2 _
/-- The cells of bytes. -/
def bcl (l : List Int) : List Value := l.map (Value.int .u8)
theorem bcl_rune (c : Int) : Lib.runeCells c = bcl (enc c) := rfl
theorem bcl_app (a b : List Int) : bcl (a ++ b) = bcl a ++ bcl b := List.map_append
theorem bcl_len (a : List Int) : (bcl a).length = a.length := List.length_map _
theorem bcl_bytes {l : List Int} (hb : Byts l) : Lib.byteCells (l.map fun n => UInt8.ofNat n.toNat) = bcl l := by
  unfold Lib.byteCells bcl
  rw [List.map_map]
  refine List.map_congr_left fun x hx => ?_
  have := hb x hx
  simp only [Function.comp, UInt8.toNat_ofNat']
  congr 1
  omega
set_option maxRecDepth 100000 in
set_option maxHeartbeats 20000000 in
theorem text_at {w : World} {p : Option Addr} {c : Nat} {l : List Int} (a : Arg .i64 w p c l) (hl : l.length ≤ 2000) :
    Calls Tryd.prog 21 #[.slice p l.length c] w fun e w' => e = .returned (.tuple #[.string (tS l), .int .i64 (tE l)]) ∧ Below w.heap.size w w' := by
  have hle := a.le
  have hmx := a.max
  have hat := Lib.hid (fun h => a.at h)
  obtain ⟨L, hL⟩ : ∃ L, L = l.length := ⟨_, rfl⟩
  have HL := Lib.hid hL
  rw [← hL] at hl hle hat ⊢
  obtain ⟨S, hS⟩ : ∃ S, S = tS l := ⟨_, rfl⟩
  obtain ⟨E, hE⟩ : ∃ E, E = tE l := ⟨_, rfl⟩
  rw [← hS, ← hE]
  have HSE := Lib.hid (And.intro hS hE)
  obtain ⟨W, hW⟩ : ∃ W, W = w.alloc (.cells #[.pointer none, .slice none 0 0] 66) := ⟨_, rfl⟩
  obtain ⟨B, hB⟩ : ∃ B, B = w.heap.size := ⟨_, rfl⟩
  have h0 : Lib.IsBuilder 66 5 B B [] W := by rw [hW, hB]; exact Lib.fresh_isBuilder 66 5 w
  have bW : Below B w W := by rw [hW, hB]; exact (Below.refl _ _).alloc (Nat.le_refl _) _
  have HW := Lib.hid (And.intro hB (And.intro h0 (And.intro bW (by rw [hW, hB]; simp : W.heap.size = B + 1))))
  clear a hL hS hE h0 bW
  go_enter Tryd.func21, Tryd.ntmps21
  go_upto_region 2 with fail
  rw [← hW, ← hB]
  clear hW hB
  go_wp2_with fail
  go_loopw [9] (fun t wr => ∃ i : Nat, t = .int .i64 i ∧ i ≤ L ∧ Hid (Lib.IsBuilder 66 5 B B (bcl (flat (l.take i))) wr ∧ Below B w wr ∧ B ≤ wr.heap.size ∧ AllC (l.take i))) (fun t _ => L - (intOf t).toNat)
  case atStart => exact ⟨0, rfl, Nat.zero_le _, Lib.hid ⟨HW.out.2.1, HW.out.2.2.1, by have := HW.out.2.2.2; omega, fun c hc => (by cases hc)⟩⟩
  case round =>
    obtain ⟨i, rfl, hi, HI⟩ := hrel
    by_cases hlt : i < L
    · have d1 : decide ((i : Int) < (L : Int)) = true := by rw [decide_eq_true_eq]; omega
      have f1 : (i : Int) < (L : Int) := by omega
      obtain ⟨b, off, hp, hcell⟩ := hat.out (by omega)
      subst hp
      have hc0 := hcell i (by have := HL.out; omega)
      have hc1 : wr.cell? ⟨b, off + i, none⟩ = some (.int .i64 (l.getD i 0)) := (HI.out.2.1.cell (by rw [HW.out.1]; exact World.block_lt_of_cell? w _ hc0)).trans hc0
      clear hcell hc0
      obtain ⟨x, hx⟩ : ∃ x, x = l.getD i 0 := ⟨_, rfl⟩
      have hsn := take_snoc l i (by have := HL.out; omega)
      rw [← hx] at hc1 hsn
      have HS := Lib.hid (And.intro hsn hx)
      clear hsn hx
      have T := is_at x wr
      have hws : IntKind.i64.wrap ((i : Int) + 1) = (i : Int) + 1 := by rw [wrap_small _ (by omega) (by omega)]
      cases hI : isC x with
      | false =>
        rw [hI] at T
        replace T := Lib.hid T
        go_wp2_with (go_at_call 14; refine T.out.mono ?_; rintro e w' ⟨rfl, rfl⟩)
        go_ret2
        have hbad := t_bad (bad_at (i := i) (l := l) (by have := HL.out; omega) (by rw [← HS.out.2]; exact hI))
        refine ⟨?_, by rw [← HW.out.1]; exact HI.out.2.1⟩
        rw [HSE.out.1, HSE.out.2, hbad.1, hbad.2]
        rfl
      | true =>
        rw [hI] at T
        replace T := Lib.hid T
        have hxb := isC_iff.1 hI
        have hfl := (flat_len (l.take i)).2
        rw [List.length_take] at hfl
        have T2 := Lib.hid (write_at B B _ x (by omega) (by omega) wr HI.out.1 (by rw [bcl_len]; omega) HI.out.2.2.1)
        have hw32 := wrap32_id (c := x) (by omega)
        have HX := Lib.hid hI
        clear hI hfl hxb
        go_wp2_with (first
          | (go_at_call 14; refine T.out.mono ?_; rintro e w' ⟨rfl, rfl⟩)
          | (go_at_call 28; refine T2.out.mono ?_; rintro e w1 ⟨rfl, hz, hb⟩; have HZ := Lib.hid (And.intro hz hb); clear hz hb))
        go_roundw
        case rel => exact ⟨i + 1, rfl, by omega, Lib.hid ⟨by rw [HS.out.1, flat_snoc, bcl_app, ← bcl_rune]; exact HZ.out.1, HI.out.2.1.trans HZ.out.2, by have := HZ.out.2.size; have := HI.out.2.2.1; omega, by rw [HS.out.1]; exact allc_snoc HI.out.2.2.2 HX.out⟩⟩
        case measure => simp only [intOf]; omega
    · have d1 : decide ((i : Int) < (L : Int)) = false := by rw [decide_eq_false_iff_not]; omega
      have f1 : ¬ (i : Int) < (L : Int) := by omega
      have he : l.take i = l := List.take_of_length_le (by rw [← HL.out]; omega)
      have hI := HI.out
      rw [he] at hI
      have T := Lib.hid (Tryd.Builder_String_any B B _ wr (by rw [bcl_bytes (flat_byts l)]; exact hI.1) hI.2.2.1)
      have hg := Lib.hid (t_good hI.2.2.2)
      clear he hI
      go_wp2_with (go_at_call 29; refine T.out.mono ?_; rintro e w1 ⟨rfl, hb⟩; replace hb := Lib.hid hb)
      go_ret2
      refine ⟨?_, by rw [← HW.out.1]; exact HI.out.2.1.trans hb.out⟩
      rw [HSE.out.1, HSE.out.2, hg.out.1, hg.out.2]
      rfl
end Go.Proofs.YtbfikbojhmfdpaaDoor
