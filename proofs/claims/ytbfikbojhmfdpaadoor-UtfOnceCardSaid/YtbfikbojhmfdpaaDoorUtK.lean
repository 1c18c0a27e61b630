/- Contracts: the program's Codes: a range over a string. Conditions: the tables of Go's library lie. -/
import Derived.Test.YtbfikbojhmfdpaaDoorUtJ
namespace Go.Proofs.YtbfikbojhmfdpaaDoor
open Go.RowKit Bg
set_option linter.unusedVariables false
set_option linter.unusedSimpArgs false


def pre (l : List Int) : Bool := [239, 191, 189].isPrefixOf l
theorem enc_err : enc 65533 = [239, 191, 189] := by decide
theorem pre_iff {l : List Int} : pre l = true ↔ ∃ t, l = enc 65533 ++ t := by
  unfold pre
  rw [List.isPrefixOf_iff_prefix, enc_err]
  exact ⟨fun ⟨t, h⟩ => ⟨t, h.symm⟩, fun ⟨t, h⟩ => ⟨t, h.symm⟩⟩
/-- What the program asks of a rune of a range. -/
theorem bad_rune {l : List Int} (hb : Byts l) (h0 : l ≠ []) : (decide (((decZ l).1 : Int) = 65533) && !(pre l)) = (chr l).isNone := by
  rcases chr_dec h0 with ⟨h1, h2, h3⟩ | ⟨h1, h2⟩
  · rw [h1, h2]
    have : pre l = false := by
      rw [Bool.eq_false_iff]
      intro hp
      obtain ⟨t, rfl⟩ := pre_iff.1 hp
      rw [chr_enc (by decide)] at h1
      cases h1
    rw [this]
    rfl
  · rw [h1]
    by_cases hr : ((decZ l).1 : Int) = 65533
    · have hp : pre l = true := by
        obtain ⟨e1, e2, e3⟩ := chr_some hb h1
        rw [hr] at e3
        exact pre_iff.2 ⟨_, e3.symm⟩
      rw [hp, decide_eq_true hr]
      rfl
    · rw [decide_eq_false hr]
      rfl
theorem pre_str {l : List Int} (hb : Byts l) : Lib.hasPrefix (strOfNums l).data.toList [239, 191, 189] = pre l := by
  unfold Lib.hasPrefix pre
  rw [Bool.eq_iff_iff, List.isPrefixOf_iff_prefix, List.isPrefixOf_iff_prefix, strOfNums_data]
  constructor
  · rintro ⟨t, h⟩
    refine ⟨t.map fun b => (b.toNat : Int), ?_⟩
    have h1 := congrArg (List.map fun b : UInt8 => (b.toNat : Int)) h
    rw [List.map_append] at h1
    have h2 : ((l.map fun n => UInt8.ofNat n.toNat).map fun b : UInt8 => (b.toNat : Int)) = l := byL_str hb
    rw [h2] at h1
    exact h1
  · rintro ⟨t, h⟩
    refine ⟨t.map fun n => UInt8.ofNat n.toNat, ?_⟩
    rw [← h, List.map_append]
    rfl
theorem invalid_at {l : List Int} (hb : Byts l) (r : Int) (w : World) :
    Calls Tryd.prog 27 #[.int .i32 r, .string (strOfNums l)] w fun e w' => e = .returned (.bool (decide (r = 65533) && !(pre l))) ∧ w = w' := by
  have T := Tryd.strings_HasPrefix (strOfNums l) { data := #[239, 191, 189] } w
  rw [show ({ data := #[239, 191, 189] } : ByteArray).data.toList = [239, 191, 189] from rfl, pre_str hb] at T
  replace T := Lib.hid T
  obtain ⟨P, hP⟩ : ∃ P, P = pre l := ⟨_, rfl⟩
  rw [← hP] at T ⊢
  clear hP
  by_cases h : r = 65533
  · subst h
    go_enter Tryd.func27, Tryd.ntmps27
    go_wp2_with (go_at_call 31; refine T.out.mono ?_; rintro e w' ⟨rfl, rfl⟩)
    go_ret
    refine ⟨retB ?_, rfl⟩
    simp
  · have h1 : (r == 65533) = false := by rw [beq_eq_false_iff_ne]; exact h
    go_enter Tryd.func27, Tryd.ntmps27
    go_wp2_with (go_at_call 31; refine T.out.mono ?_; rintro e w' ⟨rfl, rfl⟩)
    go_ret
    refine ⟨retB ?_, rfl⟩
    simp [h]
theorem Own.iter {E : TypeId} {k : IntKind} {B : Nat} {w : World} {v : Value} {l : List Int} (h : Own E k B w v l) {j : Nat} (hj : j < B) (s : ByteArray) (pos : Nat) : Own E k B (w.iterAt j s pos) v l := by
  rcases h.2 with h0 | ⟨g, cap, cur, hv, hB, hg, hr⟩
  · exact ⟨h.1, Or.inl h0⟩
  · exact ⟨h.1, Or.inr ⟨g, cap, cur, hv, hB, (Lib.iterAt_other w j g s pos (by omega)).trans hg, hr⟩⟩
theorem ext_str {l : List Int} (k : Nat) : (strOfNums l).extract k l.length = strOfNums (l.drop k) := by
  apply ByteArray.ext
  apply Array.toList_inj.1
  rw [ByteArray.data_extract, Array.toList_extract, strOfNums_data, strOfNums_data, List.map_drop]
  unfold List.extract
  apply List.take_of_length_le
  simp
set_option maxRecDepth 100000 in
set_option maxHeartbeats 20000000 in
theorem codes_at {l : List Int} (hb : Byts l) (hl : l.length ≤ 2000) (w : World) :
    Calls Tryd.prog 19 #[.string (strOfNums l)] w fun e w' => ∃ v x, e = .returned (.tuple #[v, .int .i64 x]) ∧ CodesIs w.heap.size w' l v x ∧ Below w.heap.size w w' := by
  have hsz : (strOfNums l).size = l.length := str_size l
  have HB := Lib.hid (And.intro hb hl)
  obtain ⟨s, hs⟩ : ∃ s, s = strOfNums l := ⟨_, rfl⟩
  rw [← hs] at hsz ⊢
  have HS := Lib.hid (And.intro hs hsz)
  clear hb hsz
  obtain ⟨B, hB⟩ : ∃ B, B = w.heap.size := ⟨_, rfl⟩
  have HBB := Lib.hid hB
  clear hs
  go_enter Tryd.func19, Tryd.ntmps19
  go_wp2_with fail
  rw [← hB]
  clear hB
  go_loopw [4] (fun v wr => ∃ (k : Nat) (cs : List Int), Hid (wr.heap[B]? = some (.stringIter s k) ∧ Below B w wr ∧ Own 3 .i64 (B + 1) wr v cs ∧ AllC cs ∧ k = (flat cs).length ∧ k ≤ l.length ∧ l = flat cs ++ l.drop k)) (fun _ wr => s.size - wr.iterPos B)
  case atStart =>
    refine ⟨0, [], Lib.hid ⟨?_, ?_, Own.nil _ _ _ _, fun c hc => (by cases hc), rfl, Nat.zero_le _, rfl⟩⟩
    · rw [HBB.out]; exact World.iter_heap w s 0
    · rw [HBB.out]; exact (Below.refl _ _).alloc (Nat.le_refl _) _
  case round =>
    obtain ⟨k, cs, HI⟩ := hrel
    by_cases hlt : k < s.size
    · have hR0 : l.drop k ≠ [] := fun h => by
        have := congrArg List.length h
        rw [List.length_drop, ← HS.out.2] at this
        simp at this
        omega
      have hnx : ∀ ty, (Instr.next (.pointer (some ⟨B, 0, none⟩)) true ty).run Tryd.prog wr = _ := fun ty => Lib.run_next_any_at wr B s k ty HI.out.1 hlt
      have hdec : Utf8.decode s k = decZ (l.drop k) := by rw [HS.out.1]; exact decode_str HB.out.1 k
      have hbr := bad_rune (HB.out.1.drop k) hR0
      have hch := chr_dec hR0
      obtain ⟨r, hr⟩ : ∃ r, r = (decZ (l.drop k)).1 := ⟨_, rfl⟩
      obtain ⟨n, hn⟩ : ∃ n, n = (decZ (l.drop k)).2 := ⟨_, rfl⟩
      rw [← hr] at hbr hch
      rw [← hn] at hch
      have hd2 : Utf8.decode s k = (r, n) := by rw [hdec, hr, hn]
      rw [hd2] at hnx
      obtain ⟨w1, hw1⟩ : ∃ w1, w1 = wr.iterAt B s (k + n) := ⟨_, rfl⟩
      have h1 : w1.heap[B]? = some (.stringIter s (k + n)) := by rw [hw1]; exact Lib.iterAt_heap wr B s k (k + n) HI.out.1
      have h2 : Below B w w1 := by rw [hw1]; exact Lib.below_iterAt HI.out.2.1 (Nat.le_refl _) s _
      have h3 : Own 3 .i64 (B + 1) w1 u4 cs := by rw [hw1]; exact HI.out.2.2.1.iter (Nat.lt_succ_self _) s _
      have hex : s.extract k s.size = strOfNums (l.drop k) := by rw [HS.out.2, HS.out.1]; exact ext_str k
      have T := Lib.hid (invalid_at (HB.out.1.drop k) (r : Int) w1)
      simp only [← hw1] at hnx
      have HN := Lib.hid (And.intro h1 (And.intro h2 (And.intro h3 hw1)))
      clear h1 h2 h3 hw1 hd2 hdec hr hn hR0
      have f1 : (k : Int) < (s.size : Int) := by omega
      have f2 : k ≤ s.size := by omega
      have f3 : (k : Int) ≤ (s.size : Int) := by omega
      obtain ⟨z, hz⟩ : ∃ z, z = strOfNums (l.drop k) := ⟨_, rfl⟩
      rw [← hz] at hex T
      obtain ⟨bad, hbad⟩ : ∃ b, b = (decide ((r : Int) = 65533) && !(pre (l.drop k))) := ⟨_, rfl⟩
      rw [← hbad] at T hbr
      have HBR := Lib.hid (And.intro hbr hch)
      clear hz hbad hbr hch
      cases bad with
      | true =>
        go_wp2_with (go_at_call 27; refine T.out.mono ?_; rintro e w' ⟨rfl, rfl⟩)
        go_ret2
        have hrn : l.drop k ≠ [] := fun h => by
          have := congrArg List.length h
          rw [List.length_drop, ← HS.out.2] at this
          simp at this
          omega
        refine ⟨_, _, rfl, ⟨cs, l.drop k, ⟨HI.out.2.2.2.1, HI.out.2.2.2.2.2.2, by have := HBR.out.1; rw [eq_comm, Option.isNone_iff_eq_none] at this; exact this⟩, by unfold aE; rw [if_neg hrn], ?_⟩, by rw [← HBB.out]; exact HN.out.2.1⟩
        unfold aL
        rw [if_neg hrn]
        exact Own.nil _ _ _ _
      | false =>
        have hchs : chr (l.drop k) = some ((r : Int), n) := by
          rcases HBR.out.2 with h | h
          · have := HBR.out.1
            rw [h.1] at this
            cases this
          · exact h.1
        have HC := Lib.hid hchs
        have hn := chr_lt (HB.out.1.drop k) hchs
        rw [List.length_drop, ← HS.out.2] at hn
        have hrb : (r : Int) ≤ 1114111 := by have := isC_iff.1 (chr_some (HB.out.1.drop k) hchs).1; omega
        have hw64 : wrap64 (r : Int) = (r : Int) := by unfold wrap64; omega
        clear hchs
        have hcl : cs.length ≤ 2000 := by have := (flat_len cs).1; have := HI.out.2.2.2.2.1; have := HI.out.2.2.2.2.2.1; omega
        obtain ⟨v2, w2, hr2, ho2, hb2⟩ := app_two ktI (x := (r : Int)) HN.out.2.2.1 (by omega) (lt_block HN.out.1)
        have HR := Lib.hid (And.intro hr2 (And.intro ho2 hb2))
        clear hr2 ho2 hb2
        go_wp2_with fail
        refine T.out.mono ?_
        rintro e w' ⟨rfl, rfl⟩
        go_wp2_with (at_builtin; go_loud (refine Lib.wpList_append_run _ rfl _ _ 36 36 rfl u4 (.slice (some ⟨w1.heap.size, 0, none⟩) 1 1) rfl rfl v2 w2 HR.out.1 ?_))
        go_roundw
        case rel =>
          obtain ⟨e1, e2, e3⟩ := chr_some (HB.out.1.drop k) HC.out
          have hkn : (flat (cs ++ [(r : Int)])).length = k + n := by rw [flat_snoc, List.length_append, ← HI.out.2.2.2.2.1, e2]
          refine ⟨k + n, cs ++ [(r : Int)], Lib.hid ⟨?_, HN.out.2.1.trans (HR.out.2.2.mono (Nat.le_succ B)), HR.out.2.1, allc_snoc HI.out.2.2.2.1 e1, hkn.symm, by have := HS.out.2; omega, ?_⟩⟩
          · rw [HR.out.2.2.block B (Nat.lt_succ_self B)]; exact HN.out.1
          · rw [flat_snoc, List.append_assoc, ← List.drop_drop, e3]
            exact HI.out.2.2.2.2.2.2
        case measure =>
          have hB2 : w2.heap[B]? = some (.stringIter s (k + n)) := by rw [HR.out.2.2.block B (Nat.lt_succ_self B)]; exact HN.out.1
          simp only [World.iterPos, hB2, HI.out.1]
          omega
    · have hnx : ∀ ty, (Instr.next (.pointer (some ⟨B, 0, none⟩)) true ty).run Tryd.prog wr = _ := fun ty => Lib.run_next_end_at wr B s k ty HI.out.1 hlt
      go_wp2_with fail
      go_ret2
      have h0 : l.drop k = [] := List.drop_eq_nil_of_le (by rw [← HS.out.2]; omega)
      refine ⟨_, _, rfl, ⟨cs, [], ⟨HI.out.2.2.2.1, by have := HI.out.2.2.2.2.2.2; rwa [h0] at this, chr_nil⟩, by simp [aE], ?_⟩, by rw [← HBB.out]; exact HI.out.2.1⟩
      unfold aL
      rw [if_pos rfl, ← HBB.out]
      exact HI.out.2.2.1.base (Nat.le_succ B)
end Go.Proofs.YtbfikbojhmfdpaaDoor
