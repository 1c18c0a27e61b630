/- Contracts: the document's text of chars; are two lists the same. Conditions: at most 2000 chars. -/
import Derived.Test.YtbfikbojhmfdpaaDoorUtG
namespace Go.Proofs.YtbfikbojhmfdpaaDoor
open Go.RowKit Bg
set_option linter.unusedVariables false
set_option linter.unusedSimpArgs false


def tS (l : List Int) : ByteArray := if l.all isC then strOfNums (flat l) else { data := #[] }
def tE (l : List Int) : Int := if l.all isC then 0 else 2
theorem all_iff {l : List Int} : l.all isC = true ↔ AllC l := by rw [List.all_eq_true]; exact Iff.rfl
theorem t_good {l : List Int} (h : AllC l) : tS l = strOfNums (flat l) ∧ tE l = 0 := by
  unfold tS tE
  rw [if_pos (all_iff.2 h), if_pos (all_iff.2 h)]
  exact ⟨rfl, rfl⟩
theorem t_bad {l : List Int} (h : ¬ AllC l) : tS l = { data := #[] } ∧ tE l = 2 := by
  unfold tS tE
  rw [if_neg (fun h1 => h (all_iff.1 h1)), if_neg (fun h1 => h (all_iff.1 h1))]
  exact ⟨rfl, rfl⟩
theorem bad_at {l : List Int} {i : Nat} (hi : i < l.length) (h : isC (l.getD i 0) = false) : ¬ AllC l := fun ha => by
  have := ha (l.getD i 0) (by rw [List.getD_eq_getElem?_getD, List.getElem?_eq_getElem hi]; exact List.getElem_mem hi)
  rw [h] at this
  cases this
theorem allc_snoc {l : List Int} {c : Int} (h : AllC l) (hc : isC c = true) : AllC (l ++ [c]) := fun x hx => by
  rcases List.mem_append.1 hx with h1 | h1
  · exact h x h1
  · simp at h1; rw [h1]; exact hc
set_option maxRecDepth 100000 in
set_option maxHeartbeats 20000000 in
theorem rtext_at {w : World} {p : Option Addr} {c : Nat} {l : List Int} (a : Arg .i64 w p c l) (hl : l.length ≤ 2000) :
    Calls Tryd.prog 22 #[.slice p l.length c] w fun e w' => e = .returned (.tuple #[.string (tS l), .int .i64 (tE l)]) ∧ Below w.heap.size w w' := by
  have HA := Lib.hid (And.intro @a.below hl)
  have hle := a.le
  have hmx := a.max
  have hat := Lib.hid (fun h => a.at h)
  obtain ⟨L, hL⟩ : ∃ L, L = l.length := ⟨_, rfl⟩
  have HL := Lib.hid hL
  rw [← hL] at hl hle hat ⊢
  obtain ⟨S, hS⟩ : ∃ S, S = tS l := ⟨_, rfl⟩
  obtain ⟨E, hE⟩ : ∃ E, E = tE l := ⟨_, rfl⟩
  rw [← hS, ← hE]
  have HSE := Lib.hid (And.intro hS hE)
  clear a hL hS hE
  go_enter Tryd.func22, Tryd.ntmps22
  go_wp2_with fail
  go_loopw [4, 5] (fun v t wr => ∃ i : Nat, t = .int .i64 i ∧ i ≤ L ∧ Hid (Own 5 .u8 w.heap.size wr v (flat (l.take i)) ∧ Below w.heap.size w wr ∧ AllC (l.take i))) (fun _ t _ => L - (intOf t).toNat)
  case atStart => exact ⟨0, rfl, Nat.zero_le _, Lib.hid ⟨Own.nil _ _ _ _, Below.refl _ _, fun c hc => (by cases hc)⟩⟩
  case round =>
    obtain ⟨i, rfl, hi, HI⟩ := hrel
    by_cases hlt : i < L
    · have d1 : decide ((i : Int) < (L : Int)) = true := by rw [decide_eq_true_eq]; omega
      have f1 : (i : Int) < (L : Int) := by omega
      obtain ⟨b, off, hp, hcell⟩ := hat.out (by omega)
      subst hp
      have hc0 := hcell i (by have := HL.out; omega)
      have hc1 : wr.cell? ⟨b, off + i, none⟩ = some (.int .i64 (l.getD i 0)) := (HI.out.2.1.cell (World.block_lt_of_cell? w _ hc0)).trans hc0
      clear hcell hc0
      obtain ⟨x, hx⟩ : ∃ x, x = l.getD i 0 := ⟨_, rfl⟩
      have hsn := take_snoc l i (by have := HL.out; omega)
      rw [← hx] at hc1 hsn
      have HS := Lib.hid (And.intro hsn hx)
      clear hsn hx
      have T := ris_at x wr
      cases hI : isC x with
      | false =>
        rw [hI] at T
        replace T := Lib.hid T
        go_wp2_with (go_at_call 15; refine T.out.mono ?_; rintro e w' ⟨rfl, rfl⟩)
        go_ret2
        have hbad := t_bad (bad_at (i := i) (l := l) (by have := HL.out; omega) (by rw [← HS.out.2]; exact hI))
        refine ⟨?_, HI.out.2.1⟩
        rw [HSE.out.1, HSE.out.2, hbad.1, hbad.2]
        rfl
      | true =>
        rw [hI] at T
        replace T := Lib.hid T
        have T2 := Lib.hid (bytes_at x hI wr)
        have HX := Lib.hid hI
        clear hI
        go_wp2_with (go_at_call 15; refine T.out.mono ?_; rintro e w' ⟨rfl, rfl⟩)
        refine T2.out.mono ?_
        rintro e w1 ⟨v, rfl, ho, hb⟩
        obtain ⟨q, cq, rfl, aq, -⟩ := ho.arg
        have hfl := (flat_len (l.take i)).2
        rw [List.length_take] at hfl
        have hel := enc_len x
        obtain ⟨v2, w2, hr2, ho2, -, hb2⟩ := app_row kt8 (HI.out.1.below hb) aq (by omega) (HI.out.2.1.trans (hb.mono HI.out.2.1.size)).size
        have HR := Lib.hid (And.intro hr2 (And.intro ho2 ((HI.out.2.1.trans (hb.mono HI.out.2.1.size)).trans hb2)))
        clear hr2 ho2 hb2 ho aq hb hfl
        obtain ⟨n, hn⟩ : ∃ n, n = (enc x).length := ⟨_, rfl⟩
        rw [← hn] at HR hel ⊢
        clear hn
        go_wp2_with (at_builtin; go_loud (refine Lib.wpList_append_run _ rfl _ _ 22 22 rfl u4 (.slice q n cq) rfl rfl v2 w2 HR.out.1 ?_))
        go_roundw
        case rel => exact ⟨i + 1, rfl, by omega, Lib.hid ⟨by rw [HS.out.1, flat_snoc]; exact HR.out.2.1, HR.out.2.2, by rw [HS.out.1]; exact allc_snoc HI.out.2.2 HX.out⟩⟩
        case measure => simp only [intOf]; omega
    · have d1 : decide ((i : Int) < (L : Int)) = false := by rw [decide_eq_false_iff_not]; omega
      have f1 : ¬ (i : Int) < (L : Int) := by omega
      have hcv := conv_own HI.out.1
      go_wp2_with fail
      go_ret2
      have he : l.take i = l := List.take_of_length_le (by rw [← HL.out]; omega)
      have hg := t_good (l := l) (by have := HI.out.2.2; rwa [he] at this)
      refine ⟨?_, HI.out.2.1⟩
      rw [HSE.out.1, HSE.out.2, hg.1, hg.2]
      show Ending.returned (.tuple #[.string (strOfNums (flat (l.take i))), .int .i64 0]) = _
      rw [he]
theorem getD_ext {a b : List Int} (hl : a.length = b.length) (h : ∀ i, i < a.length → a.getD i 0 = b.getD i 0) : a = b := by
  refine List.ext_getElem hl fun i h1 h2 => ?_
  have := h i h1
  rwa [List.getD_eq_getElem?_getD, List.getD_eq_getElem?_getD, List.getElem?_eq_getElem h1, List.getElem?_eq_getElem h2] at this
theorem below_drewN {B : Nat} {a w : World} (h : Below B a w) (n : Nat) : Below B a (w.drewN n) := by
  induction n with
  | zero => exact h
  | succ n ih => exact ih.drew
theorem drewN_cell (w : World) (n : Nat) (a : Addr) : (w.drewN n).cell? a = w.cell? a := by
  induction n with
  | zero => rfl
  | succ n ih => exact ih
set_option maxRecDepth 100000 in
set_option maxHeartbeats 20000000 in
theorem same_at {w : World} {p q : Option Addr} {c d : Nat} {l m : List Int} (a : Arg .i64 w p c l) (b : Arg .i64 w q d m) (hl : l.length ≤ 1000000) (hm : m.length ≤ 1000000) :
    Calls Tryd.prog 23 #[.slice p l.length c, .slice q m.length d] w fun e w' => e = .returned (.bool (decide (l = m))) ∧ Below w.heap.size w w' := by
  obtain ⟨V, hV⟩ : ∃ V, V = decide (l = m) := ⟨_, rfl⟩
  rw [← hV]
  have HV := Lib.hid hV
  clear hV
  by_cases hlm : l.length = m.length
  · have hax := a.max
    have hale := a.le
    have hbx := b.max
    have hble := b.le
    have ha := Lib.hid (fun h => a.at h)
    have hb := Lib.hid (fun h => b.at h)
    have HLM := Lib.hid hlm
    obtain ⟨L, hL⟩ : ∃ L, L = l.length := ⟨_, rfl⟩
    rw [← hlm] at hb hble ⊢
    rw [← hL] at ha hb hl hale hble ⊢
    have HL := Lib.hid hL
    clear a b hm hlm hL
    go_enter Tryd.func23, Tryd.ntmps23
    go_wp2_with fail
    go_loopw [5] (fun t wr => ∃ i : Nat, t = .int .i64 i ∧ i ≤ L ∧ Hid (Below w.heap.size w wr ∧ ∀ j, j < i → l.getD j 0 = m.getD j 0)) (fun t _ => L - (intOf t).toNat)
    case atStart => exact ⟨0, rfl, Nat.zero_le _, Lib.hid ⟨Below.refl _ _, fun j hj => absurd hj (Nat.not_lt_zero _)⟩⟩
    case round =>
      obtain ⟨i, rfl, hi, HI⟩ := hrel
      by_cases hlt : i < L
      · have d1 : decide ((i : Int) < (L : Int)) = true := by rw [decide_eq_true_eq]; omega
        have f1 : (i : Int) < (L : Int) := by omega
        obtain ⟨g, off, hp, hcell⟩ := ha.out (by omega)
        subst hp
        have hc0 := hcell i (by have := HL.out; omega)
        have hc1 : wr.cell? ⟨g, off + i, none⟩ = some (.int .i64 (l.getD i 0)) := (HI.out.1.cell (World.block_lt_of_cell? w _ hc0)).trans hc0
        clear hcell hc0
        obtain ⟨g2, off2, hp, hcell⟩ := hb.out (by omega)
        subst hp
        have hc0 := hcell i (by have := HL.out; have := HLM.out; omega)
        have hc2 : wr.cell? ⟨g2, off2 + i, none⟩ = some (.int .i64 (m.getD i 0)) := (HI.out.1.cell (World.block_lt_of_cell? w _ hc0)).trans hc0
        clear hcell hc0
        obtain ⟨x, hx⟩ : ∃ x, x = l.getD i 0 := ⟨_, rfl⟩
        obtain ⟨y, hy⟩ : ∃ y, y = m.getD i 0 := ⟨_, rfl⟩
        rw [← hx] at hc1
        rw [← hy] at hc2
        have HXY := Lib.hid (And.intro hx hy)
        clear hx hy
        have hws : IntKind.i64.wrap ((i : Int) + 1) = (i : Int) + 1 := by rw [wrap_small _ (by omega) (by omega)]
        by_cases hxy : x = y
        · have d3 : (x != y) = false := by simp [hxy]
          have HE := Lib.hid hxy
          clear hxy
          go_wp2_with fail
          go_quiet (fail)
          go_wp2_with fail
          go_roundw
          case rel =>
            refine ⟨i + 1, rfl, by omega, Lib.hid ⟨below_drewN HI.out.1 _, fun j hj => ?_⟩⟩
            by_cases hji : j = i
            · rw [hji, ← HXY.out.1, ← HXY.out.2]; exact HE.out
            · exact HI.out.2 j (by omega)
          case measure => simp only [intOf]; omega
        · have d3 : (x != y) = true := by simp [hxy]
          have HE := Lib.hid hxy
          clear hxy
          go_wp2_with fail
          go_quiet (fail)
          go_wp2_with fail
          go_ret
          refine ⟨?_, below_drewN HI.out.1 _⟩
          rw [HV.out, decide_eq_false (fun h => HE.out (by rw [HXY.out.1, HXY.out.2, h]))]
          rfl
      · have d1 : decide ((i : Int) < (L : Int)) = false := by rw [decide_eq_false_iff_not]; omega
        have f1 : ¬ (i : Int) < (L : Int) := by omega
        go_wp2_with fail
        go_ret
        refine ⟨?_, HI.out.1⟩
        rw [HV.out, decide_eq_true (getD_ext HLM.out (fun j hj => HI.out.2 j (by have := HL.out; omega)))]
        rfl
  · have d1 : decide ((l.length : Int) = (m.length : Int)) = false := by rw [decide_eq_false_iff_not]; omega
    have f1 : ¬ (l.length : Int) = (m.length : Int) := by omega
    go_enter Tryd.func23, Tryd.ntmps23
    go_wp2_with fail
    go_ret
    refine ⟨?_, Below.refl _ _⟩
    rw [HV.out, decide_eq_false (fun h => hlm (by rw [h]))]
    rfl
end Go.Proofs.YtbfikbojhmfdpaaDoor
