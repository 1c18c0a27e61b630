/- Contracts: the document's tokens that begin with #. Conditions: none. -/
import Derived.Test.YtgnnkfdpfmlajaaDoorLxBy
import Derived.Test.YtgnnkfdpfmlajaaDoorLxZb
namespace Go.Proofs.YtgnnkfdpfmlajaaDoor
open Go.RowKit Bg Lx
set_option linter.unusedVariables false
set_option linter.unusedSimpArgs false

theorem beq_lit {A b : List Int} (hA : Byts A) (hb : Byts b) (L : List UInt8) (hL : (strOfNums b).toList = L) : ((strOfNums A).toList == L) = decide (A = b) := by rw [← hL]; exact beq_bytes hA hb
/-- What begins with #: the document's answer. -/
def MkIs (i : Nat) (o : Option (Tk × Nat)) (T : Tk) (y : Int) (b : Bool) : Prop := match o with
  | none => b = false
  | some (t, n) => b = true ∧ T = t ∧ y = (i : Int) + n
theorem run_drop (l : List Int) (i : Nat) : run ((l.drop i).drop 1) = run (l.drop (i + 1)) := by rw [List.drop_drop]
def mk3 (i : Nat) : Option (Int × Nat) → Option (Tk × Nat) | none => none | some v => some (datum 3 v.1 [] i, 2 + v.2)
theorem str_nil : strOfNums [] = ({ data := #[] } : ByteArray) := rfl
set_option maxRecDepth 100000 in
set_option maxHeartbeats 6000000 in
theorem marked_at {w : World} {p : Option Addr} {c : Nat} {l : List Int} (a : Arg .u8 w p c l) (hb : Byts l) (hl : l.length ≤ 1000000) (i : Nat) (hi : i < l.length) :
    Calls Tryd.prog 24 #[.slice p l.length c, .int .i64 i] w fun e w' => ∃ T y b, e = .returned (.tuple #[tkV T, .int .i64 y, .bool b]) ∧ MkIs i (Lx.mark (l.drop i) i) T y b ∧ Below w.heap.size w w' := by
  have b0 : Below w.heap.size w (w.alloc (.cells #[.int .i64 0, .int .i64 0, .int .i64 0, .int .i64 0, .string { data := #[] }, .slice none 0 0, .int .i64 0] 37)) := (Below.refl _ _).alloc (Nat.le_refl _) _
  have hle := a.le
  have hmx := a.max
  have TD := Lib.hid (fun k n t W => rdat_at k n (i : Int) t W)
  have hx := heap_new w (.cells #[.int .i64 0, .int .i64 0, .int .i64 0, .int .i64 0, .string { data := #[] }, .slice none 0 0, .int .i64 0] 37)
  have HX := Lib.hid (And.intro hx b0)
  have T1 := at_at (a.below b0) hb (by omega) i (by omega) (t := [35, 40]) (lit_byts (by decide)) (by simp) (by simp)
  have T2 := at_at (a.below b0) hb (by omega) i (by omega) (t := [35, 92]) (lit_byts (by decide)) (by simp) (by simp)
  rw [show strOfNums [35, 40] = ({ data := #[35, 40] } : ByteArray) from rfl] at T1
  rw [show strOfNums [35, 92] = ({ data := #[35, 92] } : ByteArray) from rfl] at T2
  clear hx
  have hw2 : IntKind.i64.wrap ((i : Int) + 2) = (i : Int) + 2 := by rw [wrap_small _ (by omega) (by omega)]
  have hw1 : IntKind.i64.wrap ((i : Int) + 1) = (i : Int) + 1 := by rw [wrap_small _ (by omega) (by omega)]
  cases h1 : atS (l.drop i) [35, 40] with
  | true =>
    have hm : Lx.mark (l.drop i) i = some (plainTk 4 i, 2) := by unfold Lx.mark; rw [if_pos h1]
    rw [hm]
    rw [h1] at T1
    replace T1 := Lib.hid T1
    have z := (seven (heap_new w (.cells #[.int .i64 4, .int .i64 i, .int .i64 0, .int .i64 0, .string { data := #[] }, .slice none 0 0, .int .i64 0] 37))).1
    have HZ := Lib.hid z
    obtain ⟨L, hL⟩ : ∃ L, L = l.length := ⟨_, rfl⟩
    rw [← hL] at T1 ⊢
    clear a hb h1 hm T2 hL z b0
    go_enter Tryd.func24, Tryd.ntmps24
    go_wp2_with (go_at_call 20; refine T1.out.mono ?_; rintro e w' ⟨rfl, rfl⟩)
    have z := HZ.out
    refine bodyPost_ret (v := (.tuple #[.agg #[.int .i64 4, .int .i64 i, .int .i64 0, .int .i64 0, .string { data := #[] }, .slice none 0 0, .int .i64 0], .int .i64 ((i : Int) + 2), .bool true])) (by simp [results, Tryd.results24, go_sem, z.1, z.2.1, z.2.2.1, z.2.2.2.1, z.2.2.2.2.1, z.2.2.2.2.2.1, z.2.2.2.2.2.2]) rfl ?_
    exact ⟨plainTk 4 i, _, _, rfl, ⟨rfl, rfl, rfl⟩, (Below.refl _ _).alloc (Nat.le_refl _) _⟩
  | false =>
    rw [h1] at T1
    cases h2 : atS (l.drop i) [35, 92] with
    | true =>
      rw [h2] at T2
      have h2l : i + 2 ≤ l.length := by
        have e := of_decide_eq_true (show decide ((l.drop i).take [35, 92].length = [35, 92]) = true from h2)
        have e2 := congrArg List.length e
        rw [List.length_take, List.length_drop] at e2
        simp at e2
        omega
      have T3 := char_at (a.below b0) hb hl i h2l
      have hm : Lx.mark (l.drop i) i = mk3 i (chl (l.drop (i + 2))) := by unfold Lx.mark; rw [if_neg (by rw [h1]; simp), if_pos h2, List.drop_drop]; cases chl (l.drop (i + 2)) <;> rfl
      rw [hm]
      obtain ⟨o, ho⟩ : ∃ o, o = chl (l.drop (i + 2)) := ⟨_, rfl⟩
      rw [← ho] at T3 ⊢
      replace T1 := Lib.hid T1
      replace T2 := Lib.hid T2
      replace T3 := Lib.hid T3
      obtain ⟨L, hL⟩ : ∃ L, L = l.length := ⟨_, rfl⟩
      rw [← hL] at T1 T2 T3 ⊢
      clear a hb h1 h2 hm hL b0 ho h2l
      go_enter Tryd.func24, Tryd.ntmps24
      go_upto_region 3 with (go_at_call 20; refine T1.out.mono ?_; rintro e w' ⟨rfl, rfl⟩)
      go_upto_region 4 with (go_at_call 20; refine T2.out.mono ?_; rintro e w' ⟨rfl, rfl⟩)
      go_wp2_with fail
      refine T3.out.mono ?_
      rintro e w1 ⟨x, y, b, rfl, HC, b1⟩
      have HC1 := Lib.hid (And.intro HC b1)
      clear HC b1
      go_wp2_with fail
      refine (TD.out _ _ _ _).mono ?_
      rintro e w2 ⟨rfl, b2⟩
      have b1' := HC1.out.2
      have hx' := ((b1'.trans (b2.mono b1'.size)).block _ (lt_block HX.out.1)).trans HX.out.1
      obtain ⟨⟨c0, c1, c2, c3, c4, c5, c6⟩, d0, d1, d2, d3, d4, d5, d6⟩ := seven hx'
      have H7 := Lib.hid (And.intro hx' (HX.out.2.trans ((b1'.trans (b2.mono b1'.size)).mono HX.out.2.size)))
      clear hx' b1' b2
      go_wp2_with fail
      have hz := set7_heap H7.out.1 (.int .i64 7) (.int .i64 i) (.int .i64 3) (.int .i64 x) (.string { data := #[] }) (.slice none 0 0) (.int .i64 i)
      obtain ⟨WZ, hWZ⟩ : ∃ W, W = set7 w2 w.heap.size (.int .i64 7) (.int .i64 i) (.int .i64 3) (.int .i64 x) (.string { data := #[] }) (.slice none 0 0) (.int .i64 i) := ⟨_, rfl⟩
      rw [← hWZ] at hz
      have z := (seven hz).1
      have hWZ' := hWZ
      unfold set7 at hWZ'
      rw [← hWZ']
      have HBZ : Below w.heap.size w WZ := by rw [hWZ]; exact set7_below H7.out.2 (Nat.le_refl _) _ _ _ _ _ _ _
      refine bodyPost_ret (v := (.tuple #[.agg #[.int .i64 7, .int .i64 i, .int .i64 3, .int .i64 x, .string { data := #[] }, .slice none 0 0, .int .i64 i], .int .i64 y, .bool b])) (by simp [results, Tryd.results24, go_sem, z.1, z.2.1, z.2.2.1, z.2.2.2.1, z.2.2.2.2.1, z.2.2.2.2.2.1, z.2.2.2.2.2.2]) rfl ?_
      cases o with
      | none => exact ⟨datum 3 x [] i, _, _, rfl, HC1.out.1, HBZ⟩
      | some v =>
        obtain ⟨ch, n⟩ := v
        obtain ⟨h3, h4, h5⟩ : b = true ∧ x = ch ∧ y = (i : Int) + 2 + n := HC1.out.1
        exact ⟨datum 3 x [] i, _, _, rfl, ⟨h3, by rw [h4], by rw [h5]; omega⟩, HBZ⟩
    | false =>
      rw [h2] at T2
      obtain ⟨g, off, rfl, -⟩ := a.at (by omega)
      obtain ⟨X, hX⟩ : ∃ X, X = run (l.drop (i + 1)) := ⟨_, rfl⟩
      have hXl : X.length ≤ l.length - (i + 1) := by rw [hX]; have := run_le (l.drop (i + 1)); rwa [List.length_drop] at this
      have hXt : X = (l.drop (i + 1)).take X.length := by rw [hX]; exact run_is _
      have hXb : Byts X := by rw [hXt]; exact (hb.drop _).take _
      have TR := run_at (a.below b0) (by omega) (i + 1) (by omega)
      have hrE : runE l (i + 1) = i + 1 + X.length := by unfold runE; rw [← hX]
      rw [hrE, show ((i + 1 : Nat) : Int) = (i : Int) + 1 by omega, show ((i + 1 + X.length : Nat) : Int) = (i : Int) + 1 + X.length by omega] at TR
      have T4 := at_at (a.below b0) hb (by omega) (i + 1 + X.length) (by omega) (t := [40]) (lit_byts (by decide)) (by simp) (by simp)
      rw [show strOfNums [40] = ({ data := #[40] } : ByteArray) from rfl, show ((i + 1 + X.length : Nat) : Int) = (i : Int) + 1 + X.length by omega] at T4
      have CV := conv_arg (slice_of (a.below b0) (k := i + 1) (n := X.length) (by omega))
      rw [← hXt] at CV
      have hm : Lx.mark (l.drop i) i = if X = [117, 56] ∧ atS ((l.drop i).drop 3) [40] = true then some (plainTk 5 i, 4) else if X = [116] ∨ X = [116, 114, 117, 101] then some (datum 1 1 [] i, 1 + X.length) else if X = [102] ∨ X = [102, 97, 108, 115, 101] then some (datum 1 0 [] i, 1 + X.length) else none := by
        unfold Lx.mark
        rw [if_neg (by rw [h1]; simp), if_neg (by rw [h2]; simp)]
        simp only [run_drop, ← hX]
      have q1 := beq_lit hXb (b := [117, 56]) (lit_byts (by decide)) [117, 56] (by rw [ByteArray.toList_eq]; rfl)
      have q2 := beq_lit hXb (b := [116]) (lit_byts (by decide)) [116] (by rw [ByteArray.toList_eq]; rfl)
      have q3 := beq_lit hXb (b := [116, 114, 117, 101]) (lit_byts (by decide)) [116, 114, 117, 101] (by rw [ByteArray.toList_eq]; rfl)
      have q4 := beq_lit hXb (b := [102]) (lit_byts (by decide)) [102] (by rw [ByteArray.toList_eq]; rfl)
      have q5 := beq_lit hXb (b := [102, 97, 108, 115, 101]) (lit_byts (by decide)) [102, 97, 108, 115, 101] (by rw [ByteArray.toList_eq]; rfl)
      have h40 : X = [117, 56] → atS ((l.drop i).drop 3) [40] = atS (l.drop (i + 1 + X.length)) [40] := fun e => by rw [e, List.drop_drop]; rfl
      obtain ⟨u, hu⟩ : ∃ u, u = strOfNums X := ⟨_, rfl⟩
      rw [← hu] at q1 q2 q3 q4 q5 CV
      obtain ⟨o, ho⟩ : ∃ o, o = Lx.mark (l.drop i) i := ⟨_, rfl⟩
      rw [← ho] at hm ⊢
      obtain ⟨a40, ha40⟩ : ∃ b, b = atS (l.drop (i + 1 + X.length)) [40] := ⟨_, rfl⟩
      rw [← ha40] at T4 h40
      obtain ⟨m, hml⟩ : ∃ m, m = X.length := ⟨_, rfl⟩
      rw [← hml] at TR T4 CV hm hXl
      obtain ⟨L, hL⟩ : ∃ L, L = l.length := ⟨_, rfl⟩
      rw [← hL] at T1 T2 T4 TR hXl hi hl hle ⊢
      have f1 : ¬ (i : Int) + 1 < 0 := by omega
      have f3 : (i : Int) + 1 ≤ (i : Int) + 1 + m := by omega
      have f4 : (i : Int) + 1 + m ≤ (c : Int) := by omega
      have hwe : IntKind.i64.wrap ((i : Int) + 1 + m + 1) = (i : Int) + 1 + m + 1 := by rw [wrap_small _ (by omega) (by omega)]
      replace T1 := Lib.hid T1
      replace T2 := Lib.hid T2
      replace T4 := Lib.hid T4
      replace TR := Lib.hid TR
      have HC := Lib.hid CV
      have hcu : c = i + 1 → m = 0 := by omega
      have hu0 : m = 0 → u = strOfNums [] := fun h => by rw [hu, List.length_eq_zero_iff.1 (hml.symm.trans h)]
      have HM := Lib.hid (And.intro hm (And.intro h40 hml))
      clear a hb h1 h2 hm hL b0 hX hXt hXb hrE CV hu ho ha40 hml h40
      go_enter Tryd.func24, Tryd.ntmps24
      go_upto_region 3 with (go_at_call 20; refine T1.out.mono ?_; rintro e w' ⟨rfl, rfl⟩)
      go_upto_region 6 with (go_at_call 20; refine T2.out.mono ?_; rintro e w' ⟨rfl, rfl⟩)
      go_upto_region 7 with (go_at_call 26; refine TR.out.mono ?_; rintro e w' ⟨rfl, rfl⟩)
      by_cases f6 : c = i + 1
      · have hm0 := hcu f6
        have hu1 := hu0 hm0
        have hX0 : X = [] := List.length_eq_zero_iff.1 (HM.out.2.2.symm.trans hm0)
        have CV := conv_arg (show Arg .u8 (w.alloc (.cells #[.int .i64 0, .int .i64 0, .int .i64 0, .int .i64 0, .string { data := #[] }, .slice none 0 0, .int .i64 0] 37)) (some ⟨g, off, none⟩) 0 [] from ⟨fun h => (by cases h), Nat.le_refl _, by decide, fun i hi => absurd hi (Nat.not_lt_zero _)⟩)
        rw [← hu1, List.length_nil] at CV
        have n1 : ¬ X = [117, 56] := by rw [hX0]; decide
        have n2 : ¬ X = [116] := by rw [hX0]; decide
        have n3 : ¬ X = [116, 114, 117, 101] := by rw [hX0]; decide
        have n4 : ¬ X = [102] := by rw [hX0]; decide
        have n5 : ¬ X = [102, 97, 108, 115, 101] := by rw [hX0]; decide
        rw [decide_eq_false n1] at q1
        rw [decide_eq_false n2] at q2
        rw [decide_eq_false n3] at q3
        rw [decide_eq_false n4] at q4
        rw [decide_eq_false n5] at q5
        have HN := Lib.hid (And.intro n1 (And.intro n2 (And.intro n3 (And.intro n4 n5))))
        clear n1 n2 n3 n4 n5 hu1 hX0 hcu hu0
        subst f6
        subst hm0
        go_wp2_with fail
        refine (TD.out _ _ _ _).mono ?_
        rintro e w2 ⟨rfl, b2⟩
        have b1' := Below.refl (w.alloc (.cells #[.int .i64 0, .int .i64 0, .int .i64 0, .int .i64 0, .string { data := #[] }, .slice none 0 0, .int .i64 0] 37)).heap.size (w.alloc (.cells #[.int .i64 0, .int .i64 0, .int .i64 0, .int .i64 0, .string { data := #[] }, .slice none 0 0, .int .i64 0] 37))
        have hx' := ((b1'.trans (b2.mono b1'.size)).block _ (lt_block HX.out.1)).trans HX.out.1
        obtain ⟨⟨c0, c1, c2, c3, c4, c5, c6⟩, d0, d1, d2, d3, d4, d5, d6⟩ := seven hx'
        have H7 := Lib.hid (And.intro hx' (HX.out.2.trans ((b1'.trans (b2.mono b1'.size)).mono HX.out.2.size)))
        clear hx' b1' b2
        go_wp2_with fail
        have hz := set7_heap H7.out.1 (.int .i64 7) (.int .i64 i) (.int .i64 1) (.int .i64 0) (.string { data := #[] }) (.slice none 0 0) (.int .i64 i)
        obtain ⟨WZ, hWZ⟩ : ∃ W, W = set7 w2 w.heap.size (.int .i64 7) (.int .i64 i) (.int .i64 1) (.int .i64 0) (.string { data := #[] }) (.slice none 0 0) (.int .i64 i) := ⟨_, rfl⟩
        rw [← hWZ] at hz
        have z := (seven hz).1
        have hWZ' := hWZ
        unfold set7 at hWZ'
        rw [← hWZ']
        have HBZ : Below w.heap.size w WZ := by rw [hWZ]; exact set7_below H7.out.2 (Nat.le_refl _) _ _ _ _ _ _ _
        refine bodyPost_ret (v := (.tuple #[.agg #[.int .i64 7, .int .i64 i, .int .i64 1, .int .i64 0, .string { data := #[] }, .slice none 0 0, .int .i64 i], .int .i64 ((i : Int) + 1), .bool false])) (by simp [results, Tryd.results24, go_sem, z.1, z.2.1, z.2.2.1, z.2.2.2.1, z.2.2.2.2.1, z.2.2.2.2.2.1, z.2.2.2.2.2.2]) rfl ?_
        refine ⟨datum 1 0 [] i, _, _, rfl, ?_, HBZ⟩
        have ho := HM.out.1
        rw [if_neg (fun h => HN.out.1 h.1), if_neg (fun h => h.elim HN.out.2.1 HN.out.2.2.1), if_neg (fun h => h.elim HN.out.2.2.2.1 HN.out.2.2.2.2)] at ho
        rw [ho]
        rfl
      clear hcu hu0
      have CV := HC.out
      go_upto_region 8 with fail
      clear CV
      have qs : ∀ (A : List Int) (b : Bool), (decide (X = A) = b) ↔ (X = A ↔ b = true) := fun A b => by cases b <;> simp
      by_cases c1 : X = [117, 56]
      · have n2 : ¬ X = [116] := by rw [c1]; decide
        have n3 : ¬ X = [116, 114, 117, 101] := by rw [c1]; decide
        have n4 : ¬ X = [102] := by rw [c1]; decide
        have n5 : ¬ X = [102, 97, 108, 115, 101] := by rw [c1]; decide
        rw [decide_eq_true c1] at q1
        rw [decide_eq_false n2] at q2
        rw [decide_eq_false n3] at q3
        rw [decide_eq_false n4] at q4
        rw [decide_eq_false n5] at q5
        have HN := Lib.hid (And.intro c1 (And.intro n2 (And.intro n3 (And.intro n4 n5))))
        clear c1 n2 n3 n4 n5
        cases a40 with
        | true =>
          go_wp2_with (go_at_call 20; refine T4.out.mono ?_; rintro e w' ⟨rfl, rfl⟩)
          have z := (seven (heap_new w (.cells #[.int .i64 5, .int .i64 i, .int .i64 0, .int .i64 0, .string { data := #[] }, .slice none 0 0, .int .i64 0] 37))).1
          refine bodyPost_ret (v := (.tuple #[.agg #[.int .i64 5, .int .i64 i, .int .i64 0, .int .i64 0, .string { data := #[] }, .slice none 0 0, .int .i64 0], .int .i64 ((i : Int) + 1 + m + 1), .bool true])) (by simp [results, Tryd.results24, go_sem, z.1, z.2.1, z.2.2.1, z.2.2.2.1, z.2.2.2.2.1, z.2.2.2.2.2.1, z.2.2.2.2.2.2]) rfl ?_
          refine ⟨plainTk 5 i, _, _, rfl, ?_, (Below.refl _ _).alloc (Nat.le_refl _) _⟩
          have ho := HM.out.1
          rw [if_pos ⟨HN.out.1, HM.out.2.1 HN.out.1⟩] at ho
          rw [ho]
          have hml := HM.out.2.2
          rw [HN.out.1] at hml
          exact ⟨rfl, rfl, by rw [hml]; simp; omega⟩
        | false =>
          go_wp2_with (go_at_call 20; refine T4.out.mono ?_; rintro e w' ⟨rfl, rfl⟩)
          refine (TD.out _ _ _ _).mono ?_
          rintro e w2 ⟨rfl, b2⟩
          have b1' := Below.refl (w.alloc (.cells #[.int .i64 0, .int .i64 0, .int .i64 0, .int .i64 0, .string { data := #[] }, .slice none 0 0, .int .i64 0] 37)).heap.size (w.alloc (.cells #[.int .i64 0, .int .i64 0, .int .i64 0, .int .i64 0, .string { data := #[] }, .slice none 0 0, .int .i64 0] 37))
          have hx' := ((b1'.trans (b2.mono b1'.size)).block _ (lt_block HX.out.1)).trans HX.out.1
          obtain ⟨⟨c0, c1, c2, c3, c4, c5, c6⟩, d0, d1, d2, d3, d4, d5, d6⟩ := seven hx'
          have H7 := Lib.hid (And.intro hx' (HX.out.2.trans ((b1'.trans (b2.mono b1'.size)).mono HX.out.2.size)))
          clear hx' b1' b2
          go_wp2_with fail
          have hz := set7_heap H7.out.1 (.int .i64 7) (.int .i64 i) (.int .i64 1) (.int .i64 0) (.string { data := #[] }) (.slice none 0 0) (.int .i64 i)
          obtain ⟨WZ, hWZ⟩ : ∃ W, W = set7 w2 w.heap.size (.int .i64 7) (.int .i64 i) (.int .i64 1) (.int .i64 0) (.string { data := #[] }) (.slice none 0 0) (.int .i64 i) := ⟨_, rfl⟩
          rw [← hWZ] at hz
          have z := (seven hz).1
          have hWZ' := hWZ
          unfold set7 at hWZ'
          rw [← hWZ']
          have HBZ : Below w.heap.size w WZ := by rw [hWZ]; exact set7_below H7.out.2 (Nat.le_refl _) _ _ _ _ _ _ _
          refine bodyPost_ret (v := (.tuple #[.agg #[.int .i64 7, .int .i64 i, .int .i64 1, .int .i64 0, .string { data := #[] }, .slice none 0 0, .int .i64 i], .int .i64 ((i : Int) + 1 + m), .bool false])) (by simp [results, Tryd.results24, go_sem, z.1, z.2.1, z.2.2.1, z.2.2.2.1, z.2.2.2.2.1, z.2.2.2.2.2.1, z.2.2.2.2.2.2]) rfl ?_
          refine ⟨datum 1 0 [] i, _, _, rfl, ?_, HBZ⟩
          have ho := HM.out.1
          have h40 := HM.out.2.1 HN.out.1
          rw [if_neg (fun h => by rw [h40] at h; cases h.2), if_neg (fun h => h.elim HN.out.2.1 HN.out.2.2.1), if_neg (fun h => h.elim HN.out.2.2.2.1 HN.out.2.2.2.2)] at ho
          rw [ho]
          rfl
      · rw [decide_eq_false c1] at q1
        by_cases c2 : X = [116] ∨ X = [116, 114, 117, 101]
        · have HN := Lib.hid (And.intro c1 c2)
          by_cases c3 : X = [116]
          · rw [decide_eq_true c3] at q2
            clear c1 c2 c3
            go_wp2_with fail
            refine (TD.out _ _ _ _).mono ?_
            rintro e w2 ⟨rfl, b2⟩
            have b1' := Below.refl (w.alloc (.cells #[.int .i64 0, .int .i64 0, .int .i64 0, .int .i64 0, .string { data := #[] }, .slice none 0 0, .int .i64 0] 37)).heap.size (w.alloc (.cells #[.int .i64 0, .int .i64 0, .int .i64 0, .int .i64 0, .string { data := #[] }, .slice none 0 0, .int .i64 0] 37))
            have hx' := ((b1'.trans (b2.mono b1'.size)).block _ (lt_block HX.out.1)).trans HX.out.1
            obtain ⟨⟨c0, c1, c2, c3, c4, c5, c6⟩, d0, d1, d2, d3, d4, d5, d6⟩ := seven hx'
            have H7 := Lib.hid (And.intro hx' (HX.out.2.trans ((b1'.trans (b2.mono b1'.size)).mono HX.out.2.size)))
            clear hx' b1' b2
            go_wp2_with fail
            have hz := set7_heap H7.out.1 (.int .i64 7) (.int .i64 i) (.int .i64 1) (.int .i64 1) (.string { data := #[] }) (.slice none 0 0) (.int .i64 i)
            obtain ⟨WZ, hWZ⟩ : ∃ W, W = set7 w2 w.heap.size (.int .i64 7) (.int .i64 i) (.int .i64 1) (.int .i64 1) (.string { data := #[] }) (.slice none 0 0) (.int .i64 i) := ⟨_, rfl⟩
            rw [← hWZ] at hz
            have z := (seven hz).1
            have hWZ' := hWZ
            unfold set7 at hWZ'
            rw [← hWZ']
            have HBZ : Below w.heap.size w WZ := by rw [hWZ]; exact set7_below H7.out.2 (Nat.le_refl _) _ _ _ _ _ _ _
            refine bodyPost_ret (v := (.tuple #[.agg #[.int .i64 7, .int .i64 i, .int .i64 1, .int .i64 1, .string { data := #[] }, .slice none 0 0, .int .i64 i], .int .i64 ((i : Int) + 1 + m), .bool true])) (by simp [results, Tryd.results24, go_sem, z.1, z.2.1, z.2.2.1, z.2.2.2.1, z.2.2.2.2.1, z.2.2.2.2.2.1, z.2.2.2.2.2.2]) rfl ?_
            refine ⟨datum 1 1 [] i, _, _, rfl, ?_, HBZ⟩
            have ho := HM.out.1
            rw [if_neg (fun h => HN.out.1 h.1), if_pos HN.out.2] at ho
            rw [ho]
            exact ⟨rfl, rfl, by omega⟩
          · have c4 : X = [116, 114, 117, 101] := c2.resolve_left c3
            rw [decide_eq_false c3] at q2
            rw [decide_eq_true c4] at q3
            clear c1 c2 c3 c4
            go_wp2_with fail
            refine (TD.out _ _ _ _).mono ?_
            rintro e w2 ⟨rfl, b2⟩
            have b1' := Below.refl (w.alloc (.cells #[.int .i64 0, .int .i64 0, .int .i64 0, .int .i64 0, .string { data := #[] }, .slice none 0 0, .int .i64 0] 37)).heap.size (w.alloc (.cells #[.int .i64 0, .int .i64 0, .int .i64 0, .int .i64 0, .string { data := #[] }, .slice none 0 0, .int .i64 0] 37))
            have hx' := ((b1'.trans (b2.mono b1'.size)).block _ (lt_block HX.out.1)).trans HX.out.1
            obtain ⟨⟨c0, c1, c2, c3, c4, c5, c6⟩, d0, d1, d2, d3, d4, d5, d6⟩ := seven hx'
            have H7 := Lib.hid (And.intro hx' (HX.out.2.trans ((b1'.trans (b2.mono b1'.size)).mono HX.out.2.size)))
            clear hx' b1' b2
            go_wp2_with fail
            have hz := set7_heap H7.out.1 (.int .i64 7) (.int .i64 i) (.int .i64 1) (.int .i64 1) (.string { data := #[] }) (.slice none 0 0) (.int .i64 i)
            obtain ⟨WZ, hWZ⟩ : ∃ W, W = set7 w2 w.heap.size (.int .i64 7) (.int .i64 i) (.int .i64 1) (.int .i64 1) (.string { data := #[] }) (.slice none 0 0) (.int .i64 i) := ⟨_, rfl⟩
            rw [← hWZ] at hz
            have z := (seven hz).1
            have hWZ' := hWZ
            unfold set7 at hWZ'
            rw [← hWZ']
            have HBZ : Below w.heap.size w WZ := by rw [hWZ]; exact set7_below H7.out.2 (Nat.le_refl _) _ _ _ _ _ _ _
            refine bodyPost_ret (v := (.tuple #[.agg #[.int .i64 7, .int .i64 i, .int .i64 1, .int .i64 1, .string { data := #[] }, .slice none 0 0, .int .i64 i], .int .i64 ((i : Int) + 1 + m), .bool true])) (by simp [results, Tryd.results24, go_sem, z.1, z.2.1, z.2.2.1, z.2.2.2.1, z.2.2.2.2.1, z.2.2.2.2.2.1, z.2.2.2.2.2.2]) rfl ?_
            refine ⟨datum 1 1 [] i, _, _, rfl, ?_, HBZ⟩
            have ho := HM.out.1
            rw [if_neg (fun h => HN.out.1 h.1), if_pos HN.out.2] at ho
            rw [ho]
            exact ⟨rfl, rfl, by omega⟩
        · have n2 : ¬ X = [116] := fun h => c2 (Or.inl h)
          have n3 : ¬ X = [116, 114, 117, 101] := fun h => c2 (Or.inr h)
          rw [decide_eq_false n2] at q2
          rw [decide_eq_false n3] at q3
          by_cases c3 : X = [102] ∨ X = [102, 97, 108, 115, 101]
          · have HN := Lib.hid (And.intro c1 (And.intro c2 c3))
            by_cases c4 : X = [102]
            · rw [decide_eq_true c4] at q4
              clear c1 c2 c3 c4 n2 n3
              go_wp2_with fail
              refine (TD.out _ _ _ _).mono ?_
              rintro e w2 ⟨rfl, b2⟩
              have b1' := Below.refl (w.alloc (.cells #[.int .i64 0, .int .i64 0, .int .i64 0, .int .i64 0, .string { data := #[] }, .slice none 0 0, .int .i64 0] 37)).heap.size (w.alloc (.cells #[.int .i64 0, .int .i64 0, .int .i64 0, .int .i64 0, .string { data := #[] }, .slice none 0 0, .int .i64 0] 37))
              have hx' := ((b1'.trans (b2.mono b1'.size)).block _ (lt_block HX.out.1)).trans HX.out.1
              obtain ⟨⟨c0, c1, c2, c3, c4, c5, c6⟩, d0, d1, d2, d3, d4, d5, d6⟩ := seven hx'
              have H7 := Lib.hid (And.intro hx' (HX.out.2.trans ((b1'.trans (b2.mono b1'.size)).mono HX.out.2.size)))
              clear hx' b1' b2
              go_wp2_with fail
              have hz := set7_heap H7.out.1 (.int .i64 7) (.int .i64 i) (.int .i64 1) (.int .i64 0) (.string { data := #[] }) (.slice none 0 0) (.int .i64 i)
              obtain ⟨WZ, hWZ⟩ : ∃ W, W = set7 w2 w.heap.size (.int .i64 7) (.int .i64 i) (.int .i64 1) (.int .i64 0) (.string { data := #[] }) (.slice none 0 0) (.int .i64 i) := ⟨_, rfl⟩
              rw [← hWZ] at hz
              have z := (seven hz).1
              have hWZ' := hWZ
              unfold set7 at hWZ'
              rw [← hWZ']
              have HBZ : Below w.heap.size w WZ := by rw [hWZ]; exact set7_below H7.out.2 (Nat.le_refl _) _ _ _ _ _ _ _
              refine bodyPost_ret (v := (.tuple #[.agg #[.int .i64 7, .int .i64 i, .int .i64 1, .int .i64 0, .string { data := #[] }, .slice none 0 0, .int .i64 i], .int .i64 ((i : Int) + 1 + m), .bool true])) (by simp [results, Tryd.results24, go_sem, z.1, z.2.1, z.2.2.1, z.2.2.2.1, z.2.2.2.2.1, z.2.2.2.2.2.1, z.2.2.2.2.2.2]) rfl ?_
              refine ⟨datum 1 0 [] i, _, _, rfl, ?_, HBZ⟩
              have ho := HM.out.1
              rw [if_neg (fun h => HN.out.1 h.1), if_neg HN.out.2.1, if_pos HN.out.2.2] at ho
              rw [ho]
              exact ⟨rfl, rfl, by omega⟩
            · have c5 : X = [102, 97, 108, 115, 101] := c3.resolve_left c4
              rw [decide_eq_false c4] at q4
              rw [decide_eq_true c5] at q5
              clear c1 c2 c3 c4 c5 n2 n3
              go_wp2_with fail
              refine (TD.out _ _ _ _).mono ?_
              rintro e w2 ⟨rfl, b2⟩
              have b1' := Below.refl (w.alloc (.cells #[.int .i64 0, .int .i64 0, .int .i64 0, .int .i64 0, .string { data := #[] }, .slice none 0 0, .int .i64 0] 37)).heap.size (w.alloc (.cells #[.int .i64 0, .int .i64 0, .int .i64 0, .int .i64 0, .string { data := #[] }, .slice none 0 0, .int .i64 0] 37))
              have hx' := ((b1'.trans (b2.mono b1'.size)).block _ (lt_block HX.out.1)).trans HX.out.1
              obtain ⟨⟨c0, c1, c2, c3, c4, c5, c6⟩, d0, d1, d2, d3, d4, d5, d6⟩ := seven hx'
              have H7 := Lib.hid (And.intro hx' (HX.out.2.trans ((b1'.trans (b2.mono b1'.size)).mono HX.out.2.size)))
              clear hx' b1' b2
              go_wp2_with fail
              have hz := set7_heap H7.out.1 (.int .i64 7) (.int .i64 i) (.int .i64 1) (.int .i64 0) (.string { data := #[] }) (.slice none 0 0) (.int .i64 i)
              obtain ⟨WZ, hWZ⟩ : ∃ W, W = set7 w2 w.heap.size (.int .i64 7) (.int .i64 i) (.int .i64 1) (.int .i64 0) (.string { data := #[] }) (.slice none 0 0) (.int .i64 i) := ⟨_, rfl⟩
              rw [← hWZ] at hz
              have z := (seven hz).1
              have hWZ' := hWZ
              unfold set7 at hWZ'
              rw [← hWZ']
              have HBZ : Below w.heap.size w WZ := by rw [hWZ]; exact set7_below H7.out.2 (Nat.le_refl _) _ _ _ _ _ _ _
              refine bodyPost_ret (v := (.tuple #[.agg #[.int .i64 7, .int .i64 i, .int .i64 1, .int .i64 0, .string { data := #[] }, .slice none 0 0, .int .i64 i], .int .i64 ((i : Int) + 1 + m), .bool true])) (by simp [results, Tryd.results24, go_sem, z.1, z.2.1, z.2.2.1, z.2.2.2.1, z.2.2.2.2.1, z.2.2.2.2.2.1, z.2.2.2.2.2.2]) rfl ?_
              refine ⟨datum 1 0 [] i, _, _, rfl, ?_, HBZ⟩
              have ho := HM.out.1
              rw [if_neg (fun h => HN.out.1 h.1), if_neg HN.out.2.1, if_pos HN.out.2.2] at ho
              rw [ho]
              exact ⟨rfl, rfl, by omega⟩
          · have n4 : ¬ X = [102] := fun h => c3 (Or.inl h)
            have n5 : ¬ X = [102, 97, 108, 115, 101] := fun h => c3 (Or.inr h)
            rw [decide_eq_false n4] at q4
            rw [decide_eq_false n5] at q5
            have HN := Lib.hid (And.intro c1 (And.intro c2 c3))
            clear c1 c2 c3 n2 n3 n4 n5
            go_wp2_with fail
            refine (TD.out _ _ _ _).mono ?_
            rintro e w2 ⟨rfl, b2⟩
            have b1' := Below.refl (w.alloc (.cells #[.int .i64 0, .int .i64 0, .int .i64 0, .int .i64 0, .string { data := #[] }, .slice none 0 0, .int .i64 0] 37)).heap.size (w.alloc (.cells #[.int .i64 0, .int .i64 0, .int .i64 0, .int .i64 0, .string { data := #[] }, .slice none 0 0, .int .i64 0] 37))
            have hx' := ((b1'.trans (b2.mono b1'.size)).block _ (lt_block HX.out.1)).trans HX.out.1
            obtain ⟨⟨c0, c1, c2, c3, c4, c5, c6⟩, d0, d1, d2, d3, d4, d5, d6⟩ := seven hx'
            have H7 := Lib.hid (And.intro hx' (HX.out.2.trans ((b1'.trans (b2.mono b1'.size)).mono HX.out.2.size)))
            clear hx' b1' b2
            go_wp2_with fail
            have hz := set7_heap H7.out.1 (.int .i64 7) (.int .i64 i) (.int .i64 1) (.int .i64 0) (.string { data := #[] }) (.slice none 0 0) (.int .i64 i)
            obtain ⟨WZ, hWZ⟩ : ∃ W, W = set7 w2 w.heap.size (.int .i64 7) (.int .i64 i) (.int .i64 1) (.int .i64 0) (.string { data := #[] }) (.slice none 0 0) (.int .i64 i) := ⟨_, rfl⟩
            rw [← hWZ] at hz
            have z := (seven hz).1
            have hWZ' := hWZ
            unfold set7 at hWZ'
            rw [← hWZ']
            have HBZ : Below w.heap.size w WZ := by rw [hWZ]; exact set7_below H7.out.2 (Nat.le_refl _) _ _ _ _ _ _ _
            refine bodyPost_ret (v := (.tuple #[.agg #[.int .i64 7, .int .i64 i, .int .i64 1, .int .i64 0, .string { data := #[] }, .slice none 0 0, .int .i64 i], .int .i64 ((i : Int) + 1 + m), .bool false])) (by simp [results, Tryd.results24, go_sem, z.1, z.2.1, z.2.2.1, z.2.2.2.1, z.2.2.2.2.1, z.2.2.2.2.2.1, z.2.2.2.2.2.2]) rfl ?_
            refine ⟨datum 1 0 [] i, _, _, rfl, ?_, HBZ⟩
            have ho := HM.out.1
            rw [if_neg (fun h => HN.out.1 h.1), if_neg HN.out.2.1, if_neg HN.out.2.2] at ho
            rw [ho]
            rfl
end Go.Proofs.YtgnnkfdpfmlajaaDoor
