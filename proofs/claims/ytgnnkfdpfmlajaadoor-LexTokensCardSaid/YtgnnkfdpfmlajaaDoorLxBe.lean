/- Contracts: the program's integers. Conditions: none. -/
import Derived.Test.YtgnnkfdpfmlajaaDoorLxBd
import Derived.Test.YtgnnkfdpfmlajaaDoorLxZb
namespace Go.Proofs.YtgnnkfdpfmlajaaDoor
open Go.RowKit Bg Lx Go.Lib
set_option linter.unusedVariables false
set_option linter.unusedSimpArgs false

theorem noDigit_pred (w : World) : PredAt Tryd.prog 65 #[] encR (fun r => decide (r < 48) || decide (57 < r)) w := fun W r _ => by
  unfold FnGives
  by_cases h1 : r < 48 <;> by_cases h2 : 57 < r
  all_goals
    have z1 : (r : Int) < 48 ↔ r < 48 := by omega
    have z2 : (57 : Int) < (r : Int) ↔ 57 < r := by omega
    go_enter Tryd.func65, Tryd.ntmps65
    go_wp2
    all_goals first | (exfalso; omega) | (go_ret; exact ⟨by simp [h1, h2], 0, rfl⟩)
theorem decZ_one {l : List Int} {i : Nat} (hi : i < l.length) (h0 : 0 ≤ l.getD i 0) (h1 : l.getD i 0 < 128) : decZ (l.drop i) = ((l.getD i 0).toNat, 1) := by
  unfold decZ Lib.decodeN
  rw [drop_getD]
  simp only [Nat.add_zero]
  rw [if_pos (by omega)]
/-- No digit stands among these bytes, which are all below 128. -/
theorem idx_all {l : List Int} (hb : ∀ x ∈ l, 0 ≤ x ∧ x < 128) : ∀ (f i : Nat), i ≤ l.length → l.length ≤ i + f → decide (0 ≤ Lib.idxFuncFrom (fun r => decide (r < 48) || decide (57 < r)) true (strOfNums l) f i) = !((l.drop i).all digitB)
  | f, i, h1, h2 => by
    have hB : Byts l := fun x hx => by have := hb x hx; omega
    by_cases hi : i < l.length
    · obtain ⟨g, rfl⟩ : ∃ g, f = g + 1 := ⟨f - 1, by omega⟩
      have hx : 0 ≤ l.getD i 0 ∧ l.getD i 0 < 128 := by
        rw [List.getD_eq_getElem?_getD, List.getElem?_eq_getElem hi]
        exact hb _ (List.getElem_mem hi)
      unfold Lib.idxFuncFrom
      rw [if_pos (by rw [str_size]; exact hi), decode_str hB, decZ_one hi hx.1 hx.2, drop_cons hi, List.all_cons]
      have ih := idx_all hb g (i + 1) (by omega) (by omega)
      obtain ⟨y, hy⟩ : ∃ y, y = l.getD i 0 := ⟨_, rfl⟩
      rw [← hy] at hx ⊢
      simp only []
      by_cases hd : 48 ≤ y ∧ y ≤ 57
      · have e1 : digitB y = true := by unfold digitB; exact decide_eq_true hd
        rw [if_neg (by simp; omega), e1, Bool.true_and]
        exact ih
      · have e1 : digitB y = false := by unfold digitB; exact decide_eq_false hd
        rw [if_pos (by simp; omega), e1]
        simp
    · rw [List.drop_eq_nil_of_le (by omega)]
      rw [Lib.idxFuncFrom_end _ _ _ _ _ (by rw [str_size]; exact hi)]
      decide
theorem contains_at (s : ByteArray) (hb : ∀ x ∈ byL s, 0 ≤ x ∧ x < 128) (w : World) : Calls Tryd.prog 64 #[.string s, .func (.func 65) #[] #[]] w fun e w' => e = .returned (.bool (!((byL s).all digitB))) ∧ Below w.heap.size w w' := by
  have h := Tryd.strings_ContainsFunc 65 #[] (enters_of Tryd.func65 (by kernel_rfl) rfl) _ s w (noDigit_pred w)
  have e := idx_all hb s.size 0 (Nat.zero_le _) (by rw [byL_len]; omega)
  rw [List.drop_zero, str_byL] at e
  have e2 : decide (0 ≤ Lib.idxFunc (fun r => decide (r < 48) || decide (57 < r)) true s) = !((byL s).all digitB) := e
  rw [e2] at h
  exact h
theorem noughts_u8 : ∀ l : List UInt8, (l.dropWhile (· == 48)).map (fun b => (b.toNat : Int)) = noughts (l.map fun b => (b.toNat : Int))
  | [] => rfl
  | c :: l => by
    unfold noughts
    rw [List.map_cons, List.dropWhile_cons, List.dropWhile_cons]
    have e : (c == 48) = decide ((c.toNat : Int) = 48) := by
      rw [Bool.eq_iff_iff, beq_iff_eq, decide_eq_true_eq]
      constructor
      · rintro rfl; rfl
      · intro h; exact UInt8.toNat_inj.1 (by show c.toNat = 48; omega)
    rw [e]
    cases decide ((c.toNat : Int) = 48) with
    | true => simp only [if_true]; exact noughts_u8 l
    | false => simp
theorem trim_at (s : ByteArray) (w : World) : Calls Tryd.prog 66 #[.string s, .string ⟨#[48]⟩] w fun e w' => (∃ z, e = .returned (.string z) ∧ byL z = noughts (byL s) ∧ z.size ≤ s.size) ∧ w = w' := by
  have h := Tryd.strings_TrimLeft_one s 48 (by decide) w
  refine h.mono ?_
  rintro e w' ⟨rfl, rfl⟩
  have e1 : byL ⟨(Lib.trimLeftB s.data.toList 48).toArray⟩ = noughts (byL s) := by
    unfold byL Lib.trimLeftB
    exact noughts_u8 _
  refine ⟨⟨_, rfl, e1, ?_⟩, rfl⟩
  rw [← byL_len, ← byL_len, e1]
  unfold noughts
  exact (List.dropWhile_suffix _).length_le
theorem byL_nil {s : ByteArray} (h : byL s = []) : s = ⟨#[]⟩ := by
  have := str_byL s
  rw [h] at this
  rw [← this]
  rfl
theorem byL_ne {s : ByteArray} (h : byL s ≠ []) : s.toList.isEmpty = false := by
  rw [ByteArray.toList_eq]
  unfold byL at h
  cases hd : s.data.toList with
  | nil => rw [hd] at h; exact absurd rfl h
  | cons x t => rfl
/-- An integer's digits, as a string. -/
theorem inRet_none {s : ByteArray} (h : int (byL s) = none) (t : ByteArray) : InRet s (.returned (.tuple #[.string t, .bool false])) := ⟨t, false, rfl, by rw [h]; rfl⟩
theorem inRet_some {s : ByteArray} {x : List Int} (h : int (byL s) = some x) {t : ByteArray} (ht : byL t = x) : InRet s (.returned (.tuple #[.string t, .bool true])) := ⟨t, true, rfl, by rw [h]; exact ⟨rfl, ht⟩⟩
theorem ne_empty {s : ByteArray} (h : byL s ≠ []) : s.toList.isEmpty = false ∧ (s.toList = [] ↔ False) ∧ (!s.toList.isEmpty) = true := by
  have h1 := byL_ne h
  refine ⟨h1, ⟨fun e => (by rw [e] at h1; cases h1), fun e => e.elim⟩, by rw [h1]; rfl⟩
set_option maxRecDepth 100000 in
set_option maxHeartbeats 8000000 in
theorem pint_at (s : ByteArray) (hs : s.size ≤ 1000000) (h0 : 0 < s.size) (hb : ∀ x ∈ byL s, 0 ≤ x ∧ x < 128) (w : World) : Calls Tryd.prog 57 #[.string s] w fun e w' => InRet s e ∧ Below w.heap.size w w' := by
  have hg := byL_get s h0
  obtain ⟨x, hx⟩ : ∃ x, x = s[0].toNat := ⟨_, rfl⟩
  have hx' : s[0].toNat = x := hx.symm
  rw [← hx] at hg
  clear hx
  have f0 : (0 : Int) < (s.size : Int) := by omega
  have hI := int_digs (byL s)
  rw [hg] at hI
  rcases (show x = 43 ∨ x = 45 ∨ (x ≠ 43 ∧ x ≠ 45) by omega) with rfl | rfl | ⟨n1, n2⟩
  · have hdg : digs (byL s) = (byL s).drop 1 := by unfold digs; rw [hg, if_pos (by decide)]
    rw [hdg, show decide (((43 : Nat) : Int) = 45) = false by decide] at hI
    obtain ⟨D, hD⟩ : ∃ D, D = s.extract 1 s.size := ⟨_, rfl⟩
    have hDb : byL D = (byL s).drop 1 := by rw [hD]; exact byL_extract s 1
    rw [← hDb] at hI
    have hDa : ∀ x ∈ byL D, 0 ≤ x ∧ x < 128 := fun x hx => hb x (by rw [hDb] at hx; exact List.mem_of_mem_drop hx)
    have f1 : (1 : Int) ≤ (s.size : Int) := by omega
    by_cases hE : byL D = []
    · rw [if_pos (Or.inl hE)] at hI
      have HI := Lib.hid hI
      have hD0 := byL_nil hE
      subst hD0
      clear hI hdg hDb hDa hE hg hb
      go_enter Tryd.func57, Tryd.ntmps57
      go_upto_region 4 with fail
      rw [← hD]
      clear hD
      go_wp2_with fail
      go_ret2
      exact ⟨inRet_none HI.out _, Below.refl _ _⟩
    have hne := ne_empty hE
    cases hall : (byL D).all digitB with
    | false =>
      rw [if_pos (Or.inr hall)] at hI
      have HI := Lib.hid hI
      have T := contains_at D hDa w
      rw [hall] at T
      replace T := Lib.hid T
      obtain ⟨e1, e2, e3⟩ := hne
      clear hI hdg hDb hDa hE hg hb hall
      go_enter Tryd.func57, Tryd.ntmps57
      go_upto_region 4 with fail
      rw [← hD]
      clear hD
      go_wp2_with fail
      refine T.out.mono ?_
      rintro e w1 ⟨rfl, BB⟩
      replace BB := Lib.hid BB
      go_wp2_with fail
      go_ret2
      exact ⟨inRet_none HI.out _, BB.out⟩
    | true =>
      rw [if_neg (show ¬ (byL D = [] ∨ (byL D).all digitB = false) from fun h => h.elim hE (fun e => by rw [hall] at e; cases e))] at hI
      have HI := Lib.hid hI
      have T := contains_at D hDa w
      rw [hall] at T
      replace T := Lib.hid T
      have T2 := Lib.hid (fun W => trim_at D W)
      obtain ⟨e1, e2, e3⟩ := hne
      have hszD : D.size ≤ s.size := by rw [← byL_len, ← byL_len, hDb, List.length_drop]; omega
      clear hI hdg hDb hDa hE hg hb hall
      go_enter Tryd.func57, Tryd.ntmps57
      go_upto_region 4 with fail
      rw [← hD]
      clear hD
      go_wp2_with fail
      refine T.out.mono ?_
      rintro e w1 ⟨rfl, BB⟩
      replace BB := Lib.hid BB
      go_wp2_with fail
      refine (T2.out _).mono ?_
      rintro e w2 ⟨⟨z, rfl, hz, hzs⟩, rfl⟩
      by_cases hZ : byL z = []
      · have hz0 := byL_nil hZ
        subst hz0
        have HZ := Lib.hid hz
        clear hz hZ e1 e2 e3
        go_wp2_with fail
        go_ret2
        refine ⟨inRet_some HI.out ?_, BB.out⟩
        unfold intT
        rw [← HZ.out, if_pos (by rfl)]
        rfl
      · obtain ⟨e1, e2, e3⟩ := ne_empty hZ
        have HZ := Lib.hid (And.intro hz hZ)
        clear hz hZ
        go_wp2_with fail
        go_ret2
        refine ⟨inRet_some HI.out ?_, BB.out⟩
        unfold intT
        rw [← HZ.out.1, if_neg HZ.out.2, if_neg (by decide)]
  · have hdg : digs (byL s) = (byL s).drop 1 := by unfold digs; rw [hg, if_pos (by decide)]
    rw [hdg, show decide (((45 : Nat) : Int) = 45) = true by decide] at hI
    obtain ⟨D, hD⟩ : ∃ D, D = s.extract 1 s.size := ⟨_, rfl⟩
    have hDb : byL D = (byL s).drop 1 := by rw [hD]; exact byL_extract s 1
    rw [← hDb] at hI
    have hDa : ∀ x ∈ byL D, 0 ≤ x ∧ x < 128 := fun x hx => hb x (by rw [hDb] at hx; exact List.mem_of_mem_drop hx)
    have f1 : (1 : Int) ≤ (s.size : Int) := by omega
    by_cases hE : byL D = []
    · rw [if_pos (Or.inl hE)] at hI
      have HI := Lib.hid hI
      have hD0 := byL_nil hE
      subst hD0
      clear hI hdg hDb hDa hE hg hb
      go_enter Tryd.func57, Tryd.ntmps57
      go_upto_region 4 with fail
      rw [← hD]
      clear hD
      go_wp2_with fail
      go_ret2
      exact ⟨inRet_none HI.out _, Below.refl _ _⟩
    have hne := ne_empty hE
    cases hall : (byL D).all digitB with
    | false =>
      rw [if_pos (Or.inr hall)] at hI
      have HI := Lib.hid hI
      have T := contains_at D hDa w
      rw [hall] at T
      replace T := Lib.hid T
      obtain ⟨e1, e2, e3⟩ := hne
      clear hI hdg hDb hDa hE hg hb hall
      go_enter Tryd.func57, Tryd.ntmps57
      go_upto_region 4 with fail
      rw [← hD]
      clear hD
      go_wp2_with fail
      refine T.out.mono ?_
      rintro e w1 ⟨rfl, BB⟩
      replace BB := Lib.hid BB
      go_wp2_with fail
      go_ret2
      exact ⟨inRet_none HI.out _, BB.out⟩
    | true =>
      rw [if_neg (show ¬ (byL D = [] ∨ (byL D).all digitB = false) from fun h => h.elim hE (fun e => by rw [hall] at e; cases e))] at hI
      have HI := Lib.hid hI
      have T := contains_at D hDa w
      rw [hall] at T
      replace T := Lib.hid T
      have T2 := Lib.hid (fun W => trim_at D W)
      obtain ⟨e1, e2, e3⟩ := hne
      have hszD : D.size ≤ s.size := by rw [← byL_len, ← byL_len, hDb, List.length_drop]; omega
      clear hI hdg hDb hDa hE hg hb hall
      go_enter Tryd.func57, Tryd.ntmps57
      go_upto_region 4 with fail
      rw [← hD]
      clear hD
      go_wp2_with fail
      refine T.out.mono ?_
      rintro e w1 ⟨rfl, BB⟩
      replace BB := Lib.hid BB
      go_wp2_with fail
      refine (T2.out _).mono ?_
      rintro e w2 ⟨⟨z, rfl, hz, hzs⟩, rfl⟩
      by_cases hZ : byL z = []
      · have hz0 := byL_nil hZ
        subst hz0
        have HZ := Lib.hid hz
        clear hz hZ e1 e2 e3
        go_wp2_with fail
        go_ret2
        refine ⟨inRet_some HI.out ?_, BB.out⟩
        unfold intT
        rw [← HZ.out, if_pos (by rfl)]
        rfl
      · obtain ⟨e1, e2, e3⟩ := ne_empty hZ
        have HZ := Lib.hid (And.intro hz hZ)
        clear hz hZ
        go_wp2_with fail
        go_ret2
        refine ⟨inRet_some HI.out ?_, BB.out⟩
        unfold intT
        rw [← HZ.out.1, if_neg HZ.out.2, if_pos rfl]
        rw [byL_app]
        rfl
  · have n3 : ¬ (x : Int) = 43 := by omega
    have n4 : ¬ (x : Int) = 45 := by omega
    have n5 : ((x : Int) == 43) = false := by rw [beq_eq_false_iff_ne]; exact n3
    have n6 : ((x : Int) == 45) = false := by rw [beq_eq_false_iff_ne]; exact n4
    have hdg : digs (byL s) = byL s := by unfold digs; rw [hg, if_neg (fun h => h.elim n3 n4)]
    rw [hdg, decide_eq_false n4] at hI
    have hDa := hb
    obtain ⟨D, hD⟩ : ∃ D, D = s := ⟨_, rfl⟩
    have hI2 : int (byL s) = if byL D = [] ∨ (byL D).all digitB = false then none else some (intT false (byL D)) := by rw [hD]; exact hI
    replace hI := hI2
    clear hI2
    rw [← hD] at hDa
    by_cases hE : byL D = []
    · rw [if_pos (Or.inl hE)] at hI
      have HI := Lib.hid hI
      exact absurd (by have := byL_len D; rw [hE] at this; simp at this; rw [hD] at this; omega : (0 : Nat) < 0) (Nat.lt_irrefl _)
    have hne := ne_empty hE
    cases hall : (byL D).all digitB with
    | false =>
      rw [if_pos (Or.inr hall)] at hI
      have HI := Lib.hid hI
      have T := contains_at D hDa w
      rw [hall] at T
      replace T := Lib.hid T
      obtain ⟨e1, e2, e3⟩ := hne
      clear hI hdg hDa hE hg hb hall
      go_enter Tryd.func57, Tryd.ntmps57
      subst hD
      go_upto_region 4 with fail
      go_wp2_with fail
      refine T.out.mono ?_
      rintro e w1 ⟨rfl, BB⟩
      replace BB := Lib.hid BB
      go_wp2_with fail
      go_ret2
      exact ⟨inRet_none HI.out _, BB.out⟩
    | true =>
      rw [if_neg (show ¬ (byL D = [] ∨ (byL D).all digitB = false) from fun h => h.elim hE (fun e => by rw [hall] at e; cases e))] at hI
      have HI := Lib.hid hI
      have T := contains_at D hDa w
      rw [hall] at T
      replace T := Lib.hid T
      have T2 := Lib.hid (fun W => trim_at D W)
      obtain ⟨e1, e2, e3⟩ := hne
      have hszD : D.size ≤ s.size := by rw [hD]; exact Nat.le_refl _
      clear hI hdg hDa hE hg hb hall
      go_enter Tryd.func57, Tryd.ntmps57
      subst hD
      go_upto_region 4 with fail
      go_wp2_with fail
      refine T.out.mono ?_
      rintro e w1 ⟨rfl, BB⟩
      replace BB := Lib.hid BB
      go_wp2_with fail
      refine (T2.out _).mono ?_
      rintro e w2 ⟨⟨z, rfl, hz, hzs⟩, rfl⟩
      by_cases hZ : byL z = []
      · have hz0 := byL_nil hZ
        subst hz0
        have HZ := Lib.hid hz
        clear hz hZ e1 e2 e3
        go_wp2_with fail
        go_ret2
        refine ⟨inRet_some HI.out ?_, BB.out⟩
        unfold intT
        rw [← HZ.out, if_pos (by rfl)]
        rfl
      · obtain ⟨e1, e2, e3⟩ := ne_empty hZ
        have HZ := Lib.hid (And.intro hz hZ)
        clear hz hZ
        go_wp2_with fail
        go_ret2
        refine ⟨inRet_some HI.out ?_, BB.out⟩
        unfold intT
        rw [← HZ.out.1, if_neg HZ.out.2, if_neg (by decide)]
end Go.Proofs.YtgnnkfdpfmlajaaDoor
