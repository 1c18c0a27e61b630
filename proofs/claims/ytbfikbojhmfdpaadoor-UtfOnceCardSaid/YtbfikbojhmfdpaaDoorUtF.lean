/- Contracts: the document's chars of bytes. Conditions: at most 2000 bytes. -/
import Derived.Test.YtbfikbojhmfdpaaDoorUtE
import Derived.Lib.AppendZeros
namespace Go.Proofs.YtbfikbojhmfdpaaDoor
open Go.RowKit Bg
set_option linter.unusedVariables false
set_option linter.unusedSimpArgs false


/-- The cells of a row of chars. -/
def cc : Nat → List Int → List Value
  | _, [] => []
  | k, c :: cs => .int .i64 c :: .int .i64 (k : Int) :: cc (k + (enc c).length) cs
theorem cc_len : ∀ (k : Nat) (cs : List Int), (cc k cs).length = cs.length * 2
  | _, [] => rfl
  | k, c :: cs => by
    simp only [cc, List.length_cons, cc_len (k + (enc c).length) cs]
    omega
theorem cc_snoc (c : Int) : ∀ (k : Nat) (cs : List Int), cc k (cs ++ [c]) = cc k cs ++ [.int .i64 c, .int .i64 ((k + (flat cs).length : Nat) : Int)]
  | k, [] => by simp [cc, flat]
  | k, d :: cs => by
    simp only [List.cons_append, cc, cc_snoc c (k + (enc d).length) cs]
    rw [flat_cons, List.length_append, Nat.add_assoc]
theorem cc_code : ∀ (k : Nat) (cs : List Int) (i : Nat), i < cs.length → (cc k cs)[i * 2]? = some (.int .i64 (cs.getD i 0))
  | k, [], i, h => absurd h (Nat.not_lt_zero _)
  | k, c :: cs, 0, h => rfl
  | k, c :: cs, i + 1, h => by
    have e : (i + 1) * 2 = i * 2 + 1 + 1 := by omega
    rw [e]
    simp only [cc, List.getElem?_cons_succ, List.getD_cons_succ]
    exact cc_code _ cs i (by simpa using h)
theorem cc_pos : ∀ (k : Nat) (cs : List Int) (i : Nat), i < cs.length → (cc k cs)[i * 2 + 1]? = some (.int .i64 ((k + (flat (cs.take i)).length : Nat) : Int))
  | k, [], i, h => absurd h (Nat.not_lt_zero _)
  | k, c :: cs, 0, h => by simp [cc, flat]
  | k, c :: cs, i + 1, h => by
    have e : (i + 1) * 2 + 1 = (i * 2 + 1) + 1 + 1 := by omega
    rw [e]
    simp only [cc, List.getElem?_cons_succ, List.take_succ_cons]
    rw [cc_pos _ cs i (by simpa using h), flat_cons, List.length_append, Nat.add_assoc]
theorem cc_one : ∀ (k : Nat) (cs : List Int), ∀ u ∈ cc k cs, u.oneCell' = true
  | _, [], u, h => by cases h
  | k, c :: cs, u, h => by
    simp only [cc, List.mem_cons] at h
    rcases h with rfl | rfl | h
    · rfl
    · rfl
    · exact cc_one _ cs u h
/-- A row of chars of the call's own. -/
def CR (E : TypeId) (B : Nat) (w : World) (v : Value) (cs : List Int) : Prop := w.ownsRow B E 2 v cs.length (cc 0 cs)
theorem CR.nil (E : TypeId) (B : Nat) (w : World) : CR E B w (.slice none 0 0) [] := World.ownsRow_nil _ _ _ _
theorem CR.below {E : TypeId} {B : Nat} {w w' : World} {v : Value} {cs : List Int} (h : CR E B w v cs) (hb : Below w.heap.size w w') : CR E B w' v cs := by
  rcases h.2 with h0 | ⟨g, cap, cur, hv, hB, hg, hcap, hmax, hcs, htake⟩
  · exact ⟨h.1, Or.inl h0⟩
  · exact ⟨h.1, Or.inr ⟨g, cap, cur, hv, hB, (hb.block g (lt_block hg)).trans hg, hcap, hmax, hcs, htake⟩⟩
theorem CR.shape {E : TypeId} {B : Nat} {w : World} {v : Value} {cs : List Int} (h : CR E B w v cs) : ∃ p c, v = .slice p cs.length c := by
  rcases h.2 with ⟨rfl, h0⟩ | ⟨g, cap, cur, rfl, -⟩
  · exact ⟨none, 0, by rw [h0]⟩
  · exact ⟨_, _, rfl⟩
theorem CR.at {E : TypeId} {B : Nat} {w : World} {p : Option Addr} {c n : Nat} {cs : List Int} (h : CR E B w (.slice p n c) cs) (h0 : 0 < cs.length) : n = cs.length ∧ ∃ g, p = some ⟨g, 0, none⟩ ∧ n ≤ c ∧ c ≤ 9223372036854775807 ∧ ∀ i, i < cs.length → w.cell? ⟨g, i * 2, none⟩ = some (.int .i64 (cs.getD i 0)) ∧ w.cell? ⟨g, i * 2 + 1, none⟩ = some (.int .i64 ((flat (cs.take i)).length : Int)) := by
  rcases h.2 with ⟨hv, hz⟩ | ⟨g, cap, cur, hv, hB, hg, hcap, hmax, hcs, htake⟩
  · omega
  · cases hv
    refine ⟨rfl, g, rfl, hcap, by unfold maxLen at hmax; omega, fun i hi => ⟨?_, ?_⟩⟩
    · rw [World.ownsRow.cellAt h (i * 2) (by omega)]
      exact cc_code 0 cs i hi
    · rw [World.ownsRow.cellAt h (i * 2 + 1) (by omega), cc_pos 0 cs i hi, Nat.zero_add]
theorem app_char {S E : TypeId} (hu : Tryd.prog.underlying S = some (.slice E)) (hinf : ∃ i, Tryd.prog.info? E = some i ∧ i.zero = some (.agg #[.int .i64 0, .int .i64 0]) ∧ i.size = 2 ∧ i.bytes = 16)
    {w : World} {B : Nat} {v : Value} {cs : List Int} {c : Int} (h : CR E B w v cs) (hm : cs.length + 1 ≤ 1000000) (hB : B ≤ w.heap.size) :
    ∃ v' w', (Builtin.append_ #[S, S] S #[v, .slice (some ⟨w.heap.size, 0, none⟩) 1 1]).run Tryd.prog (w.alloc (.cells #[.int .i64 c, .int .i64 ((flat cs).length : Int)] E)) = .ok v' w' ∧ CR E B w' v' (cs ++ [c]) ∧ Below B w w' := by
  obtain ⟨i0, hi, hz0, hz1, hz2⟩ := hinf
  have hb0 : Below w.heap.size w (w.alloc (.cells #[.int .i64 c, .int .i64 ((flat cs).length : Int)] E)) := (Below.refl _ _).alloc (Nat.le_refl _) _
  have h' := h.below hb0
  obtain ⟨v', w', hr, h1, h2, -⟩ := run_append_own (P := Tryd.prog) (w.alloc (.cells #[.int .i64 c, .int .i64 ((flat cs).length : Int)] E)) B S S E i0 (.agg #[.int .i64 0, .int .i64 0]) 2 16 hu hi hz0 hz1 hz2 rfl (by decide) v cs.length (cc 0 cs) h' ⟨w.heap.size, 0, none⟩ 1 1 [.int .i64 c, .int .i64 ((flat cs).length : Int)] rfl (fun j u hu => by
      have e := heap_new w (.cells #[.int .i64 c, .int .i64 ((flat cs).length : Int)] E)
      rw [add_at, Nat.zero_add]
      unfold World.cell?
      rw [e]
      rcases (show j = 0 ∨ j = 1 ∨ 2 ≤ j by omega) with rfl | rfl | hj
      · simpa using hu
      · simpa using hu
      · rw [List.getElem?_eq_none (by simpa using hj)] at hu
        cases hu) (by intro u hu; simp at hu; rcases hu with rfl | rfl <;> rfl) (by unfold maxLen; omega) (by omega) (by have := hb0.size; omega)
  refine ⟨v', w', hr, ?_, ?_⟩
  · unfold CR
    rw [cc_snoc, List.length_append, Nat.zero_add]
    exact h1
  · exact (hb0.mono hB).trans ((Below.refl _ _).grown h2 (by have := hb0.size; omega) (fun q hq => (World.ownsRow.lt h' q hq).1))
theorem infC47 : ∃ i, Tryd.prog.info? 47 = some i ∧ i.zero = some (.agg #[.int .i64 0, .int .i64 0]) ∧ i.size = 2 ∧ i.bytes = 16 := by
  have h : (Tryd.prog.info? 47).map (fun i => (i.zero, i.size, i.bytes)) = some (some (.agg #[.int .i64 0, .int .i64 0]), 2, 16) := by kernel_rfl
  cases hi : Tryd.prog.info? 47 with
  | none => rw [hi] at h; cases h
  | some i => rw [hi] at h; simp at h; exact ⟨i, rfl, h.1, h.2.1, h.2.2⟩
theorem infC46 : ∃ i, Tryd.prog.info? 46 = some i ∧ i.zero = some (.agg #[.int .i64 0, .int .i64 0]) ∧ i.size = 2 ∧ i.bytes = 16 := by
  have h : (Tryd.prog.info? 46).map (fun i => (i.zero, i.size, i.bytes)) = some (some (.agg #[.int .i64 0, .int .i64 0]), 2, 16) := by kernel_rfl
  cases hi : Tryd.prog.info? 46 with
  | none => rw [hi] at h; cases h
  | some i => rw [hi] at h; simp at h; exact ⟨i, rfl, h.1, h.2.1, h.2.2⟩
/-- The error, its place, and the chars that are handed back. -/
def aE (rest : List Int) : Int := if rest = [] then 0 else 4
def aP (l rest : List Int) : Int := if rest = [] then 0 else ((l.length - rest.length : Nat) : Int)
def aL (cs rest : List Int) : List Int := if rest = [] then cs else []
def AllIs (E B : Nat) (w' : World) (l : List Int) (v : Value) (e p : Int) : Prop := ∃ cs rest, Split l cs rest ∧ e = aE rest ∧ p = aP l rest ∧ CR E B w' v (aL cs rest)
set_option maxRecDepth 100000 in
set_option maxHeartbeats 20000000 in
theorem rall_at {w : World} {p : Option Addr} {c : Nat} {l : List Int} (a : Arg .u8 w p c l) (hb : Byts l) (hl : l.length ≤ 2000) :
    Calls Tryd.prog 18 #[.slice p l.length c] w fun e w' => ∃ v x y, e = .returned (.tuple #[v, .int .i64 x, .int .i64 y]) ∧ AllIs 47 w.heap.size w' l v x y ∧ Below w.heap.size w w' := by
  have HA := Lib.hid (And.intro @a.below (And.intro hb hl))
  obtain ⟨L, hL⟩ : ∃ L, L = l.length := ⟨_, rfl⟩
  have HL := Lib.hid hL
  rw [← hL] at hl ⊢
  clear a hb hL
  go_enter Tryd.func18, Tryd.ntmps18
  go_wp2_with fail
  go_loopw [5, 6] (fun v t wr => ∃ cs : List Int, t = .int .i64 ((flat cs).length : Int) ∧ (flat cs).length ≤ L ∧ Hid (CR 47 w.heap.size wr v cs ∧ Below w.heap.size w wr ∧ AllC cs ∧ l = flat cs ++ l.drop (flat cs).length)) (fun _ t _ => L - (intOf t).toNat)
  case atStart => exact ⟨[], rfl, Nat.zero_le _, Lib.hid ⟨CR.nil _ _ _, Below.refl _ _, fun c hc => (by cases hc), rfl⟩⟩
  case round =>
    obtain ⟨cs, rfl, hle, HI⟩ := hrel
    obtain ⟨k, hk⟩ : ∃ k, k = (flat cs).length := ⟨_, rfl⟩
    rw [← hk] at hle HI ⊢
    have HK := Lib.hid hk
    clear hk
    by_cases hlt : k < L
    · have d1 : decide ((k : Int) < (L : Int)) = true := by rw [decide_eq_true_eq]; omega
      have f1 : (k : Int) < (L : Int) := by omega
      have T := rget_at (HA.out.1 _ HI.out.2.1) HA.out.2.1 (by have := HA.out.2.2; omega) (k : Int)
      rw [← HL.out] at T
      cases hc : chr (l.drop k) with
      | none =>
        obtain ⟨e1, e2, e3⟩ := g_none (by rw [← HL.out]; exact hlt) hc
        rw [e1, e2, e3] at T
        replace T := Lib.hid T
        have HC := Lib.hid hc
        clear hc e1 e2 e3
        go_wp2_with (go_at_call 13; refine T.out.mono ?_; rintro e w' ⟨rfl, BB⟩; replace BB := Lib.hid BB)
        go_ret3
        have hrn : l.drop k ≠ [] := fun h => by
          have := congrArg List.length h
          rw [List.length_drop, ← HL.out] at this
          simp at this
          omega
        refine ⟨_, _, _, rfl, ⟨cs, l.drop k, ⟨HI.out.2.2.1, HI.out.2.2.2, HC.out⟩, by unfold aE; rw [if_neg hrn], ?_, ?_⟩, HI.out.2.1.trans (BB.out.mono HI.out.2.1.size)⟩
        · unfold aP
          rw [if_neg hrn, List.length_drop, ← HL.out]
          congr 1
          omega
        · unfold aL
          rw [if_neg hrn]
          exact CR.nil _ _ _
      | some x =>
        obtain ⟨ch, n⟩ := x
        obtain ⟨e1, e2, e3⟩ := g_some (by rw [← HL.out]; exact hlt) hc
        rw [e1, e2, e3] at T
        replace T := Lib.hid T
        have HC := Lib.hid hc
        have hn := chr_lt (HA.out.2.1.drop k) hc
        rw [List.length_drop, ← HL.out] at hn
        clear hc e1 e2 e3
        have hcl : cs.length ≤ 2000 := by have := (flat_len cs).1; rw [← HK.out] at this; omega
        have hws : IntKind.i64.wrap ((k : Int) + (n : Int)) = (k : Int) + (n : Int) := by rw [wrap_small _ (by omega) (by omega)]
        go_wp2_with fail
        refine T.out.mono ?_
        rintro e w1 ⟨rfl, BB⟩
        obtain ⟨v2, w2, hr, ho, hb⟩ := app_char (c := ch) Tryd.underlying42 infC47 (HI.out.1.below BB) (by omega) (HI.out.2.1.trans (BB.mono HI.out.2.1.size)).size
        rw [← HK.out] at hr
        have HR := Lib.hid (And.intro hr (And.intro ho ((HI.out.2.1.trans (BB.mono HI.out.2.1.size)).trans hb)))
        clear hr ho hb BB
        go_wp2_with (at_builtin; go_loud (refine Lib.wpList_append_run _ rfl _ _ 42 42 rfl u5 (.slice (some ⟨w1.heap.size, 0, none⟩) 1 1) rfl rfl v2 w2 HR.out.1 ?_))
        go_roundw
        case rel =>
          obtain ⟨e1, e2, e3⟩ := chr_some (HA.out.2.1.drop k) HC.out
          have hkn : (flat (cs ++ [ch])).length = k + n := by rw [flat_snoc, List.length_append, ← HK.out, e2]
          refine ⟨cs ++ [ch], by rw [hkn]; rfl, by rw [hkn]; omega, Lib.hid ⟨HR.out.2.1, HR.out.2.2, fun c hc => ?_, ?_⟩⟩
          · rcases List.mem_append.1 hc with h | h
            · exact HI.out.2.2.1 c h
            · simp at h
              rw [h]
              exact e1
          · rw [hkn, flat_snoc, List.append_assoc, ← List.drop_drop, e3]
            exact HI.out.2.2.2
        case measure => simp only [intOf]; omega
    · have d1 : decide ((k : Int) < (L : Int)) = false := by rw [decide_eq_false_iff_not]; omega
      have f1 : ¬ (k : Int) < (L : Int) := by omega
      go_wp2_with fail
      go_ret3
      have h0 : l.drop k = [] := List.drop_eq_nil_of_le (by rw [← HL.out]; omega)
      refine ⟨_, _, _, rfl, ⟨cs, [], ⟨HI.out.2.2.1, by have := HI.out.2.2.2; rwa [h0] at this, chr_nil⟩, by simp [aE], by simp [aP], ?_⟩, HI.out.2.1⟩
      unfold aL
      rw [if_pos rfl]
      exact HI.out.1
end Go.Proofs.YtbfikbojhmfdpaaDoor
