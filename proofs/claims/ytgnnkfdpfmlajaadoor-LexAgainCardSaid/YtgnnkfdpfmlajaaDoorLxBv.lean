/- Plain: how long texts are. Conditions: none. -/
import Derived.Test.YtgnnkfdpfmlajaaDoorLxBt
namespace Go.Proofs.YtgnnkfdpfmlajaaDoor
open Go.RowKit Bg Lx
set_option linter.unusedVariables false
set_option linter.unusedSimpArgs false

theorem tch_enc {r : List Int} (hb : Byts r) {c : Int} {n : Nat} (h : tch r = some (c, n)) : (enc c).length ≤ n := by
  unfold tch at h
  split at h
  · unfold escO at h
    split at h
    · rename_i hh
      cases h
      rcases hh with hh | hh <;> rw [hh] <;> rw [enc_small (by decide) (by decide)] <;> decide
    split at h
    · cases h; rw [enc_small (by decide) (by decide)]; decide
    split at h
    · cases h; rw [enc_small (by decide) (by decide)]; decide
    split at h
    · rename_i hh
      cases h
      have h1 := (enc_len (hexL (hexs (r.drop 2)))).2
      have h2 : 1 ≤ (hexs (r.drop 2)).length := by
        rcases Nat.eq_zero_or_pos (hexs (r.drop 2)).length with h0 | h0
        · have h3 := hh.2.2
          rw [List.length_eq_zero_iff.1 h0] at h3
          exact absurd h3 (by decide)
        · exact h0
      omega
    · cases h
  · rw [(chr_some hb h).2.1]; exact Nat.le_refl _
theorem str_len : ∀ (m : Nat) (first i : Int) (r out : List Int), Byts r → r.length ≤ m → (str first i r out).1.length ≤ out.length + r.length
  | 0, first, i, r, out, hb, h => by
    have : r = [] := List.length_eq_zero_iff.1 (by omega)
    rw [this, str_end]; exact Nat.zero_le _
  | m + 1, first, i, r, out, hb, h => by
    by_cases h0 : r = []
    · rw [h0, str_end]; exact Nat.zero_le _
    have hp := List.length_pos_iff.2 h0
    by_cases h1 : r.getD 0 0 = 34
    · rw [str_shut _ _ _ h0 h1]; exact Nat.le_add_right _ _
    by_cases h2 : r.getD 0 0 = 92 ∧ r.length = 1
    · rw [str_cut _ _ _ h0 h2.1 h2.2]; exact Nat.zero_le _
    have h3 : r.getD 0 0 = 92 → r.length ≠ 1 := fun a b => h2 ⟨a, b⟩
    rw [str_tch _ _ _ _ hb h0 h1 h3]
    cases ht : tch r with
    | none => exact Nat.zero_le _
    | some v =>
      obtain ⟨c, n⟩ := v
      have a1 := tch_ok hb h0 h3 ht
      have a2 := tch_enc hb ht
      have := str_len m first (i + n) (r.drop n) (out ++ enc c) (hb.drop n) (by rw [List.length_drop]; omega)
      rw [List.length_drop, List.length_append] at this
      simp only []
      omega
theorem noughts_le (s : List Int) : (noughts s).length ≤ s.length := (List.dropWhile_suffix _).length_le
theorem int_le {s t : List Int} (h : int s = some t) : t.length ≤ s.length := by
  rw [int_digs] at h
  split at h
  · cases h
  rename_i hn
  cases h
  have h0 : digs s ≠ [] := fun e => hn (Or.inl e)
  have h1 : 1 ≤ (digs s).length := List.length_pos_iff.2 h0
  have h2 := noughts_le (digs s)
  unfold intT
  split
  · have : (digs s).length ≤ s.length := by unfold digs; split <;> simp
    show 1 ≤ _
    omega
  split
  · rename_i h3
    simp only [decide_eq_true_eq] at h3
    have : (digs s).length + 1 = s.length := by
      have e : digs s = s.drop 1 := by unfold digs; rw [if_pos (Or.inr h3)]
      rw [e] at h1 ⊢
      rw [List.length_drop] at h1 ⊢
      omega
    simp only [List.length_cons]
    omega
  · have : (digs s).length ≤ s.length := by unfold digs; split <;> simp
    omega
theorem mark_text {r : List Int} {p : Int} {t : Tk} {n : Nat} (h : Lx.mark r p = some (t, n)) : t.text = [] := by
  unfold Lx.mark at h
  split at h
  · cases h; rfl
  split at h
  · split at h
    · cases h
    · cases h; rfl
  split at h
  · cases h; rfl
  split at h
  · cases h; rfl
  split at h
  · cases h; rfl
  · cases h
theorem runTk_text (s : List Int) (p : Int) : (runTk s p).text.length ≤ s.length := by
  unfold runTk
  split
  · exact Nat.zero_le _
  · cases hi : int s with
    | none => exact Nat.le_refl _
    | some t => exact int_le hi
theorem one_text {r : List Int} (hb : Byts r) {p : Int} {t : Tk} {n : Nat} {l : Bool} (e : one r p = .tok t n l) : t.text.length ≤ r.length := by
  unfold one at e
  split at e
  · cases e
  split at e
  · split at e <;> cases e
  split at e
  · split at e <;> cases e
  split at e
  · cases e; exact Nat.zero_le _
  split at e
  · cases e; exact Nat.zero_le _
  split at e
  · cases e; exact Nat.zero_le _
  split at e
  · split at e
    · cases e
      have := str_len _ p (p + 1) (r.drop 1) [] (hb.drop 1) (Nat.le_refl _)
      rw [List.length_drop] at this
      show (str p (p + 1) (r.drop 1) []).1.length ≤ _
      simp only [List.length_nil] at this
      omega
    · cases e
  split at e
  · cases hm : Lx.mark r p with
    | none => rw [hm] at e; cases e
    | some v =>
      obtain ⟨t', n'⟩ := v
      rw [hm] at e
      cases e
      rw [mark_text hm]
      exact Nat.zero_le _
  split at e
  · cases e
    exact Nat.le_trans (runTk_text _ _) (run_le r)
  · cases e
theorem lex_text : ∀ (m : Nat) (p : Int) (r : List Int), Byts r → r.length ≤ m → ∀ t ∈ (lex p r).1, t.text.length ≤ r.length
  | 0, p, r, hb, h, t, ht => by
    have : r = [] := List.length_eq_zero_iff.1 (by omega)
    rw [this, lex_nil] at ht; cases ht
  | m + 1, p, r, hb, h, t, ht => by
    by_cases h0 : r = []
    · rw [h0, lex_nil] at ht; cases ht
    have hp := List.length_pos_iff.2 h0
    rw [lex, dif_neg h0] at ht
    cases e : one r p with
    | err x y => rw [e] at ht; cases ht
    | skip n =>
      have h1 := one_skip_pos hb h0 e
      rw [e] at ht
      simp only [] at ht
      have := lex_text m (p + n) (r.drop (n - 1 + 1)) (hb.drop _) (by rw [List.length_drop]; omega) t ht
      rw [List.length_drop] at this
      omega
    | tok u n lo =>
      have h1 := one_tok_pos hb h0 e
      have h2 := one_text hb e
      rw [e] at ht
      simp only [] at ht
      split at ht
      · cases ht
      · have ih := lex_text m (p + n) (r.drop (n - 1 + 1)) (hb.drop _) (by rw [List.length_drop]; omega)
        generalize lex (p + n) (r.drop (n - 1 + 1)) = z at ht ih
        obtain ⟨us, a, q⟩ := z
        simp only [] at ht ih
        split at ht
        · rcases List.mem_cons.1 ht with rfl | ht
          · exact h2
          · have := ih t ht
            rw [List.length_drop] at this
            omega
        · cases ht
theorem sym_byts {s : List Int} (h : ∀ c ∈ s, symB c = true) : Byts s := fun x hx => by
  have := h x hx
  unfold symB others digitB at this
  simp only [Bool.or_eq_true, decide_eq_true_eq, List.contains_iff_mem, List.mem_cons, List.not_mem_nil, or_false] at this
  omega
theorem ok_byts {t : Tk} (h : TkOk t) (hd : t.dk = 2 ∨ t.dk = 4 ∨ t.dk = 5) : Byts t.text := by
  rcases h with ⟨h1, h2⟩ | ⟨h1, h2⟩
  · omega
  · rcases h2 with ⟨h2, h3, h4⟩ | ⟨h2, h3, s, h4⟩ | ⟨h2, h3⟩ | ⟨h2, h3, cs, h4, h5⟩ | ⟨h2, h3, h4, h5, h6, h7⟩
    · omega
    · exact sym_byts (int_again h4).2.2.1
    · omega
    · rw [h5]; exact flat_byts cs
    · exact sym_byts h5
end Go.Proofs.YtgnnkfdpfmlajaaDoor
