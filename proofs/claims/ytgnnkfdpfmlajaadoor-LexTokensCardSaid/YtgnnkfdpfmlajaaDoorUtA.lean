/- Plain: chars and their bytes. Conditions: none. -/
import Derived.Lib.RuneBytes
import Derived.Lib.DecodeN
import Derived.Laws.BytesArg
namespace Go.Proofs.YtgnnkfdpfmlajaaDoor.Bg
open Go.Lib (encodeRuneZ decodeN)
set_option linter.unusedVariables false
set_option linter.unusedSimpArgs false

/-- A char. -/
def isC (c : Int) : Bool := decide (0 ≤ c ∧ c ≤ 1114111 ∧ (c < 55296 ∨ 57343 < c))
theorem isC_iff {c : Int} : isC c = true ↔ (0 ≤ c ∧ c ≤ 1114111 ∧ (c < 55296 ∨ 57343 < c)) := by unfold isC; exact decide_eq_true_iff
abbrev enc (c : Int) : List Int := encodeRuneZ c
def Byts (l : List Int) : Prop := ∀ x ∈ l, 0 ≤ x ∧ x < 256
theorem Byts.nil : Byts [] := fun x h => by cases h
theorem Byts.cons {x : Int} {l : List Int} (h : Byts (x :: l)) : (0 ≤ x ∧ x < 256) ∧ Byts l := ⟨h x (by simp), fun y hy => h y (by simp [hy])⟩
theorem Byts.app {a b : List Int} (ha : Byts a) (hb : Byts b) : Byts (a ++ b) := fun x hx => by
  rcases List.mem_append.1 hx with h | h
  · exact ha x h
  · exact hb x h
theorem Byts.drop {l : List Int} (h : Byts l) (n : Nat) : Byts (l.drop n) := fun x hx => h x (List.mem_of_mem_drop hx)
theorem Byts.take {l : List Int} (h : Byts l) (n : Nat) : Byts (l.take n) := fun x hx => h x (List.mem_of_mem_take hx)
theorem Byts.enc (c : Int) : Byts (enc c) := Lib.encodeRuneZ_byte c
def decZ (l : List Int) : Nat × Nat := decodeN l.length (l.getD 0 0).toNat (l.getD 1 0).toNat (l.getD 2 0).toNat (l.getD 3 0).toNat
/-- The char that begins here, and how many bytes it has. -/
def chr (l : List Int) : Option (Int × Nat) := if l = [] then none else if (decZ l).1 = 65533 ∧ (decZ l).2 = 1 then none else some (((decZ l).1 : Int), (decZ l).2)
theorem chr_nil : chr [] = none := by simp [chr]
theorem enc_cases {c : Int} (h : isC c = true) : (c < 128 ∧ enc c = [c]) ∨ (128 ≤ c ∧ c < 2048 ∧ enc c = [192 + c / 64, 128 + c % 64]) ∨ (2048 ≤ c ∧ c < 65536 ∧ enc c = [224 + c / 4096, 128 + c / 64 % 64, 128 + c % 64]) ∨ (65536 ≤ c ∧ enc c = [240 + c / 262144, 128 + c / 4096 % 64, 128 + c / 64 % 64, 128 + c % 64]) := by
  rw [isC_iff] at h
  by_cases h1 : c < 128
  · exact Or.inl ⟨h1, Lib.encodeRuneZ_one (by omega) (by omega)⟩
  by_cases h2 : c < 2048
  · exact Or.inr (Or.inl ⟨by omega, h2, Lib.encodeRuneZ_two (by omega) (by omega)⟩)
  by_cases h3 : c < 65536
  · exact Or.inr (Or.inr (Or.inl ⟨by omega, h3, Lib.encodeRuneZ_three (by omega)⟩))
  · exact Or.inr (Or.inr (Or.inr ⟨by omega, Lib.encodeRuneZ_four (by omega) (by omega)⟩))
theorem enc_len (c : Int) : 1 ≤ (enc c).length ∧ (enc c).length ≤ 4 := Lib.encodeRuneZ_length c
theorem enc_ne (c : Int) : enc c ≠ [] := fun h => by have := enc_len c; rw [h] at this; simp at this
set_option maxHeartbeats 4000000 in
/-- What is put is got. -/
theorem chr_enc {c : Int} (h : isC c = true) (t : List Int) : chr (enc c ++ t) = some (c, (enc c).length) := by
  have hc := isC_iff.1 h
  obtain ⟨n, rfl⟩ := Int.eq_ofNat_of_zero_le hc.1
  rcases enc_cases h with ⟨h1, he⟩ | ⟨h1, h2, he⟩ | ⟨h1, h2, he⟩ | ⟨h1, he⟩
  · rw [he]
    have hd : decZ ([(n : Int)] ++ t) = (n, 1) := by
      unfold decZ decodeN
      simp only [List.cons_append, List.nil_append, List.getD_cons_zero, Int.toNat_natCast]
      rw [if_pos (by omega)]
    unfold chr
    rw [hd, if_neg (by simp), if_neg (by omega)]
    rfl
  · rw [he]
    have e1 : (192 + (n : Int) / 64).toNat = 192 + n / 64 := by omega
    have e2 : (128 + (n : Int) % 64).toNat = 128 + n % 64 := by omega
    have hd : decZ ([192 + (n : Int) / 64, 128 + (n : Int) % 64] ++ t) = (n, 2) := by
      unfold decZ decodeN
      simp only [List.cons_append, List.nil_append, List.getD_cons_zero, List.getD_cons_succ, e1, e2, List.length_cons]
      rw [if_neg (by omega), if_pos (by omega), if_pos (by omega)]
      congr 1
      omega
    unfold chr
    rw [hd, if_neg (by simp), if_neg (by omega)]
    rfl
  · rw [he]
    have e1 : (224 + (n : Int) / 4096).toNat = 224 + n / 4096 := by omega
    have e2 : (128 + (n : Int) / 64 % 64).toNat = 128 + n / 64 % 64 := by omega
    have e3 : (128 + (n : Int) % 64).toNat = 128 + n % 64 := by omega
    have hd : decZ ([224 + (n : Int) / 4096, 128 + (n : Int) / 64 % 64, 128 + (n : Int) % 64] ++ t) = (n, 3) := by
      have hv : (224 + n / 4096) % 16 * 4096 + (128 + n / 64 % 64) % 64 * 64 + (128 + n % 64) % 64 = n := by omega
      unfold decZ decodeN
      simp only [List.cons_append, List.nil_append, List.getD_cons_zero, List.getD_cons_succ, e1, e2, e3, List.length_cons, hv]
      rw [if_neg (by omega), if_neg (by omega), if_pos (by omega), if_pos (by omega)]
    unfold chr
    rw [hd, if_neg (by simp), if_neg (by omega)]
    rfl
  · rw [he]
    have e1 : (240 + (n : Int) / 262144).toNat = 240 + n / 262144 := by omega
    have e2 : (128 + (n : Int) / 4096 % 64).toNat = 128 + n / 4096 % 64 := by omega
    have e3 : (128 + (n : Int) / 64 % 64).toNat = 128 + n / 64 % 64 := by omega
    have e4 : (128 + (n : Int) % 64).toNat = 128 + n % 64 := by omega
    have hd : decZ ([240 + (n : Int) / 262144, 128 + (n : Int) / 4096 % 64, 128 + (n : Int) / 64 % 64, 128 + (n : Int) % 64] ++ t) = (n, 4) := by
      have hv : (240 + n / 262144) % 8 * 262144 + (128 + n / 4096 % 64) % 64 * 4096 + (128 + n / 64 % 64) % 64 * 64 + (128 + n % 64) % 64 = n := by omega
      unfold decZ decodeN
      simp only [List.cons_append, List.nil_append, List.getD_cons_zero, List.getD_cons_succ, e1, e2, e3, e4, List.length_cons, hv]
      rw [if_neg (by omega), if_neg (by omega), if_neg (by omega), if_pos (by omega), if_pos (by omega)]
    unfold chr
    rw [hd, if_neg (by simp), if_neg (by omega)]
    rfl

theorem decZ_nat (l : List Int) (h : Byts l) : ∃ m : List Nat, l = m.map (fun (n : Nat) => (n : Int)) ∧ ∀ x ∈ m, x < 256 := by
  refine ⟨l.map Int.toNat, ?_, fun x hx => ?_⟩
  · rw [List.map_map]
    conv => lhs; rw [← List.map_id l]
    refine List.map_congr_left fun x hx => ?_
    have := h x hx
    simp only [id_eq, Function.comp]
    omega
  · obtain ⟨y, hy, rfl⟩ := List.mem_map.1 hx
    have := h y hy
    omega
theorem pair_of {a b c d : Nat} (h : (a, b) = (c, d)) : a = c ∧ b = d := by cases h; exact ⟨rfl, rfl⟩
set_option maxHeartbeats 4000000 in
/-- The forms of an answer of the decoder's. -/
theorem dec_forms {n b0 b1 b2 b3 c k : Nat} (hd : decodeN n b0 b1 b2 b3 = (c, k)) (l0 : b0 < 256) (l1 : b1 < 256) (l2 : b2 < 256) (l3 : b3 < 256) :
    (c = 65533 ∧ k = 1) ∨ (b0 < 128 ∧ c = b0 ∧ k = 1) ∨ (k = 2 ∧ 1 < n ∧ 128 ≤ c ∧ c < 2048 ∧ b0 = 192 + c / 64 ∧ b1 = 128 + c % 64) ∨
    (k = 3 ∧ 2 < n ∧ 2048 ≤ c ∧ c < 65536 ∧ (c < 55296 ∨ 57343 < c) ∧ b0 = 224 + c / 4096 ∧ b1 = 128 + c / 64 % 64 ∧ b2 = 128 + c % 64) ∨
    (k = 4 ∧ 3 < n ∧ 65536 ≤ c ∧ c ≤ 1114111 ∧ b0 = 240 + c / 262144 ∧ b1 = 128 + c / 4096 % 64 ∧ b2 = 128 + c / 64 % 64 ∧ b3 = 128 + c % 64) := by
  unfold decodeN at hd
  split at hd
  · obtain ⟨rfl, rfl⟩ := pair_of hd; exact Or.inr (Or.inl ⟨by omega, rfl, rfl⟩)
  split at hd
  · split at hd
    · obtain ⟨rfl, rfl⟩ := pair_of hd
      refine Or.inr (Or.inr (Or.inl ⟨rfl, by omega, by omega, by omega, by omega, by omega⟩))
    · obtain ⟨rfl, rfl⟩ := pair_of hd; exact Or.inl ⟨rfl, rfl⟩
  split at hd
  · split at hd
    · obtain ⟨h1, rfl⟩ := pair_of hd
      refine Or.inr (Or.inr (Or.inr (Or.inl ⟨rfl, by omega, by omega, by omega, by omega, ?_, ?_, ?_⟩))) <;> clear hd
      · omega
      · omega
      · omega
    · obtain ⟨rfl, rfl⟩ := pair_of hd; exact Or.inl ⟨rfl, rfl⟩
  split at hd
  · split at hd
    · obtain ⟨h1, rfl⟩ := pair_of hd
      refine Or.inr (Or.inr (Or.inr (Or.inr ⟨rfl, by omega, by omega, by omega, ?_, ?_, ?_, ?_⟩))) <;> clear hd
      · omega
      · omega
      · omega
      · omega
    · obtain ⟨rfl, rfl⟩ := pair_of hd; exact Or.inl ⟨rfl, rfl⟩
  · obtain ⟨rfl, rfl⟩ := pair_of hd; exact Or.inl ⟨rfl, rfl⟩
set_option maxHeartbeats 4000000 in
theorem chr_some {l : List Int} (hb : Byts l) {c : Int} {n : Nat} (h : chr l = some (c, n)) : isC c = true ∧ n = (enc c).length ∧ enc c ++ l.drop n = l := by
  unfold chr at h
  split at h
  · cases h
  rename_i hl
  split at h
  · cases h
  rename_i hne
  obtain ⟨hc, hn⟩ : ((decZ l).1 : Int) = c ∧ (decZ l).2 = n := by cases h; exact ⟨rfl, rfl⟩
  obtain ⟨c, rfl⟩ : ∃ m : Nat, c = m := ⟨_, hc.symm⟩
  have hc' : (decZ l).1 = c := by omega
  have hd : decZ l = (c, n) := by rw [← hc', ← hn]
  obtain ⟨m, rfl, hm⟩ := decZ_nat l hb
  have gd : ∀ i, ((m.map (fun (n : Nat) => (n : Int))).getD i 0).toNat = m.getD i 0 := fun i => by
    simp only [List.getD_eq_getElem?_getD, List.getElem?_map]
    cases m[i]? <;> simp
  have lt : ∀ i, m.getD i 0 < 256 := fun i => by
    rw [List.getD_eq_getElem?_getD]
    rcases Nat.lt_or_ge i m.length with h | h
    · rw [List.getElem?_eq_getElem h]; exact hm _ (List.getElem_mem h)
    · rw [List.getElem?_eq_none h]; decide
  rw [hc', hn] at hne
  unfold decZ at hd
  rw [gd, gd, gd, gd, List.length_map] at hd
  have ff := dec_forms hd (lt 0) (lt 1) (lt 2) (lt 3)
  have sp : ∀ k, k < m.length → m.drop k = m.getD k 0 :: m.drop (k + 1) := fun k hk => by
    rw [List.drop_eq_getElem_cons hk, List.getD_eq_getElem?_getD, List.getElem?_eq_getElem hk]
    rfl
  have s0 : 0 < m.length := by
    rcases Nat.eq_zero_or_pos m.length with h0 | h0
    · rw [List.length_eq_zero_iff] at h0; subst h0; simp at hl
    · exact h0
  have m0 : m = m.getD 0 0 :: m.drop 1 := by have := sp 0 s0; rwa [List.drop_zero] at this
  rcases ff with ff | ff | ff | ff | ff
  · exact absurd ff hne
  · obtain ⟨f1, f2, rfl⟩ := ff
    have hi : isC (c : Int) = true := isC_iff.2 (by omega)
    rcases enc_cases hi with ⟨h1, he⟩ | ⟨h1, h2, he⟩ | ⟨h1, h2, he⟩ | ⟨h1, he⟩ <;> try omega
    refine ⟨hi, by rw [he]; rfl, ?_⟩
    rw [he, ← List.map_drop]
    conv => rhs; rw [m0]
    rw [f2]
    rfl
  · obtain ⟨rfl, f1, f2, f3, f4, f5⟩ := ff
    have hi : isC (c : Int) = true := isC_iff.2 (by omega)
    rcases enc_cases hi with ⟨h1, he⟩ | ⟨h1, h2, he⟩ | ⟨h1, h2, he⟩ | ⟨h1, he⟩ <;> try omega
    refine ⟨hi, by rw [he]; rfl, ?_⟩
    rw [he, ← List.map_drop]
    conv => rhs; rw [m0, sp 1 f1, f4, f5]
    simp only [List.map_cons, List.cons_append, List.nil_append]
    congr 1 <;> try omega
  · obtain ⟨rfl, f1, f2, f3, f3', f4, f5, f6⟩ := ff
    have hi : isC (c : Int) = true := isC_iff.2 (by omega)
    rcases enc_cases hi with ⟨h1, he⟩ | ⟨h1, h2, he⟩ | ⟨h1, h2, he⟩ | ⟨h1, he⟩ <;> try omega
    refine ⟨hi, by rw [he]; rfl, ?_⟩
    rw [he, ← List.map_drop]
    conv => rhs; rw [m0, sp 1 (by omega), sp 2 f1, f4, f5, f6]
    simp only [List.map_cons, List.cons_append, List.nil_append]
    congr 1 <;> try omega
  · obtain ⟨rfl, f1, f2, f3, f4, f5, f6, f7⟩ := ff
    have hi : isC (c : Int) = true := isC_iff.2 (by omega)
    rcases enc_cases hi with ⟨h1, he⟩ | ⟨h1, h2, he⟩ | ⟨h1, h2, he⟩ | ⟨h1, he⟩ <;> try omega
    refine ⟨hi, by rw [he]; rfl, ?_⟩
    rw [he, ← List.map_drop]
    conv => rhs; rw [m0, sp 1 (by omega), sp 2 (by omega), sp 3 f1, f4, f5, f6, f7]
    simp only [List.map_cons, List.cons_append, List.nil_append]
    congr 1 <;> try omega
theorem chr_lt {l : List Int} (hb : Byts l) {c : Int} {n : Nat} (h : chr l = some (c, n)) : 1 ≤ n ∧ n ≤ 4 ∧ n ≤ l.length := by
  obtain ⟨h1, rfl, h3⟩ := chr_some hb h
  have h4 := enc_len c
  have h5 := congrArg List.length h3
  rw [List.length_append] at h5
  omega
/-- The bytes of chars. -/
def flat (cs : List Int) : List Int := cs.flatMap enc
def AllC (cs : List Int) : Prop := ∀ c ∈ cs, isC c = true
theorem flat_nil : flat [] = [] := rfl
theorem flat_cons (c : Int) (cs : List Int) : flat (c :: cs) = enc c ++ flat cs := by simp [flat]
theorem flat_snoc (cs : List Int) (c : Int) : flat (cs ++ [c]) = flat cs ++ enc c := by simp [flat]
theorem flat_byts (cs : List Int) : Byts (flat cs) := fun x hx => by
  obtain ⟨c, -, h⟩ := List.mem_flatMap.1 hx
  exact Byts.enc c x h
theorem flat_len (cs : List Int) : cs.length ≤ (flat cs).length ∧ (flat cs).length ≤ 4 * cs.length := by
  induction cs with
  | nil => simp [flat]
  | cons c cs ih =>
    have := enc_len c
    rw [flat_cons, List.length_append, List.length_cons]
    omega
/-- These bytes are those of chars, and behind them no char begins. -/
structure Split (l cs rest : List Int) : Prop where
  all : AllC cs
  eq : l = flat cs ++ rest
  none : chr rest = none
theorem Split.unique {l cs rest cs' rest' : List Int} (h : Split l cs rest) (h' : Split l cs' rest') : cs = cs' ∧ rest = rest' := by
  obtain ⟨a, e, n⟩ := h
  obtain ⟨a', e', n'⟩ := h'
  subst e
  induction cs generalizing cs' with
  | nil =>
    cases cs' with
    | nil => simpa [flat] using e'
    | cons c cs' =>
      rw [flat_nil, List.nil_append, flat_cons, List.append_assoc] at e'
      rw [e', chr_enc (a' c (by simp))] at n
      cases n
  | cons c cs ih =>
    cases cs' with
    | nil =>
      rw [flat_nil, List.nil_append, flat_cons, List.append_assoc] at e'
      rw [← e', chr_enc (a c (by simp))] at n'
      cases n'
    | cons d cs' =>
      rw [flat_cons, List.append_assoc, flat_cons, List.append_assoc] at e'
      have h1 := chr_enc (a c (by simp)) (flat cs ++ rest)
      rw [e', chr_enc (a' d (by simp))] at h1
      cases h1
      have e2 := List.append_cancel_left e'
      obtain ⟨rfl, rfl⟩ := ih (fun x hx => a x (by simp [hx])) (fun x hx => a' x (by simp [hx])) e2
      exact ⟨rfl, rfl⟩
/-- A char's bytes without the last one are none. -/
theorem chr_cut {c : Int} (h : isC c = true) {m : Nat} (hm : m < (enc c).length) : chr ((enc c).take m) = none := by
  cases hx : chr ((enc c).take m) with
  | none => rfl
  | some v =>
    obtain ⟨d, n⟩ := v
    obtain ⟨h1, h2, h3⟩ := chr_some ((Byts.enc c).take m) hx
    have h4 : enc c = enc d ++ (((enc c).take m).drop n ++ (enc c).drop m) := by
      rw [← List.append_assoc, h3, List.take_append_drop]
    have h5 := chr_enc h []
    have h7 := chr_enc h1 (((enc c).take m).drop n ++ (enc c).drop m)
    rw [← h4] at h7
    rw [List.append_nil, h7] at h5
    injection h5 with h5
    have hdc : d = c := congrArg Prod.fst h5
    subst hdc
    have h6 := congrArg List.length h3
    rw [List.length_append, List.length_take] at h6
    omega
end Go.Proofs.YtgnnkfdpfmlajaaDoor.Bg
