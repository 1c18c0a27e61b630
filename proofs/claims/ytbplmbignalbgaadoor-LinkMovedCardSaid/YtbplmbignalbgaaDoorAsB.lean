/- Plain: items, their forms and words as the document tells them. Conditions: none. -/
import Derived.Test.YtbplmbignalbgaaDoorIsaSe
namespace Go.Proofs.YtbplmbignalbgaaDoor.Asm

/-- An item. -/
structure It where
  kind : Int
  op : Int
  d : Int
  a : Int
  b : Int
  imm : Int
  lab : ByteArray
  word : Int
instance : Inhabited It := ⟨⟨0, 0, 0, 0, 0, 0, ByteArray.empty, 0⟩⟩

def turned (op : Int) : Int := if op = 26 then 27 else if op = 27 then 26 else if op = 28 then 29 else if op = 29 then 28 else if op = 30 then 31 else if op = 31 then 30 else 0
def named (x : It) : Bool := decide (x.kind = 3 ∨ x.kind = 4 ∨ x.kind = 5 ∨ x.kind = 7)
def turns (x : It) : Bool := decide (x.kind = 3 ∨ x.kind = 4)
/-- How many words an item has in a form. -/
def isz (x : It) (f : Nat) : Int :=
  if x.kind = 2 then 0 else if x.kind = 3 then (if f = 1 then 1 else if f = 2 then 2 else 4) else if x.kind = 4 then (if f = 1 then 1 else 3)
  else if x.kind = 5 then 2 else if x.kind = 8 then x.word else 1
/-- How far an item leads in a form; 0: everywhere. -/
def reach (x : It) (f : Nat) : Int :=
  if x.kind = 3 ∧ f = 1 then 32768 else if (x.kind = 3 ∧ f = 2) ∨ (x.kind = 4 ∧ f = 1) then 1048576 else 0

/-- Which of the first k items defines a label. -/
def st (X : Nat → It) (s : ByteArray) : Nat → Option Nat
  | 0 => none
  | k + 1 => match st X s k with
    | some j => some j
    | none => if (X k).kind = 2 ∧ (X k).lab = s then some k else none
/-- What is wrong with an item by itself. -/
def citem (x : It) : Int :=
  if x.kind < 1 ∨ 8 < x.kind then 4
  else if (x.kind = 1 ∧ Isa.ok x.op x.d x.a x.b x.imm = false) ∨ (x.kind = 3 ∧ (turned x.op = 0 ∨ ¬ (0 ≤ x.a ∧ x.a ≤ 31) ∨ ¬ (0 ≤ x.b ∧ x.b ≤ 31))) ∨ ((x.kind = 4 ∨ x.kind = 5) ∧ ¬ (0 ≤ x.d ∧ x.d ≤ 31)) then 11 else 0
/-- The first fault of the first k items. -/
def bad (X : Nat → It) : Nat → Int
  | 0 => 0
  | k + 1 => if bad X k = 0 then citem (X k) else bad X k
/-- Is a label defined twice among the first k items? -/
def twice (X : Nat → It) : Nat → Bool
  | 0 => false
  | k + 1 => twice X k || (decide ((X k).kind = 2) && (st X (X k).lab k).isSome)
/-- Is a label used by one of the first k items that none of n defines? -/
def lost (X : Nat → It) (n : Nat) : Nat → Bool
  | 0 => false
  | k + 1 => lost X n k || (named (X k) && (st X (X k).lab n).isNone)
/-- The errors but the last one. -/
def check (X : Nat → It) (n : Nat) (base : Int) : Int :=
  if base < 0 ∨ 67108864 < base then 2 else if bad X n ≠ 0 then bad X n else if twice X n then 14 else if lost X n n then 12 else 0

/-- The address of item i. -/
def ad (X : Nat → It) (base : Int) (f : Nat → Nat) : Nat → Int
  | 0 => base
  | k + 1 => ad X base f k + isz (X k) (f k)
def tgt (X : Nat → It) (n i : Nat) : Nat := (st X (X i).lab n).getD 0
def dist (X : Nat → It) (n : Nat) (base : Int) (f : Nat → Nat) (i : Nat) : Int := ad X base f (tgt X n i) - ad X base f (i + 1)
def far (d : Int) : Int := if d < 0 then -d - 1 else d
/-- Does item i reach its label? -/
def fits (X : Nat → It) (n : Nat) (base : Int) (f : Nat → Nat) (i : Nat) : Prop := reach (X i) (f i) = 0 ∨ far (dist X n base f i) < reach (X i) (f i)
instance (X : Nat → It) (n : Nat) (base : Int) (f : Nat → Nat) (i : Nat) : Decidable (fits X n base f i) := by unfold fits; infer_instance
/-- Forms that may be. -/
def valid (X : Nat → It) (n : Nat) (f : Nat → Nat) : Prop := ∀ i, i < n → if (X i).kind = 3 then 1 ≤ f i ∧ f i ≤ 3 else if (X i).kind = 4 then 1 ≤ f i ∧ f i ≤ 2 else f i = 0
def Fits (X : Nat → It) (n : Nat) (base : Int) (f : Nat → Nat) : Prop := ∀ i, i < n → fits X n base f i
/-- Forms that no choice that fits goes below. -/
def Under (X : Nat → It) (n : Nat) (base : Int) (f : Nat → Nat) : Prop := valid X n f ∧ ∀ g, valid X n g → Fits X n base g → ∀ i, i < n → f i ≤ g i
/-- The least choice of forms that fits. -/
def Least (X : Nat → It) (n : Nat) (base : Int) (f : Nat → Nat) : Prop := Under X n base f ∧ Fits X n base f
def first (x : It) : Nat := if turns x then 1 else 0
/-- What may stand. -/
structure Right (X : Nat → It) (n : Nat) : Prop where
  words : ∀ i, i < n → 0 ≤ (X i).word ∧ (X i).word < 4294967296

theorem isz_nonneg {x : It} {f : Nat} (h : 0 ≤ x.word) : 0 ≤ isz x f := by unfold isz; (repeat' split) <;> omega
theorem isz_mono {x : It} {f g : Nat} (h0 : x.kind = 3 ∨ x.kind = 4 → 1 ≤ f) (h : f ≤ g) : isz x f ≤ isz x g := by unfold isz; (repeat' split) <;> omega
theorem Least.unique {X : Nat → It} {n : Nat} {base : Int} {f g : Nat → Nat} (h : Least X n base f) (k : Least X n base g) : ∀ i, i < n → f i = g i :=
  fun i hi => Nat.le_antisymm (h.1.2 g k.1.1 k.2 i hi) (k.1.2 f h.1.1 h.2 i hi)
theorem ad_congr {X : Nat → It} {base : Int} {f g : Nat → Nat} : ∀ {k : Nat}, (∀ i, i < k → f i = g i) → ad X base f k = ad X base g k
  | 0, _ => rfl
  | k + 1, h => by unfold ad; rw [ad_congr (fun i hi => h i (by omega)), h k (by omega)]
theorem ad_mono {X : Nat → It} {base : Int} {f : Nat → Nat} {i j : Nat} (hw : ∀ k, k < j → 0 ≤ (X k).word) (h : i ≤ j) : ad X base f i ≤ ad X base f j := by
  induction j with
  | zero => obtain rfl : i = 0 := by omega
            exact Int.le_refl _
  | succ j ih =>
    by_cases he : i = j + 1
    · rw [he]; exact Int.le_refl _
    · have h1 := ih (fun k hk => hw k (by omega)) (by omega)
      have h2 := isz_nonneg (f := f j) (hw j (by omega))
      have e1 : ad X base f (j + 1) = ad X base f j + isz (X j) (f j) := rfl
      omega
/-- What lies between grows with the forms. -/
theorem ad_between {X : Nat → It} {base : Int} {f g : Nat → Nat} {i j : Nat} (hm : ∀ k, i ≤ k → k < j → isz (X k) (f k) ≤ isz (X k) (g k)) (h : i ≤ j) : ad X base f j - ad X base f i ≤ ad X base g j - ad X base g i := by
  induction j with
  | zero => obtain rfl : i = 0 := by omega
            omega
  | succ j ih =>
    by_cases he : i = j + 1
    · subst he; omega
    · have h1 := ih (fun k h1 h2 => hm k h1 (by omega)) (by omega)
      have h2 := hm j (by omega) (by omega)
      have e1 : ad X base f (j + 1) = ad X base f j + isz (X j) (f j) := rfl
      have e2 : ad X base g (j + 1) = ad X base g j + isz (X j) (g j) := rfl
      omega
theorem st_lt {X : Nat → It} {s : ByteArray} : ∀ {k j : Nat}, st X s k = some j → j < k ∧ (X j).kind = 2 ∧ (X j).lab = s
  | 0, j, h => by cases h
  | k + 1, j, h => by
    unfold st at h
    split at h
    · rename_i i hi
      cases h
      have := st_lt hi
      exact ⟨by omega, this.2⟩
    · split at h
      · rename_i hk
        cases h
        exact ⟨by omega, hk⟩
      · cases h
theorem tgt_lt {X : Nat → It} {n i : Nat} (h : i < n) : tgt X n i < n := by
  unfold tgt
  cases hs : st X (X i).lab n with
  | none => show 0 < n; omega
  | some j => exact (st_lt hs).1
theorem valid.one {X : Nat → It} {n : Nat} {f : Nat → Nat} (h : valid X n f) {i : Nat} (hi : i < n) (hk : (X i).kind = 3 ∨ (X i).kind = 4) : 1 ≤ f i := by
  have := h i hi
  rcases hk with hk | hk
  · rw [if_pos hk] at this; exact this.1
  · rw [if_neg (by omega), if_pos hk] at this; exact this.1
/-- What does not fit now, does not fit in any choice with greater forms. -/
theorem fits_mono {X : Nat → It} {n : Nat} {base : Int} {f g : Nat → Nat} (hw : ∀ k, k < n → 0 ≤ (X k).word) (hf : valid X n f) (hl : ∀ i, i < n → f i ≤ g i) {i : Nat} (hi : i < n) (he : f i = g i) (hg : fits X n base g i) : fits X n base f i := by
  unfold fits at hg ⊢
  rw [← he] at hg
  refine hg.imp id fun h => Int.lt_of_le_of_lt ?_ h
  have hm : ∀ k, k < n → isz (X k) (f k) ≤ isz (X k) (g k) := fun k hk => isz_mono (fun h => hf.one hk h) (hl k hk)
  have ht := tgt_lt (X := X) hi
  unfold dist far
  by_cases hj : i < tgt X n i
  · have := ad_between (X := X) (base := base) (f := f) (g := g) (i := i + 1) (j := tgt X n i) (fun k _ h2 => hm k (by omega)) (by omega)
    have h1 := ad_mono (X := X) (base := base) (f := f) (i := i + 1) (j := tgt X n i) (fun k hk => hw k (by omega)) (by omega)
    split <;> split <;> omega
  · have := ad_between (X := X) (base := base) (f := f) (g := g) (i := tgt X n i) (j := i + 1) (fun k _ h2 => hm k (by omega)) (by omega)
    have h1 := ad_mono (X := X) (base := base) (f := f) (i := tgt X n i) (j := i + 1) (fun k hk => hw k (by omega)) (by omega)
    split <;> split <;> omega
theorem reach_form {X : Nat → It} {n : Nat} {f : Nat → Nat} (hf : valid X n f) {i : Nat} (hi : i < n) (h : reach (X i) (f i) ≠ 0) : valid X n (fun j => if j = i then f i + 1 else f j) := by
  intro j hj
  have hv := hf j hj
  show if (X j).kind = 3 then 1 ≤ (if j = i then f i + 1 else f j) ∧ (if j = i then f i + 1 else f j) ≤ 3 else if (X j).kind = 4 then 1 ≤ (if j = i then f i + 1 else f j) ∧ (if j = i then f i + 1 else f j) ≤ 2 else (if j = i then f i + 1 else f j) = 0
  by_cases he : j = i
  · subst he
    simp only [if_true]
    unfold reach at h
    split at hv
    · rename_i hk
      rw [if_pos hk]
      split at h
      · omega
      · split at h <;> omega
    · rename_i hk
      rw [if_neg hk]
      split at hv
      · rename_i hk4
        rw [if_pos hk4]
        split at h
        · omega
        · split at h <;> omega
      · rename_i hk4
        split at h
        · omega
        · split at h <;> omega
  · simp only [if_neg he]
    exact hv
/-- An item that does not fit gets its next form. -/
theorem Under.grow {X : Nat → It} {n : Nat} {base : Int} {f : Nat → Nat} (hw : ∀ k, k < n → 0 ≤ (X k).word) (h : Under X n base f) {i : Nat} (hi : i < n) (hn : ¬ fits X n base f i) : Under X n base (fun j => if j = i then f i + 1 else f j) := by
  refine ⟨reach_form h.1 hi (fun hr => hn (Or.inl hr)), fun g hg hfit j hj => ?_⟩
  show (if j = i then f i + 1 else f j) ≤ g j
  have hle := h.2 g hg hfit
  by_cases he : j = i
  · subst he
    rw [if_pos rfl]
    have h1 := hle j hj
    by_cases heq : f j = g j
    · exact absurd (fits_mono hw h.1 hle hj heq (hfit j hj)) hn
    · omega
  · rw [if_neg he]; exact hle j hj
theorem Under.start {X : Nat → It} {n : Nat} {base : Int} : Under X n base (fun i => first (X i)) := by
  have hv : ∀ i, if (X i).kind = 3 then 1 ≤ first (X i) ∧ first (X i) ≤ 3 else if (X i).kind = 4 then 1 ≤ first (X i) ∧ first (X i) ≤ 2 else first (X i) = 0 := by
    intro i
    unfold first turns
    by_cases h3 : (X i).kind = 3
    · simp [h3]
    · by_cases h4 : (X i).kind = 4
      · simp [h4]
      · simp [h3, h4]
  refine ⟨fun i _ => hv i, fun g hg _ i hi => ?_⟩
  have h1 := hg i hi
  show first (X i) ≤ g i
  unfold first turns
  by_cases h3 : (X i).kind = 3
  · rw [if_pos h3] at h1; simp [h3]; omega
  · by_cases h4 : (X i).kind = 4
    · rw [if_neg h3, if_pos h4] at h1; simp [h4]; omega
    · simp [h3, h4]
end Go.Proofs.YtbplmbignalbgaaDoor.Asm
