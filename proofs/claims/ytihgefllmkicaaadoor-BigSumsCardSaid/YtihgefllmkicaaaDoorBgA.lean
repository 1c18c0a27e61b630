/- Plain: numbers as digits to a base, the lowest first. Conditions: none. -/
import Derived.Test.YtihgefllmkicaaaDoorRows
namespace Go.Proofs.YtihgefllmkicaaaDoor.Bg

/-- The number of digits to a base. -/
def val (B : Int) : List Int → Int
  | [] => 0
  | d :: r => d + B * val B r
def Dig (B : Int) (l : List Int) : Prop := ∀ d, d ∈ l → 0 ≤ d ∧ d < B
theorem val_app (B : Int) (l m : List Int) : val B (l ++ m) = val B l + B ^ l.length * val B m := by
  induction l with
  | nil => simp [val]
  | cons d r ih =>
    show d + B * val B (r ++ m) = d + B * val B r + B ^ (r.length + 1) * val B m
    rw [ih, Int.mul_add, Int.pow_succ, ← Int.mul_assoc, Int.mul_comm B (B ^ r.length), Int.add_assoc]
theorem val_nonneg {B : Int} (hB : 0 ≤ B) {l : List Int} (h : Dig B l) : 0 ≤ val B l := by
  induction l with
  | nil => exact Int.le_refl _
  | cons d r ih =>
    have h1 := h d (List.mem_cons_self ..)
    have h2 := ih (fun x hx => h x (List.mem_cons_of_mem _ hx))
    have := Int.mul_nonneg hB h2
    show 0 ≤ d + B * val B r
    omega
theorem val_lt {B : Int} (hB : 0 < B) {l : List Int} (h : Dig B l) : val B l < B ^ l.length := by
  induction l with
  | nil => show (0 : Int) < B ^ 0; simp
  | cons d r ih =>
    have h1 := h d (List.mem_cons_self ..)
    have h2 := ih (fun x hx => h x (List.mem_cons_of_mem _ hx))
    show d + B * val B r < B ^ (r.length + 1)
    have h3 : B * (val B r + 1) ≤ B * B ^ r.length := Int.mul_le_mul_of_nonneg_left (by omega) (by omega)
    rw [Int.mul_add, Int.mul_one] at h3
    rw [Int.pow_succ, Int.mul_comm (B ^ r.length) B]
    omega
/-- No digit 0 at the end. -/
def Tidy (l : List Int) : Prop := l.getLast? ≠ some 0
theorem Tidy.tail {d : Int} {r : List Int} (h : Tidy (d :: r)) : Tidy r := by
  cases r with
  | nil => intro e; cases e
  | cons x s => exact fun e => h (by rw [List.getLast?_cons_cons]; exact e)
theorem val_zero {B : Int} (hB : 0 < B) {l : List Int} (h : Dig B l) (ht : Tidy l) (hv : val B l = 0) : l = [] := by
  induction l with
  | nil => rfl
  | cons d r ih =>
    exfalso
    have h1 := h d (List.mem_cons_self ..)
    have hr : Dig B r := fun x hx => h x (List.mem_cons_of_mem _ hx)
    have h2 := val_nonneg (Int.le_of_lt hB) hr
    have hv' : d + B * val B r = 0 := hv
    have h3 := Int.mul_nonneg (Int.le_of_lt hB) h2
    have hz : B * val B r = 0 := by omega
    have hz2 : val B r = 0 := by
      rcases Int.mul_eq_zero.1 hz with h | h
      · omega
      · exact h
    have hr0 := ih hr ht.tail hz2
    subst hr0
    have hd : d = 0 := by omega
    subst hd
    exact ht rfl
/-- Digits without noughts at the end are told by their number. -/
theorem val_inj {B : Int} (hB : 0 < B) : ∀ {l m : List Int}, Dig B l → Dig B m → Tidy l → Tidy m → val B l = val B m → l = m
  | [], m, _, hm, _, tm, h => (val_zero hB hm tm h.symm).symm
  | d :: r, [], hl, _, tl, _, h => val_zero hB hl tl h
  | d :: r, e :: s, hl, hm, tl, tm, h => by
    have h1 := hl d (List.mem_cons_self ..)
    have h2 := hm e (List.mem_cons_self ..)
    have hv : d + B * val B r = e + B * val B s := h
    have hd : d = e := by
      have e1 : (d + B * val B r) % B = d := by rw [Int.add_mul_emod_self_left]; exact Int.emod_eq_of_lt h1.1 h1.2
      have e2 : (e + B * val B s) % B = e := by rw [Int.add_mul_emod_self_left]; exact Int.emod_eq_of_lt h2.1 h2.2
      rw [← e1, ← e2, hv]
    subst hd
    have hr : val B r = val B s := by
      have : B * val B r = B * val B s := by omega
      exact Int.eq_of_mul_eq_mul_left (by omega) this
    rw [val_inj hB (fun x hx => hl x (List.mem_cons_of_mem _ hx)) (fun x hx => hm x (List.mem_cons_of_mem _ hx)) tl.tail tm.tail hr]

theorem val_take {B : Int} (l : List Int) : ∀ i, i < l.length → val B (l.take (i + 1)) = val B (l.take i) + B ^ i * l.getD i 0 := by
  intro i hi
  rw [List.take_add_one, List.getElem?_eq_getElem hi, val_app, List.length_take, Nat.min_eq_left (by omega), List.getD_eq_getElem?_getD, List.getElem?_eq_getElem hi]
  simp [val]
theorem val_take_any {B : Int} (l : List Int) (i : Nat) : val B (l.take (i + 1)) = val B (l.take i) + B ^ i * l.getD i 0 := by
  by_cases hi : i < l.length
  · exact val_take l i hi
  · rw [List.take_of_length_le (by omega), List.take_of_length_le (by omega), List.getD_eq_getElem?_getD, List.getElem?_eq_none (by omega)]
    simp
theorem Dig.getD {B : Int} (hB : 0 < B) {l : List Int} (h : Dig B l) (i : Nat) : 0 ≤ l.getD i 0 ∧ l.getD i 0 < B := by
  rw [List.getD_eq_getElem?_getD]
  by_cases hi : i < l.length
  · rw [List.getElem?_eq_getElem hi]; exact h _ (List.getElem_mem hi)
  · rw [List.getElem?_eq_none (by omega)]; exact ⟨Int.le_refl _, hB⟩
theorem Dig.take {B : Int} {l : List Int} (h : Dig B l) (i : Nat) : Dig B (l.take i) := fun d hd => h d (List.mem_of_mem_take hd)
theorem Dig.drop {B : Int} {l : List Int} (h : Dig B l) (i : Nat) : Dig B (l.drop i) := fun d hd => h d (List.mem_of_mem_drop hd)
theorem Dig.app {B : Int} {l m : List Int} (h : Dig B l) (k : Dig B m) : Dig B (l ++ m) := fun d hd => (List.mem_append.1 hd).elim (h d) (k d)
theorem Dig.one {B d : Int} (h : 0 ≤ d ∧ d < B) : Dig B [d] := fun x hx => by rw [List.mem_singleton.1 hx]; exact h
theorem Dig.nil {B : Int} : Dig B [] := fun x hx => by simp at hx
theorem val_snoc (B : Int) (l : List Int) (d : Int) : val B (l ++ [d]) = val B l + B ^ l.length * d := by
  rw [val_app]; simp [val]
theorem val_split (B : Int) (l : List Int) (i : Nat) (hi : i ≤ l.length) : val B l = val B (l.take i) + B ^ i * val B (l.drop i) := by
  have h := val_app B (l.take i) (l.drop i)
  rw [List.take_append_drop, List.length_take, Nat.min_eq_left hi] at h
  exact h
theorem val_drop {B : Int} (l : List Int) {i : Nat} (hi : i < l.length) : val B (l.drop i) = l.getD i 0 + B * val B (l.drop (i + 1)) := by
  rw [List.drop_eq_getElem_cons hi, List.getD_eq_getElem?_getD, List.getElem?_eq_getElem hi]
  rfl
theorem pow_pos' {B : Int} (hB : 0 < B) (n : Nat) : 0 < B ^ n := Int.pow_pos hB
/-- Tidy digits are at least the base to one less than their count. -/
theorem val_ge {B : Int} (hB : 0 < B) {l : List Int} (h : Dig B l) (ht : Tidy l) (hl : l ≠ []) : B ^ (l.length - 1) ≤ val B l := by
  have hpos : 0 < l.length := List.length_pos_iff.2 hl
  have hs := val_split B l (l.length - 1) (by omega)
  have hd := val_drop (B := B) l (i := l.length - 1) (by omega)
  rw [show l.length - 1 + 1 = l.length by omega, List.drop_length] at hd
  have h0 := val_nonneg (Int.le_of_lt hB) (h.take (l.length - 1))
  have hg := h.getD hB (l.length - 1)
  have hlast : l.getD (l.length - 1) 0 ≠ 0 := by
    intro e
    apply ht
    rw [List.getLast?_eq_getElem?, List.getElem?_eq_getElem (by omega)]
    rw [List.getD_eq_getElem?_getD, List.getElem?_eq_getElem (by omega)] at e
    exact congrArg some e
  have h1 : 1 ≤ val B (l.drop (l.length - 1)) := by
    rw [hd]
    show 1 ≤ l.getD (l.length - 1) 0 + B * 0
    omega
  have h2 : B ^ (l.length - 1) * 1 ≤ B ^ (l.length - 1) * val B (l.drop (l.length - 1)) := Int.mul_le_mul_of_nonneg_left h1 (Int.le_of_lt (pow_pos' hB _))
  omega
theorem pow_le {B : Int} (hB : 1 ≤ B) {m n : Nat} (h : m ≤ n) : B ^ m ≤ B ^ n := by
  induction n with
  | zero => rw [Nat.le_zero.1 h]; exact Int.le_refl _
  | succ n ih =>
    by_cases he : m = n + 1
    · rw [he]; exact Int.le_refl _
    · have h1 := ih (by omega)
      have h2 := Int.mul_le_mul_of_nonneg_left hB (Int.le_of_lt (pow_pos' (show 0 < B by omega) n))
      rw [Int.pow_succ]
      omega
/-- Fewer tidy digits are less. -/
theorem val_shorter {B : Int} (hB : 1 ≤ B) {l m : List Int} (hl : Dig B l) (hm : Dig B m) (tm : Tidy m) (h : l.length < m.length) : val B l < val B m := by
  have h1 := val_lt (show 0 < B by omega) hl
  have h2 := val_ge (show 0 < B by omega) hm tm (by intro e; subst e; simp at h)
  have h3 := pow_le hB (show l.length ≤ m.length - 1 by omega)
  omega
/-- As many digits: the highest that differs tells. -/
theorem val_order {B : Int} (hB : 0 < B) {l m : List Int} (hl : Dig B l) (hm : Dig B m) (he : l.length = m.length) {i : Nat} (hi : i < l.length) (hs : ∀ j, i < j → l.getD j 0 = m.getD j 0) (h : l.getD i 0 < m.getD i 0) : val B l < val B m := by
  have key : ∀ k, l.length - k > i → val B (l.drop (l.length - k)) = val B (m.drop (l.length - k)) := by
    intro k
    induction k with
    | zero => intro _; rw [Nat.sub_zero, List.drop_length, he, List.drop_length]
    | succ k ih =>
      intro hk
      have h1 := val_drop (B := B) l (i := l.length - (k + 1)) (by omega)
      have h2 := val_drop (B := B) m (i := l.length - (k + 1)) (by omega)
      rw [show l.length - (k + 1) + 1 = l.length - k by omega] at h1 h2
      rw [h1, h2, ih (by omega), hs _ (by omega)]
  have hk := key (l.length - (i + 1))
  rw [show l.length - (l.length - (i + 1)) = i + 1 by omega] at hk
  have hk := hk (by omega)
  have s1 := val_split B l i (by omega)
  have s2 := val_split B m i (by omega)
  have d1 := val_drop (B := B) l hi
  have d2 := val_drop (B := B) m (show i < m.length by omega)
  have b1 := val_lt hB (hl.take i)
  have b2 := val_nonneg (Int.le_of_lt hB) (hm.take i)
  rw [List.length_take, Nat.min_eq_left (by omega)] at b1
  rw [hk] at d1
  obtain ⟨R, hR⟩ : ∃ R, R = B * val B (m.drop (i + 1)) := ⟨_, rfl⟩
  rw [← hR] at d1 d2
  rw [d1] at s1
  rw [d2] at s2
  have hmul : B ^ i * (l.getD i 0 + R + 1) ≤ B ^ i * (m.getD i 0 + R) := Int.mul_le_mul_of_nonneg_left (by omega) (Int.le_of_lt (pow_pos' hB i))
  rw [Int.mul_add (B ^ i) (l.getD i 0 + R) 1, Int.mul_one] at hmul
  omega
theorem list_eq_of_getD {l m : List Int} (he : l.length = m.length) (h : ∀ j, j < l.length → l.getD j 0 = m.getD j 0) : l = m := by
  apply List.ext_getElem he
  intro i h1 h2
  have := h i h1
  rw [List.getD_eq_getElem?_getD, List.getD_eq_getElem?_getD, List.getElem?_eq_getElem h1, List.getElem?_eq_getElem h2] at this
  exact this
/-- Without the noughts at the end. -/
def trimN (l : List Int) : Nat → Nat
  | 0 => 0
  | n + 1 => if l.getD n 0 = 0 then trimN l n else n + 1
theorem trimN_le (l : List Int) : ∀ n, trimN l n ≤ n
  | 0 => Nat.le_refl _
  | n + 1 => by
    unfold trimN
    split
    · have := trimN_le l n; omega
    · exact Nat.le_refl _
theorem trim_val {B : Int} (l : List Int) : ∀ n, val B (l.take (trimN l n)) = val B (l.take n)
  | 0 => rfl
  | n + 1 => by
    unfold trimN
    split
    · rename_i h
      rw [trim_val l n, val_take_any, h, Int.mul_zero, Int.add_zero]
    · rfl
theorem trim_tidy {l : List Int} : ∀ n, n ≤ l.length → Tidy (l.take (trimN l n))
  | 0, _ => by intro e; simp [trimN] at e
  | n + 1, h => by
    unfold trimN
    split
    · exact trim_tidy n (by omega)
    · rename_i hz
      intro e
      rw [List.take_add_one, List.getElem?_eq_getElem (by omega)] at e
      simp only [Option.toList_some, List.getLast?_append, List.getLast?_singleton, Option.some_or, Option.some.injEq] at e
      apply hz
      rw [List.getD_eq_getElem?_getD, List.getElem?_eq_getElem (by omega)]
      exact e
end Go.Proofs.YtihgefllmkicaaaDoor.Bg
