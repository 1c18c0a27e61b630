/- Plain: products of rows of coefficients, each kept modulo 2 to the 64. Conditions: none. -/
import Derived.Test.YtihgefllmkicaaaDoorBgB
namespace Go.Proofs.YtihgefllmkicaaaDoor.Bg
set_option linter.unusedVariables false
set_option linter.unusedSimpArgs false

abbrev M64 : Int := 18446744073709551616
/-- A place of a row, 0 beyond its end. -/
def cf (l : List Int) (k : Nat) : Int := l.getD k 0
/-- A product's coefficients. -/
def cv : List Int → (Nat → Int) → Nat → Int
  | [], _, _ => 0
  | x :: a, f, 0 => x * f 0
  | x :: a, f, k + 1 => x * f (k + 1) + cv a f k
def sh (h : Nat) (f : Nat → Int) (k : Nat) : Int := if k < h then 0 else f (k - h)
theorem sh_zero (f : Nat → Int) (k : Nat) : sh 0 f k = f k := by unfold sh; simp
theorem sh_succ (h : Nat) (f : Nat → Int) (k : Nat) : sh (h + 1) f (k + 1) = sh h f k := by
  unfold sh
  by_cases hk : k < h
  · rw [if_pos hk, if_pos (by omega)]
  · rw [if_neg hk, if_neg (by omega), show k + 1 - (h + 1) = k - h by omega]
theorem sh_first (h : Nat) (f : Nat → Int) : sh (h + 1) f 0 = 0 := by unfold sh; simp
theorem sh_sh (h g : Nat) (f : Nat → Int) (k : Nat) : sh h (sh g f) k = sh (h + g) f k := by
  unfold sh
  by_cases hk : k < h
  · rw [if_pos hk, if_pos (by omega)]
  · rw [if_neg hk]
    by_cases hg : k - h < g
    · rw [if_pos hg, if_pos (by omega)]
    · rw [if_neg hg, if_neg (by omega), show k - h - g = k - (h + g) by omega]
theorem sh_add (h : Nat) (f g : Nat → Int) (k : Nat) : sh h (fun k => f k + g k) k = sh h f k + sh h g k := by
  unfold sh; split <;> simp
theorem sh_mul (h : Nat) (c : Int) (f : Nat → Int) (k : Nat) : sh h (fun k => c * f k) k = c * sh h f k := by
  unfold sh; split <;> simp
theorem sh_congr (h : Nat) {f g : Nat → Int} (e : ∀ k, f k = g k) (k : Nat) : sh h f k = sh h g k := by
  unfold sh; rw [e]
theorem cv_congr : ∀ (a : List Int) {f g : Nat → Int} (e : ∀ k, f k = g k) (k : Nat), cv a f k = cv a g k
  | [], _, _, _, _ => rfl
  | x :: a, f, g, e, 0 => by show x * f 0 = x * g 0; rw [e]
  | x :: a, f, g, e, k + 1 => by show x * f (k + 1) + cv a f k = x * g (k + 1) + cv a g k; rw [e, cv_congr a e k]
theorem cv_add : ∀ (a : List Int) (f g : Nat → Int) (k : Nat), cv a (fun k => f k + g k) k = cv a f k + cv a g k
  | [], _, _, _ => rfl
  | x :: a, f, g, 0 => by show x * (f 0 + g 0) = x * f 0 + x * g 0; rw [Int.mul_add]
  | x :: a, f, g, k + 1 => by
    show x * (f (k + 1) + g (k + 1)) + cv a (fun k => f k + g k) k = x * f (k + 1) + cv a f k + (x * g (k + 1) + cv a g k)
    rw [cv_add a f g k, Int.mul_add]; omega
theorem cv_mul : ∀ (a : List Int) (c : Int) (f : Nat → Int) (k : Nat), cv a (fun k => c * f k) k = c * cv a f k
  | [], _, _, _ => by simp [cv]
  | x :: a, c, f, 0 => by show x * (c * f 0) = c * (x * f 0); rw [Int.mul_left_comm]
  | x :: a, c, f, k + 1 => by
    show x * (c * f (k + 1)) + cv a (fun k => c * f k) k = c * (x * f (k + 1) + cv a f k)
    rw [cv_mul a c f k, Int.mul_add, Int.mul_left_comm]
theorem cv_zero : ∀ (a : List Int) (k : Nat), cv a (fun _ => 0) k = 0
  | [], _ => rfl
  | x :: a, 0 => by show x * 0 = 0; simp
  | x :: a, k + 1 => by show x * 0 + cv a (fun _ => 0) k = 0; rw [cv_zero a k]; simp
theorem cv_sh1 : ∀ (a : List Int) (f : Nat → Int) (k : Nat), cv a (sh 1 f) k = sh 1 (cv a f) k
  | [], f, k => by unfold sh; split <;> rfl
  | x :: a, f, 0 => by show x * sh 1 f 0 = 0; rw [sh_first]; simp
  | x :: a, f, 1 => by
    show x * sh 1 f 1 + cv a (sh 1 f) 0 = sh 1 (cv (x :: a) f) 1
    rw [cv_sh1 a f 0, sh_first, sh_succ, sh_succ, sh_zero, sh_zero]
    show x * f 0 + 0 = x * f 0
    omega
  | x :: a, f, k + 2 => by
    show x * sh 1 f (k + 2) + cv a (sh 1 f) (k + 1) = sh 1 (cv (x :: a) f) (k + 2)
    rw [cv_sh1 a f (k + 1), sh_succ, sh_succ, sh_succ, sh_zero, sh_zero, sh_zero]
    rfl
theorem cv_sh (a : List Int) (f : Nat → Int) : ∀ (h k : Nat), cv a (sh h f) k = sh h (cv a f) k
  | 0, k => by rw [sh_zero]; exact cv_congr a (sh_zero f) k
  | h + 1, k => by
    have e : ∀ k, sh (h + 1) f k = sh 1 (sh h f) k := fun k => by rw [sh_sh, Nat.add_comm]
    rw [cv_congr a e k, cv_sh1, sh_congr 1 (cv_sh a f h) k, sh_sh, Nat.add_comm]
theorem cv_app : ∀ (a b : List Int) (f : Nat → Int) (k : Nat), cv (a ++ b) f k = cv a f k + sh a.length (cv b f) k
  | [], b, f, k => by show cv b f k = 0 + sh 0 (cv b f) k; rw [sh_zero]; omega
  | x :: a, b, f, 0 => by
    show x * f 0 = x * f 0 + sh (a.length + 1) (cv b f) 0
    rw [sh_first]; omega
  | x :: a, b, f, k + 1 => by
    show x * f (k + 1) + cv (a ++ b) f k = x * f (k + 1) + cv a f k + sh (a.length + 1) (cv b f) (k + 1)
    rw [cv_app a b f k, sh_succ]; omega
theorem cv_one (d : Int) (f : Nat → Int) : ∀ k, cv [d] f k = d * f k
  | 0 => rfl
  | k + 1 => by show d * f (k + 1) + 0 = _; omega
theorem cf_nil (k : Nat) : cf [] k = 0 := rfl
theorem cf_cons (x : Int) (a : List Int) : ∀ k, cf (x :: a) k = (if k = 0 then x else 0) + sh 1 (cf a) k
  | 0 => by show x = _; rw [sh_first]; simp
  | k + 1 => by show cf a k = _; rw [sh_succ, sh_zero]; simp
theorem cv_delta (y : Int) : ∀ (a : List Int) (k : Nat), cv a (fun k => if k = 0 then y else 0) k = y * cf a k
  | [], k => by simp [cv, cf]
  | x :: a, 0 => by show x * y = y * x; rw [Int.mul_comm]
  | x :: a, k + 1 => by
    show x * (if k + 1 = 0 then y else 0) + cv a (fun k => if k = 0 then y else 0) k = y * cf a k
    rw [cv_delta y a k]; simp
theorem cv_comm : ∀ (a b : List Int) (k : Nat), cv a (cf b) k = cv b (cf a) k
  | a, [], k => by rw [cv_congr a (cf_nil) k, cv_zero]; rfl
  | a, y :: b, k => by
    rw [cv_congr a (cf_cons y b) k, cv_add, cv_delta, cv_sh, sh_congr 1 (cv_comm a b) k]
    cases k with
    | zero => rw [sh_first]; show y * cf a 0 + 0 = y * cf a 0; omega
    | succ k => rw [sh_succ, sh_zero]; rfl
theorem cf_app (a b : List Int) (k : Nat) : cf (a ++ b) k = cf a k + sh a.length (cf b) k := by
  unfold cf sh
  by_cases h : k < a.length
  · rw [if_pos h]; simp [List.getD, List.getElem?_append_left h]
  · rw [if_neg h]; simp [List.getD, List.getElem?_append_right (Nat.le_of_not_lt h), List.getElem?_eq_none (Nat.le_of_not_lt h)]
theorem cf_split (a : List Int) (h : Nat) (hh : h ≤ a.length) (k : Nat) : cf a k = cf (a.take h) k + sh h (cf (a.drop h)) k := by
  have e := cf_app (a.take h) (a.drop h) k
  rw [List.take_append_drop, List.length_take, Nat.min_eq_left hh] at e
  exact e
theorem cf_beyond {a : List Int} {k : Nat} (h : a.length ≤ k) : cf a k = 0 := by
  unfold cf; simp [List.getD, List.getElem?_eq_none h]
theorem cv_beyond : ∀ (a : List Int) {f : Nat → Int} {m : Nat}, (∀ k, m ≤ k → f k = 0) → ∀ k, a.length + m ≤ k + 1 → cv a f k = 0
  | [], _, _, _, _, _ => rfl
  | x :: a, f, m, hf, 0, hk => by
    have hk' : a.length + 1 + m ≤ 1 := hk
    show x * f 0 = 0; rw [hf 0 (by omega)]; simp
  | x :: a, f, m, hf, k + 1, hk => by
    have hk' : a.length + 1 + m ≤ k + 1 + 1 := hk
    show x * f (k + 1) + cv a f k = 0
    rw [cv_beyond a hf k (by omega)]
    by_cases h : m ≤ k + 1
    · rw [hf _ h]; simp
    · have : a.length = 0 := by omega
      omega
/-- Three products of halves for four. -/
theorem cv_halves {a b f g : List Int} {h : Nat} (ha : h ≤ a.length) (hb : h ≤ b.length) (hf : ∀ k, cf f k = cf (a.take h) k + cf (a.drop h) k) (hg : ∀ k, cf g k = cf (b.take h) k + cf (b.drop h) k) (k : Nat) :
    cv a (cf b) k = cv (a.take h) (cf (b.take h)) k + sh h (fun k => cv f (cf g) k - cv (a.take h) (cf (b.take h)) k - cv (a.drop h) (cf (b.drop h)) k) k + sh (2 * h) (cv (a.drop h) (cf (b.drop h))) k := by
  have e1 : ∀ k, cv f (cf g) k = cv (a.take h) (cf (b.take h)) k + cv (a.drop h) (cf (b.take h)) k + (cv (a.take h) (cf (b.drop h)) k + cv (a.drop h) (cf (b.drop h)) k) := by
    intro k
    rw [cv_congr f hg k, cv_add, cv_comm f (b.take h), cv_comm f (b.drop h), cv_congr (b.take h) hf k, cv_congr (b.drop h) hf k, cv_add, cv_add, cv_comm (b.take h), cv_comm (b.take h), cv_comm (b.drop h), cv_comm (b.drop h)]
  have e2 : ∀ k, cv f (cf g) k - cv (a.take h) (cf (b.take h)) k - cv (a.drop h) (cf (b.drop h)) k = cv (a.drop h) (cf (b.take h)) k + cv (a.take h) (cf (b.drop h)) k := by
    intro k; rw [e1]; omega
  rw [sh_congr h e2 k, sh_add]
  have e3 : ∀ k, cv (a.take h) (cf b) k = cv (a.take h) (cf (b.take h)) k + sh h (cv (a.take h) (cf (b.drop h))) k := by
    intro k; rw [cv_congr _ (cf_split b h hb) k, cv_add, cv_sh]
  have e4 : ∀ k, cv (a.drop h) (cf b) k = cv (a.drop h) (cf (b.take h)) k + sh h (cv (a.drop h) (cf (b.drop h))) k := by
    intro k; rw [cv_congr _ (cf_split b h hb) k, cv_add, cv_sh]
  have e5 := cv_app (a.take h) (a.drop h) (cf b) k
  rw [List.take_append_drop, List.length_take, Nat.min_eq_left ha, e3, sh_congr h e4 k, sh_add, sh_sh] at e5
  rw [e5, show 2 * h = h + h by omega]
  omega
/-! ### Modulo 2 to the 64 -/
def Eqm (F G : Nat → Int) : Prop := ∃ T : Nat → Int, ∀ k, F k = G k + M64 * T k
theorem Eqm.refl (F : Nat → Int) : Eqm F F := ⟨fun _ => 0, fun k => by simp⟩
theorem Eqm.of_eq {F G : Nat → Int} (h : ∀ k, F k = G k) : Eqm F G := ⟨fun _ => 0, fun k => by rw [h]; simp⟩
theorem Eqm.trans {F G H : Nat → Int} (h : Eqm F G) (k : Eqm G H) : Eqm F H := by
  obtain ⟨S, hS⟩ := h
  obtain ⟨T, hT⟩ := k
  exact ⟨fun k => T k + S k, fun k => by rw [hS, hT, Int.mul_add]; omega⟩
theorem Eqm.symm {F G : Nat → Int} (h : Eqm F G) : Eqm G F := by
  obtain ⟨S, hS⟩ := h
  exact ⟨fun k => -S k, fun k => by rw [hS, Int.mul_neg]; omega⟩
theorem Eqm.add {F G F' G' : Nat → Int} (h : Eqm F G) (k : Eqm F' G') : Eqm (fun k => F k + F' k) (fun k => G k + G' k) := by
  obtain ⟨S, hS⟩ := h
  obtain ⟨T, hT⟩ := k
  exact ⟨fun k => S k + T k, fun k => by
    show F k + F' k = G k + G' k + M64 * (S k + T k)
    rw [hS, hT, Int.mul_add]; omega⟩
theorem Eqm.mul {F G : Nat → Int} (c : Int) (h : Eqm F G) : Eqm (fun k => c * F k) (fun k => c * G k) := by
  obtain ⟨S, hS⟩ := h
  exact ⟨fun k => c * S k, fun k => by
    show c * F k = c * G k + M64 * (c * S k)
    rw [hS, Int.mul_add, Int.mul_left_comm]⟩
theorem Eqm.sh {F G : Nat → Int} (n : Nat) (h : Eqm F G) : Eqm (sh n F) (sh n G) := by
  obtain ⟨S, hS⟩ := h
  exact ⟨Bg.sh n S, fun k => by rw [sh_congr n hS k, sh_add, sh_mul]⟩
theorem Eqm.cv {F G : Nat → Int} (a : List Int) (h : Eqm F G) : Eqm (cv a F) (cv a G) := by
  obtain ⟨S, hS⟩ := h
  exact ⟨Bg.cv a S, fun k => by rw [cv_congr a hS k, cv_add, cv_mul]⟩
theorem Eqm.cv2 {a b c d : List Int} (h : Eqm (cf a) (cf c)) (k : Eqm (cf b) (cf d)) : Eqm (Bg.cv a (cf b)) (Bg.cv c (cf d)) :=
  (k.cv a).trans ((Eqm.of_eq (cv_comm a d)).trans ((h.cv d).trans (Eqm.of_eq (cv_comm d c))))
theorem Eqm.exact {F G : Nat → Int} (h : Eqm F G) {k : Nat} (hF : 0 ≤ F k ∧ F k < M64) (hG : 0 ≤ G k ∧ G k < M64) : F k = G k := by
  obtain ⟨S, hS⟩ := h
  have := hS k
  unfold M64 at *
  omega
theorem Eqm.minus : Eqm (fun _ => M64 - 1) (fun _ => -1) := ⟨fun _ => 1, fun k => by show M64 - 1 = -1 + M64 * 1; decide⟩
/-- n times a row, added to another one from a place on. -/
def addL (S : List Int) (off : Nat) (A : List Int) (n : Int) : List Int := (List.range S.length).map fun k => if off ≤ k ∧ k < off + A.length then (cf S k + (n * cf A (k - off)) % M64) % M64 else cf S k
theorem addL_len (S : List Int) (off : Nat) (A : List Int) (n : Int) : (addL S off A n).length = S.length := by unfold addL; simp
theorem addL_get {S : List Int} {off : Nat} {A : List Int} {n : Int} {k : Nat} (hk : k < S.length) : cf (addL S off A n) k = if off ≤ k ∧ k < off + A.length then (cf S k + (n * cf A (k - off)) % M64) % M64 else cf S k := by
  have e := List.getElem?_map (f := fun k => if off ≤ k ∧ k < off + A.length then (cf S k + (n * cf A (k - off)) % M64) % M64 else cf S k) (l := List.range S.length) (i := k)
  rw [List.getElem?_range hk] at e
  show (addL S off A n)[k]?.getD 0 = _
  unfold addL
  rw [e]
  rfl
theorem cf_map_range (m : Nat) (f : Nat → Int) (k : Nat) : cf ((List.range m).map f) k = if k < m then f k else 0 := by
  unfold cf
  by_cases h : k < m
  · simp [List.getD, h]
  · rw [if_neg h]; simp [List.getD, List.getElem?_eq_none (show ((List.range m).map f).length ≤ k by simp; omega)]
theorem ext_cf {a b : List Int} (hl : a.length = b.length) (h : ∀ k, k < a.length → cf a k = cf b k) : a = b := list_eq_of_getD hl h
theorem cf_set (l : List Int) (i : Nat) (x : Int) (k : Nat) (hk : k < l.length) : cf (l.set i x) k = if k = i then x else cf l k := by
  unfold cf
  simp only [List.getD_eq_getElem?_getD, List.getElem?_set]
  by_cases h : i = k
  · subst h; rw [if_pos rfl, if_pos hk, if_pos rfl]; rfl
  · rw [if_neg h, if_neg (Ne.symm h)]
theorem addL_nil (S : List Int) (off : Nat) (n : Int) : addL S off [] n = S := by
  apply ext_cf (addL_len _ _ _ _)
  intro k hk
  rw [addL_len] at hk
  rw [addL_get hk, if_neg (by simp)]
theorem addL_step {S A : List Int} {off i : Nat} {n : Int} (hi : i < A.length) (h : off + A.length ≤ S.length) : (addL S off (A.take i) n).set (off + i) ((cf (addL S off (A.take i) n) (off + i) + n * cf A i % M64) % M64) = addL S off (A.take (i + 1)) n := by
  apply ext_cf
  · rw [List.length_set, addL_len, addL_len]
  intro k hk
  rw [List.length_set, addL_len] at hk
  have l1 : (A.take i).length = i := by rw [List.length_take]; omega
  have l2 : (A.take (i + 1)).length = i + 1 := by rw [List.length_take]; omega
  rw [cf_set _ _ _ _ (by rw [addL_len]; exact hk), addL_get hk, addL_get hk, addL_get (show off + i < S.length by omega), l1, l2]
  have ct : ∀ j m, j < m → cf (A.take m) j = cf A j := by
    intro j m hj
    unfold cf
    simp [List.getD, List.getElem?_take, hj]
  by_cases hk1 : k = off + i
  · subst hk1
    rw [if_pos rfl, if_neg (by omega), if_pos ⟨by omega, by omega⟩, show off + i - off = i by omega, ct i (i + 1) (by omega)]
  · rw [if_neg hk1]
    by_cases hk2 : off ≤ k ∧ k < off + i
    · rw [if_pos hk2, if_pos ⟨hk2.1, by omega⟩, ct _ _ (by omega), ct _ _ (by omega)]
    · rw [if_neg hk2, if_neg (by omega)]
theorem addL_eqm {S A : List Int} {off : Nat} {n : Int} (h : off + A.length ≤ S.length) : Eqm (cf (addL S off A n)) (fun k => cf S k + n * sh off (cf A) k) := by
  refine ⟨fun k => if off ≤ k ∧ k < off + A.length then - ((cf S k + (n * cf A (k - off)) % M64) / M64) - (n * cf A (k - off)) / M64 else 0, fun k => ?_⟩
  by_cases hk : k < S.length
  · rw [addL_get hk]
    by_cases hc : off ≤ k ∧ k < off + A.length
    · simp only [if_pos hc]
      unfold sh
      rw [if_neg (by omega)]
      have h1 := Int.emod_add_mul_ediv (cf S k + (n * cf A (k - off)) % M64) M64
      have h2 := Int.emod_add_mul_ediv (n * cf A (k - off)) M64
      unfold M64 at *
      omega
    · simp only [if_neg hc]
      have : sh off (cf A) k = 0 := by
        unfold sh
        split
        · rfl
        · exact cf_beyond (by omega)
      rw [this]; simp
  · rw [cf_beyond (by rw [addL_len]; omega)]
    have : sh off (cf A) k = 0 := by
      unfold sh
      split
      · rfl
      · exact cf_beyond (by omega)
    show (0 : Int) = cf S k + n * sh off (cf A) k + M64 * _
    rw [this, cf_beyond (a := S) (by omega)]
    dsimp only
    rw [if_neg (by omega)]; simp
theorem addL_dig {S A : List Int} {off : Nat} {n : Int} (h : Dig M64 S) : Dig M64 (addL S off A n) := by
  intro d hd
  unfold addL at hd
  obtain ⟨k, -, rfl⟩ := List.mem_map.1 hd
  split
  · exact ⟨Int.emod_nonneg _ (by unfold M64; decide), Int.emod_lt_of_pos _ (by unfold M64; decide)⟩
  · exact h.getD (by unfold M64; decide) k
/-! ### Values -/
def pv (B : Int) (f : Nat → Int) : Nat → Int
  | 0 => 0
  | n + 1 => f 0 + B * pv B (fun k => f (k + 1)) n
theorem pv_congr (B : Int) : ∀ (n : Nat) {f g : Nat → Int}, (∀ k, k < n → f k = g k) → pv B f n = pv B g n
  | 0, _, _, _ => rfl
  | n + 1, f, g, h => by
    show f 0 + B * pv B (fun k => f (k + 1)) n = g 0 + B * pv B (fun k => g (k + 1)) n
    rw [h 0 (by omega), pv_congr B n (fun k hk => h (k + 1) (by omega))]
theorem pv_add (B : Int) : ∀ (n : Nat) (f g : Nat → Int), pv B (fun k => f k + g k) n = pv B f n + pv B g n
  | 0, _, _ => rfl
  | n + 1, f, g => by
    show f 0 + g 0 + B * pv B (fun k => f (k + 1) + g (k + 1)) n = f 0 + B * pv B (fun k => f (k + 1)) n + (g 0 + B * pv B (fun k => g (k + 1)) n)
    rw [pv_add B n, Int.mul_add]; omega
theorem pv_mul (B c : Int) : ∀ (n : Nat) (f : Nat → Int), pv B (fun k => c * f k) n = c * pv B f n
  | 0, _ => by simp [pv]
  | n + 1, f => by
    show c * f 0 + B * pv B (fun k => c * f (k + 1)) n = c * (f 0 + B * pv B (fun k => f (k + 1)) n)
    rw [pv_mul B c n, Int.mul_add, Int.mul_left_comm]
theorem pv_zero (B : Int) : ∀ (n : Nat), pv B (fun _ => 0) n = 0
  | 0 => rfl
  | n + 1 => by show 0 + B * pv B (fun _ => 0) n = 0; rw [pv_zero B n]; simp
theorem pv_more (B : Int) : ∀ (m n : Nat) {f : Nat → Int}, m ≤ n → (∀ k, m ≤ k → f k = 0) → pv B f n = pv B f m
  | 0, n, f, _, h => by rw [pv_congr B n (g := fun _ => 0) (fun k _ => h k (Nat.zero_le _)), pv_zero]; rfl
  | m + 1, 0, f, hm, _ => by omega
  | m + 1, n + 1, f, hm, h => by
    show f 0 + B * pv B (fun k => f (k + 1)) n = f 0 + B * pv B (fun k => f (k + 1)) m
    rw [pv_more B m n (by omega) (fun k hk => h (k + 1) (by omega))]
theorem pv_val (B : Int) : ∀ (l : List Int), pv B (cf l) l.length = val B l
  | [] => rfl
  | x :: l => by
    show x + B * pv B (fun k => cf (x :: l) (k + 1)) l.length = x + B * val B l
    rw [← pv_val B l]; rfl
theorem pv_cv (B : Int) : ∀ (a : List Int) (f : Nat → Int) (m : Nat), (∀ k, m ≤ k → f k = 0) → pv B (cv a f) (a.length + m) = val B a * pv B f m
  | [], f, m, h => by
    have e : pv B (cv [] f) (0 + m) = pv B (fun _ => 0) (0 + m) := pv_congr B _ (fun k _ => rfl)
    show pv B (cv [] f) (0 + m) = 0 * _
    rw [e, pv_zero]; simp
  | x :: a, f, m, h => by
    have e : ∀ k, cv (x :: a) f k = x * f k + sh 1 (cv a f) k := by
      intro k
      cases k with
      | zero => rw [sh_first]; show x * f 0 = _; omega
      | succ k => rw [sh_succ, sh_zero]; rfl
    show pv B (cv (x :: a) f) (a.length + 1 + m) = (x + B * val B a) * pv B f m
    rw [pv_congr B _ (g := fun k => x * f k + sh 1 (cv a f) k) (fun k _ => e k), pv_add, pv_mul, pv_more B m (a.length + 1 + m) (by omega) h]
    rw [show a.length + 1 + m = a.length + m + 1 by omega]
    have e2 : pv B (sh 1 (cv a f)) (a.length + m + 1) = B * pv B (cv a f) (a.length + m) := by
      show sh 1 (cv a f) 0 + B * pv B (fun k => sh 1 (cv a f) (k + 1)) (a.length + m) = _
      rw [sh_first, pv_congr B _ (g := cv a f) (fun k _ => by rw [sh_succ, sh_zero])]; omega
    rw [e2, pv_cv B a f m h, Int.add_mul, Int.mul_assoc]
/-- A row of a product's coefficients has the product as its number. -/
theorem val_cv {B : Int} {a b L : List Int} (h : ∀ k, cf L k = cv a (cf b) k) (hl : L.length ≤ a.length + b.length) : val B L = val B a * val B b := by
  have h1 := pv_cv B a (cf b) b.length (fun k hk => cf_beyond hk)
  rw [pv_val] at h1
  rw [← h1, ← pv_val B L, ← pv_more B L.length (a.length + b.length) hl (fun k hk => cf_beyond hk)]
  exact pv_congr B _ (fun k _ => h k)
theorem cv_bound {C : Int} (hC : 0 ≤ C) : ∀ (a : List Int) {f : Nat → Int}, (∀ x, x ∈ a → 0 ≤ x ∧ x ≤ C) → (∀ k, 0 ≤ f k ∧ f k ≤ C) → ∀ k, 0 ≤ cv a f k ∧ cv a f k ≤ a.length * (C * C)
  | [], f, _, _, k => ⟨Int.le_refl _, by show (0 : Int) ≤ _; simp⟩
  | x :: a, f, ha, hf, k => by
    have h1 := ha x (List.mem_cons_self ..)
    have p : ∀ j, 0 ≤ x * f j ∧ x * f j ≤ C * C := fun j => ⟨Int.mul_nonneg h1.1 (hf j).1, Int.mul_le_mul h1.2 (hf j).2 (hf j).1 hC⟩
    have e : ((x :: a).length : Int) * (C * C) = a.length * (C * C) + C * C := by
      rw [List.length_cons, Int.natCast_add, Int.add_mul]; simp
    have hCC : 0 ≤ (a.length : Int) * (C * C) := Int.mul_nonneg (by omega) (Int.mul_nonneg hC hC)
    rw [e]
    cases k with
    | zero => have := p 0; show 0 ≤ x * f 0 ∧ x * f 0 ≤ _; omega
    | succ k =>
      have := p (k + 1)
      have ih := cv_bound hC a (fun x hx => ha x (List.mem_cons_of_mem _ hx)) hf k
      show 0 ≤ x * f (k + 1) + cv a f k ∧ x * f (k + 1) + cv a f k ≤ _
      omega
/-- Of digits to a base of at most 65536, what is modulo 2 to the 64 is exact. -/
theorem cv_exact {a b L : List Int} (ha : Dig 65536 a) (hb : Dig 65536 b) (hn : a.length ≤ 1073741824) (hL : Dig M64 L) (h : Eqm (cf L) (cv a (cf b))) : ∀ k, cf L k = cv a (cf b) k := by
  intro k
  refine Eqm.exact h (hL.getD (by unfold M64; decide) k) ?_
  have hb' : ∀ k, 0 ≤ cf b k ∧ cf b k ≤ 65535 := fun k => by have := hb.getD (by decide) k; unfold cf; omega
  have := cv_bound (C := 65535) (by decide) a (fun x hx => by have := ha x hx; omega) hb' k
  unfold M64
  omega
end Go.Proofs.YtihgefllmkicaaaDoor.Bg
