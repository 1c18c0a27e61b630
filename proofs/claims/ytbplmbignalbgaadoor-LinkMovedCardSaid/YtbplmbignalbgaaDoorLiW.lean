/- Plain: items that are words and instructions alone: their words, whatever stands ahead. Contracts: plain. Conditions: the items lie as told. -/
import Derived.Test.YtbplmbignalbgaaDoorLiQ
import Derived.Deep.QuietTactic
namespace Go.Proofs.YtbplmbignalbgaaDoor
open Go.RowKit Asm
set_option linter.unusedVariables false
set_option linter.unusedSimpArgs false

/-- Words and instructions alone. -/
def Simple (L : List It) : Prop := ∀ x, x ∈ L → x.kind = 6 ∨ x.kind = 1
def wrd (x : It) : Int := if x.kind = 1 then insW ⟨x.op, x.d, x.a, x.b, x.imm⟩ else x.word
theorem simple_at {L : List It} (h : Simple L) {i : Nat} (hi : i < L.length) : (litX L i).kind = 6 ∨ (litX L i).kind = 1 := h _ (litX_mem hi)
theorem s_twice {L : List It} (h : Simple L) : ∀ k, k ≤ L.length → twice (litX L) k = false
  | 0, _ => rfl
  | k + 1, hk => twice_step (s_twice h k (by omega)) fun h2 => by have := simple_at h (show k < L.length by omega); omega
theorem s_lost {L : List It} (h : Simple L) (n : Nat) : ∀ k, k ≤ L.length → lost (litX L) n k = false
  | 0, _ => rfl
  | k + 1, hk => lost_step (s_lost h n k (by omega)) (by
      have := simple_at h (show k < L.length by omega)
      have hn : named (litX L k) = false := by unfold named; simp; omega
      rw [hn]; rfl)
theorem s_check {L : List It} (h : Simple L) {base : Int} (hb : 0 ≤ base ∧ base ≤ 67108864) : check (litX L) L.length base = bad (litX L) L.length := by
  by_cases hz : bad (litX L) L.length = 0
  · rw [ck_good (by omega) hz (s_twice h _ (Nat.le_refl _)) (s_lost h _ _ (Nat.le_refl _)), hz]
  · exact ck_bad (by omega) hz
theorem s_least {L : List It} (h : Simple L) (base : Int) : Least (litX L) L.length base (fun i => first (litX L i)) := by
  refine ⟨Under.start, fun i hi => Or.inl ?_⟩
  have hk := simple_at h hi
  unfold reach
  rw [if_neg (fun e => by have := e.1; omega), if_neg (fun e => e.elim (fun e => by have := e.1; omega) (fun e => by have := e.1; omega))]
theorem s_ad {L : List It} (h : Simple L) (base : Int) (f : Nat → Nat) : ∀ k, k ≤ L.length → ad (litX L) base f k = base + k
  | 0, _ => by show base = base + ((0 : Nat) : Int); omega
  | k + 1, hk => by
    have hs := simple_at h (show k < L.length by omega)
    have hz : isz (litX L k) (f k) = 1 := by
      unfold isz
      rw [if_neg (by omega), if_neg (by omega), if_neg (by omega), if_neg (by omega), if_neg (by omega)]
    show ad (litX L) base f k + isz (litX L k) (f k) = _
    rw [s_ad h base f k (by omega), hz]
    omega
theorem s_words {L : List It} (h : Simple L) (n : Nat) (base : Int) (f : Nat → Nat) : ∀ k, k ≤ L.length → wordsL (litX L) n base f k = (L.take k).map wrd
  | 0, _ => by simp [wordsL]
  | k + 1, hk => by
    have hs := simple_at h (show k < L.length by omega)
    show wordsL (litX L) n base f k ++ iw (litX L) n base f k = _
    rw [s_words h n base f k (by omega), List.take_add_one, litX_get (show k < L.length by omega), List.map_append]
    congr 1
    show _ = [wrd (litX L k)]
    unfold iw wrd
    by_cases h1 : (litX L k).kind = 1
    · rw [if_pos h1, if_pos h1]
    · rw [if_neg h1, if_neg h1, if_neg (by omega), if_neg (by omega), if_neg (by omega), if_pos (by omega)]
theorem s_places {L : List It} (h : Simple L) (g : Nat → Int) : ∀ k, k ≤ L.length → placesL (litX L) g k = []
  | 0, _ => rfl
  | k + 1, hk => by
    have hs := simple_at h (show k < L.length by omega)
    show (if (litX L k).kind = 2 then _ else _) = _
    rw [if_neg (by omega), s_places h g k (by omega)]
theorem bad_iff {X : Nat → It} : ∀ {n : Nat}, bad X n = 0 ↔ ∀ i, i < n → citem (X i) = 0
  | 0 => ⟨fun _ i hi => absurd hi (Nat.not_lt_zero _), fun _ => rfl⟩
  | n + 1 => by
    have ih := @bad_iff X n
    constructor
    · intro h i hi
      by_cases hb : bad X n = 0
      · by_cases he : i = n
        · subst he
          have e : bad X (i + 1) = if bad X i = 0 then citem (X i) else bad X i := rfl
          rw [e, if_pos hb] at h
          exact h
        · exact ih.1 hb i (by omega)
      · have e : bad X (n + 1) = if bad X n = 0 then citem (X n) else bad X n := rfl
        rw [e, if_neg hb] at h
        exact absurd h hb
    · intro h
      exact bad_step (ih.2 fun i hi => h i (by omega)) (h n (by omega))
theorem bad_list {L : List It} : bad (litX L) L.length = 0 ↔ ∀ x, x ∈ L → citem x = 0 := by
  rw [bad_iff]
  constructor
  · intro h x hx
    obtain ⟨i, hi, e⟩ := List.mem_iff_getElem.1 hx
    have h1 := litX_get hi
    rw [List.getElem?_eq_getElem hi, e] at h1
    rw [Option.some.inj h1]
    exact h i hi
  · exact fun h i hi => h _ (litX_mem hi)
theorem full_citem (nm : ByteArray) (x : It) : citem (full nm x) = citem x := by unfold full; split <;> rfl
theorem full_w1 (nm : ByteArray) (x : It) : wrd (full nm x) = wrd x := by unfold full; split <;> rfl
def movL (x y : List It) : List Ob := [⟨⟨#[97]⟩, x⟩, ⟨⟨#[98]⟩, y⟩]
theorem mov_flat (x y : List It) : flat (movL x y) = x.map (full ⟨#[97]⟩) ++ y.map (full ⟨#[98]⟩) := by
  show x.map (full ⟨#[97]⟩) ++ (y.map (full ⟨#[98]⟩) ++ []) = _
  rw [List.append_nil]
theorem mov_len (x y : List It) : (flat (movL x y)).length = x.length + y.length := by rw [mov_flat]; simp
theorem mov_simple {x y : List It} (hx : Simple x) (hy : Simple y) : Simple (flat (movL x y)) := by
  intro z hz
  rw [mov_flat] at hz
  rcases List.mem_append.1 hz with hz | hz
  · obtain ⟨u, hu, rfl⟩ := List.mem_map.1 hz
    rw [full_kind]; exact hx u hu
  · obtain ⟨u, hu, rfl⟩ := List.mem_map.1 hz
    rw [full_kind]; exact hy u hu
theorem mov_bad (x y : List It) : bad (litX (flat (movL x y))) (flat (movL x y)).length = 0 ↔ bad (litX x) x.length = 0 ∧ bad (litX y) y.length = 0 := by
  rw [bad_list, bad_list, bad_list, mov_flat]
  constructor
  · intro h
    exact ⟨fun z hz => by rw [← full_citem ⟨#[97]⟩]; exact h _ (List.mem_append_left _ (List.mem_map_of_mem hz)), fun z hz => by rw [← full_citem ⟨#[98]⟩]; exact h _ (List.mem_append_right _ (List.mem_map_of_mem hz))⟩
  · rintro ⟨h1, h2⟩ z hz
    rcases List.mem_append.1 hz with hz | hz
    · obtain ⟨u, hu, rfl⟩ := List.mem_map.1 hz
      rw [full_citem]; exact h1 u hu
    · obtain ⟨u, hu, rfl⟩ := List.mem_map.1 hz
      rw [full_citem]; exact h2 u hu
theorem mov_w1 (x y : List It) : (flat (movL x y)).map wrd = x.map wrd ++ y.map wrd := by
  rw [mov_flat, List.map_append, List.map_map, List.map_map]
  congr 1 <;> exact List.map_congr_left fun z _ => full_w1 _ z
theorem mov_lc (x y : List It) : lcheck (movL x y) = 0 := by
  refine lc_good ?_ ?_
  · show dup (movL x y) 2 = false
    rfl
  · show badn (movL x y) 2 = false
    rfl
theorem mov_few {x y : List It} (hx : x.length ≤ 60) (hy : y.length ≤ 60) (ox : OkI 281474976710656 x) (oy : OkI 281474976710656 y) : Few (movL x y) := by
  refine ⟨by show (2 : Nat) ≤ 8; omega, fun i hi => ?_, fun i hi => ?_, fun i hi => ?_⟩ <;> rcases (show i = 0 ∨ i = 1 by have : i < 2 := hi; omega) with rfl | rfl
  · exact hx
  · exact hy
  · show (1 : Nat) ≤ 40; omega
  · show (1 : Nat) ≤ 40; omega
  · exact ox
  · exact oy
/-- What Assemble returns of such items. -/
theorem assembled_simple {W w' : World} {L : List It} {base : Int} {e : Ending} (hs : Simple L) (hb : 0 ≤ base ∧ base ≤ 66000) (hl : L.length ≤ 120) (h : Assembled W w' (litX L) L.length base e) :
    ∃ (p : Option Addr) (n c : Nat) (q : Option Addr) (m d : Nat) (code : Int), e = .returned (.tuple #[.slice p n c, .slice q m d, .int .i64 code]) ∧ ((bad (litX L) L.length ≠ 0 ∧ code ≠ 0 ∧ n = 0) ∨ (bad (litX L) L.length = 0 ∧ code = 0 ∧ n = L.length ∧ w'.ownsRow W.heap.size 38 1 (.slice p n c) n (byW (L.map wrd)))) := by
  have hc := s_check hs (base := base) (by omega)
  rcases h with ⟨h1, rfl⟩ | ⟨h1, f, hf, ⟨h2, -⟩ | ⟨h2, O, vp, rfl, hw, hp⟩⟩
  · rw [hc] at h1
    exact ⟨none, 0, 0, none, 0, 0, _, rfl, Or.inl ⟨h1, by rw [hc]; exact h1, rfl⟩⟩
  · have := s_ad hs base f L.length (Nat.le_refl _)
    omega
  · rw [hc] at h1
    have ew := s_words hs L.length base f L.length (Nat.le_refl _)
    rw [List.take_length] at ew
    rw [ew] at hw ⊢
    obtain ⟨pp, cp, rfl⟩ := own_shape hp
    exact ⟨_, _, _, _, _, _, 0, rfl, Or.inr ⟨h1, rfl, by simp, hw⟩⟩
/-- What Link returns of two objects of such items. -/
theorem linked_simple {W w' : World} {x y : List It} {base : Int} {e : Ending} (hx : Simple x) (hy : Simple y) (hb : 0 ≤ base ∧ base ≤ 66000) (lx : x.length ≤ 60) (ly : y.length ≤ 60) (h : Linked W w' (movL x y) base e) :
    ∃ (p : Option Addr) (n c : Nat) (q : Option Addr) (m d : Nat) (code : Int), e = .returned (.tuple #[.agg #[.slice p n c, .slice q m d], .int .i64 code]) ∧ (((bad (litX x) x.length ≠ 0 ∨ bad (litX y) y.length ≠ 0) ∧ code ≠ 0) ∨ ((bad (litX x) x.length = 0 ∧ bad (litX y) y.length = 0) ∧ code = 0 ∧ n = x.length + y.length ∧ w'.ownsRow W.heap.size 38 1 (.slice p n c) n (byW (x.map wrd ++ y.map wrd)))) := by
  have hs := mov_simple hx hy
  have hl := mov_len x y
  have hc := s_check hs (base := base) (by omega)
  rcases h with ⟨h1, -⟩ | ⟨-, ⟨h1, rfl⟩ | ⟨h1, f, hf, ⟨h2, -⟩ | ⟨h2, O, vp, rfl, hw, hp⟩⟩⟩
  · exact absurd (mov_lc x y) h1
  · rw [hc] at h1
    refine ⟨none, 0, 0, none, 0, 0, _, rfl, Or.inl ⟨?_, by rw [hc]; exact h1⟩⟩
    have := mt (mov_bad x y).2 h1
    by_cases hz : bad (litX x) x.length = 0
    · exact Or.inr fun h => this ⟨hz, h⟩
    · exact Or.inl hz
  · have := s_ad hs base f (flat (movL x y)).length (Nat.le_refl _)
    omega
  · rw [hc] at h1
    have ew := s_words hs (flat (movL x y)).length base f (flat (movL x y)).length (Nat.le_refl _)
    rw [List.take_length, mov_w1] at ew
    rw [ew] at hw ⊢
    obtain ⟨pp, cp, rfl⟩ := own_shape hp
    exact ⟨_, _, _, _, _, _, 0, rfl, Or.inr ⟨(mov_bad x y).1 h1, rfl, by simp, hw⟩⟩
/-- Those of the first k items that are words or instructions. -/
def pl (X : Nat → It) : Nat → List It
  | 0 => []
  | k + 1 => if (X k).kind = 6 ∨ (X k).kind = 1 then pl X k ++ [X k] else pl X k
theorem pl_len (X : Nat → It) : ∀ k, (pl X k).length ≤ k
  | 0 => Nat.le_refl _
  | k + 1 => by
    have := pl_len X k
    unfold pl
    split
    · rw [List.length_append, List.length_singleton]; omega
    · omega
theorem pl_all {X : Nat → It} {p : It → Prop} : ∀ {k : Nat}, (∀ i, i < k → ((X i).kind = 6 ∨ (X i).kind = 1) → p (X i)) → ∀ x, x ∈ pl X k → p x
  | 0, _, x, hx => by simp [pl] at hx
  | k + 1, h, x, hx => by
    unfold pl at hx
    split at hx
    · rename_i hk
      rcases List.mem_append.1 hx with hx | hx
      · exact pl_all (fun i hi => h i (by omega)) x hx
      · rw [List.mem_singleton.1 hx]; exact h k (by omega) hk
    · exact pl_all (fun i hi => h i (by omega)) x hx
theorem pl_simple (X : Nat → It) (k : Nat) : Simple (pl X k) := pl_all fun _ _ h => h
end Go.Proofs.YtbplmbignalbgaaDoor
