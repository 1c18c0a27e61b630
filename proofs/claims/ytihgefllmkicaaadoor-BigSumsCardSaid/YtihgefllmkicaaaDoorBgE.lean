/- Contracts: numbers trimmed, compared, and as a small one. Conditions: the digits lie as told. -/
import Derived.Test.YtihgefllmkicaaaDoorBgD
import Derived.Deep.RegionHeld3
namespace Go.Proofs.YtihgefllmkicaaaDoor
open Go.RowKit Bg
set_option linter.unusedVariables false
set_option linter.unusedSimpArgs false


set_option maxRecDepth 100000 in
set_option maxHeartbeats 1000000 in
theorem trim_at {w : World} {p : Option Addr} {c : Nat} {l : List Int} (h : Arg .u16 w p c l) :
    Calls Tryd.prog 62 #[.slice p l.length c] w fun e w' => e = .returned (.slice p (trimN l l.length) c) ∧ w = w' := by
  have hle := h.le
  have hmx := h.max
  have H := Lib.hid h
  clear h
  go_enter Tryd.func62, Tryd.ntmps62
  go_wp2_with fail
  go_loop [3] (fun s => ∃ n : Nat, s = .int .i64 n ∧ n ≤ l.length ∧ trimN l n = trimN l l.length) (fun s => (intOf s).toNat)
  case atStart => exact ⟨l.length, rfl, Nat.le_refl _, rfl⟩
  case round =>
    obtain ⟨n, rfl, hn, ht⟩ := hrel
    cases n with
    | zero =>
      have d1 : decide (((0 : Nat) : Int) > 0) = false := rfl
      have hp : p = none ∨ ∃ a, p = some a := by cases p; exact Or.inl rfl; exact Or.inr ⟨_, rfl⟩
      rcases hp with rfl | ⟨a, rfl⟩
      · have hl := H.out.nil rfl
        obtain ⟨rfl, rfl⟩ := hl
        go_wp2_with fail
        go_ret
        exact ⟨rfl, rfl⟩
      · have hc0 : (0 : Int) ≤ c := by omega
        have HT := Lib.hid ht
        clear ht
        go_wp2_with fail
        go_ret
        exact ⟨by rw [← HT.out]; rfl, rfl⟩
    | succ n =>
      obtain ⟨b, off, rfl, hc⟩ := H.out.at (by omega)
      have hcn := hc n (by omega)
      have e1 : ((n + 1 : Nat) : Int) - 1 = n := by omega
      have d1 : decide (((n + 1 : Nat) : Int) > 0) = true := by rw [decide_eq_true_eq]; omega
      have hin : (n : Int) < (l.length : Int) := by omega
      have ht' : (if l.getD n 0 = 0 then trimN l n else n + 1) = trimN l l.length := ht
      have HT := Lib.hid ht'
      clear ht ht' hc
      obtain ⟨d, hd⟩ : ∃ d, d = l.getD n 0 := ⟨_, rfl⟩
      rw [← hd] at hcn
      have HD := Lib.hid hd
      clear hd
      by_cases hz : d = 0
      · subst hz
        go_wp2_with fail
        go_round
        case rel => exact ⟨n, by go_num, by omega, by rw [← HT.out, if_pos HD.out.symm]⟩
        case measure => simp [intOf]
      · have dz : decide (d = 0) = false := by simp [hz]
        have hc0 : ((n + 1 : Nat) : Int) ≤ c := by omega
        go_wp2_with fail
        go_ret
        refine ⟨?_, rfl⟩
        rw [← HT.out, if_neg (by rw [← HD.out]; exact hz)]
        rfl

set_option maxHeartbeats 1000000 in
theorem signed_at (neg : Bool) (p : Option Addr) (n c : Nat) (w : World) :
    Calls Tryd.prog 42 #[.bool neg, .slice p n c] w fun e w' => e = .returned (.agg #[.bool (neg && decide (0 < n)), .slice p n c]) ∧ Below w.heap.size w w' := by
  go_enter Tryd.func42, Tryd.ntmps42
  by_cases hn : 0 < n
  · have d1 : decide ((n : Int) > 0) = true := by rw [decide_eq_true_eq]; omega
    have d2 : decide (0 < n) = true := decide_eq_true hn
    cases neg
    all_goals
      go_wp2_with fail
      go_returns
      exact ⟨by first | rfl | simp [hn], (Below.refl _ _).alloc (Nat.le_refl _) _⟩
  · have d1 : decide ((n : Int) > 0) = false := by rw [decide_eq_false_iff_not]; omega
    have d2 : decide (0 < n) = false := decide_eq_false hn
    cases neg
    all_goals
      go_wp2_with fail
      go_returns
      exact ⟨by first | rfl | simp [hn], (Below.refl _ _).alloc (Nat.le_refl _) _⟩
/-- A number's sign, tidy. -/
def tneg (neg : Bool) (l : List Int) : Bool := neg && decide (0 < trimN l l.length)
def tdig (l : List Int) : List Int := l.take (trimN l l.length)
theorem tdig_len (l : List Int) : (tdig l).length = trimN l l.length := by
  have := trimN_le l l.length
  unfold tdig
  rw [List.length_take]; omega
theorem two_boxes (w : World) (a b c d : Value) : ∃ W, W = (w.alloc (.cells #[a, b] 24)).alloc (.cells #[c, d] 24) ∧ Below w.heap.size w W ∧ W.heap.size = w.heap.size + 2 ∧ W.heap[w.heap.size]? = some (.cells #[a, b] 24) ∧ W.heap[w.heap.size + 1]? = some (.cells #[c, d] 24) := by
  refine ⟨_, rfl, ((Below.refl _ _).alloc (Nat.le_refl _) _).alloc (by simp) _, by simp, ?_, ?_⟩
  · rw [Below.heap_alloc _ _ _ (by simp)]; exact heap_new _ _
  · have := heap_new (w.alloc (.cells #[a, b] 24)) (.cells #[c, d] 24)
    simpa using this
/-- A block of two cells stays. -/
theorem two_cells {w : World} {b : Nat} {x y : Value} (h : w.heap[b]? = some (.cells #[x, y] 24)) : w.cell? ⟨b, 0, none⟩ = some x ∧ w.cell? ⟨b, 1, none⟩ = some y ∧ w.frozen? ⟨b, 0, none⟩ = false ∧ w.frozen? ⟨b, 1, none⟩ = false := by
  simp [World.cell?, World.frozen?, h]
theorem two_kept {w w' : World} {b : Nat} {x y : Value} (h : w.heap[b]? = some (.cells #[x, y] 24)) (hb : Below w.heap.size w w') : w'.heap[b]? = some (.cells #[x, y] 24) := (hb.block b (lt_block h)).trans h
theorem set_at {w : World} {b t i : Nat} {cs : Array Value} {x : Value} (h : w.heap[b]? = some (.cells cs t)) (hi : i < cs.size) : (w.setCell ⟨b, i, none⟩ x).heap[b]? = some (.cells (cs.setIfInBounds i x) t) := by
  have hlt := lt_block h
  have h' : w.heap[b] = .cells cs t := by simpa [Array.getElem?_eq_getElem hlt] using h
  show (w.heap.modify b _)[b]? = _
  rw [Array.getElem?_eq_getElem (by simpa using hlt), Array.getElem_modify_self, h']
  simp [Array.setIfInBounds, hi]
/-- A value of two cells, stored. -/
theorem store_two {w : World} {b : Nat} {x y : Value} (h : w.heap[b]? = some (.cells #[x, y] 24)) (u v : Value) :
    (w.setCell ⟨b, 0, none⟩ u).cell? ⟨b, 0, none⟩ = some u ∧ ((w.setCell ⟨b, 0, none⟩ u).setCell ⟨b, 1, none⟩ v).cell? ⟨b, 1, none⟩ = some v ∧ ((w.setCell ⟨b, 0, none⟩ u).setCell ⟨b, 1, none⟩ v).cell? ⟨b, 0, none⟩ = some u ∧ ((w.setCell ⟨b, 0, none⟩ u).setCell ⟨b, 1, none⟩ v).heap[b]? = some (.cells #[u, v] 24) := by
  have h1 := set_at (x := u) (i := 0) h (by simp)
  have h2 := set_at (x := v) (i := 1) h1 (by simp)
  have k1 := two_cells h1
  have k2 := two_cells h2
  exact ⟨k1.1, k2.2.1, k2.1, h2⟩
set_option maxRecDepth 100000 in
set_option maxHeartbeats 1000000 in
theorem tidied_at {w : World} {p : Option Addr} {c : Nat} {l : List Int} (neg : Bool) (h : Arg .u16 w p c l) :
    Calls Tryd.prog 41 #[.agg #[.bool neg, .slice p l.length c]] w fun e w' => e = .returned (.agg #[.bool (tneg neg l), .slice p (tdig l).length c]) ∧ Below w.heap.size w w' := by
  obtain ⟨W, hW, hB, hS, hb0, hb1⟩ := two_boxes w (.bool neg) (.slice p l.length c) (.bool false) (.slice none 0 0)
  have H := Lib.hid (h.below hB)
  clear h
  rw [tdig_len]
  go_enter Tryd.func41, Tryd.ntmps41
  go_wp2_with fail
  rw [← hW]
  obtain ⟨b, hb⟩ : ∃ b, b = w.heap.size := ⟨_, rfl⟩
  rw [← hb] at hb0 hb1 hS hB ⊢
  have K0 := Lib.hid hb0
  have K1 := Lib.hid hb1
  have k0 := two_cells hb0
  have k1 := two_cells hb1
  have e1 : W.heap.size = b + 1 + 1 := hS
  have HB := Lib.hid (And.intro hB hb)
  clear hW hB hb0 hb1 hS hb
  obtain ⟨q0, q1, q2, q3⟩ := k0
  obtain ⟨r0, r1, r2, r3⟩ := k1
  have d0 : W.drew.cell? ⟨b, 0, none⟩ = some (.bool neg) := q0
  have d1 : W.drew.cell? ⟨b, 1, none⟩ = some (.slice p l.length c) := q1
  go_region_held (fun w' => w'.cell? ⟨b, 0, none⟩ = some (.bool neg) ∧ w'.cell? ⟨b, 1, none⟩ = some (.slice p l.length c)) (go_keep)
    (first
      | (go_at_call 62; refine (trim_at H.out.drew).mono ?_; rintro e w' ⟨rfl, rfl⟩)
      | (go_at_call 42; refine (signed_at _ _ _ _ _).mono ?_; rintro e w' ⟨rfl, hb⟩; have X0 := Lib.hid (two_kept (w := W.drew) K0.out hb); have X1 := Lib.hid (two_kept (w := W.drew) K1.out hb); obtain ⟨x0, x1, x2, x3⟩ := two_cells X0.out; obtain ⟨y0, y1, y2, y3⟩ := two_cells X1.out))
  all_goals
    obtain ⟨s0, s1, s2, s3⟩ := store_two X1.out (.bool (neg && decide (0 < trimN l l.length))) (.slice p (trimN l l.length) c)
    go_wp2_with fail
    refine bodyPost_ret (v := .agg #[.bool (neg && decide (0 < trimN l l.length)), .slice p (trimN l l.length) c]) (by simp [results, Tryd.results41, go_sem, s1, s2]) rfl ⟨rfl, ?_⟩
    have h1 := HB.out.1.drew.trans (hb.mono (show b ≤ W.heap.size by omega))
    have hb' := HB.out.2
    subst hb'
    exact (h1.setCell (p := ⟨w.heap.size + 1, 0, none⟩) (by show _ ≤ w.heap.size + 1; omega) _).setCell (p := ⟨w.heap.size + 1, 1, none⟩) (by show _ ≤ w.heap.size + 1; omega) _
end Go.Proofs.YtihgefllmkicaaaDoor
