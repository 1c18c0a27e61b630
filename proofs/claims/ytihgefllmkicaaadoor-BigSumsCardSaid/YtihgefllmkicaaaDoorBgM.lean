/- Contracts: a difference of digits; so many times digits taken off, and given back. Conditions: the digits lie as told. -/
import Derived.Test.YtihgefllmkicaaaDoorBgL
namespace Go.Proofs.YtihgefllmkicaaaDoor
open Go.RowKit Bg
set_option linter.unusedVariables false
set_option linter.unusedSimpArgs false


/-- Digits laid over a row from a place on. -/
def win (T : List Int) (at_ : Nat) (D : List Int) : List Int := T.take at_ ++ (D ++ T.drop (at_ + D.length))
theorem win_len {T : List Int} {a : Nat} {D : List Int} (h : a + D.length ≤ T.length) : (win T a D).length = T.length := by
  unfold win
  rw [List.length_append, List.length_append, List.length_take, List.length_drop]; omega
theorem win_nil (T : List Int) (a : Nat) : win T a [] = T := by
  unfold win
  simp
theorem win_set {T : List Int} {a : Nat} {D : List Int} (h : a + D.length < T.length) (x : Int) : (win T a D).set (a + D.length) x = win T a (D ++ [x]) := by
  unfold win
  have l1 : (T.take a).length = a := by rw [List.length_take]; omega
  rw [List.set_append, if_neg (by omega), l1, List.set_append, if_neg (by omega), show a + D.length - a - D.length = 0 by omega]
  have e : T.drop (a + D.length) = T[a + D.length] :: T.drop (a + D.length + 1) := List.drop_eq_getElem_cons h
  rw [e, List.set_cons_zero, List.append_assoc, List.length_append]
  rfl
theorem win_get {T : List Int} {a : Nat} {D : List Int} (h : a + D.length ≤ T.length) {j : Nat} (hj : D.length ≤ j) : (win T a D).getD (a + j) 0 = T.getD (a + j) 0 := by
  unfold win
  have l1 : (T.take a).length = a := by rw [List.length_take]; omega
  simp only [List.getD_eq_getElem?_getD]
  rw [List.getElem?_append_right (by omega), List.getElem?_append_right (by omega), List.getElem?_drop, l1, show a + D.length + (a + j - a - D.length) = a + j by omega]
theorem win_dig {B : Int} {T : List Int} {a : Nat} {D : List Int} (h : Dig B T) (k : Dig B D) : Dig B (win T a D) := (h.take _).app (k.app (h.drop _))
theorem win_val {B : Int} {T : List Int} {a : Nat} {D : List Int} (h : a + D.length ≤ T.length) : val B (win T a D) = val B (T.take a) + B ^ a * (val B D + B ^ D.length * val B (T.drop (a + D.length))) := by
  unfold win
  rw [val_app, val_app, List.length_take, Nat.min_eq_left (by omega)]
/-- Digit by digit, with what is carried down. -/
structure Sub (x : Int) (A b : List Int) (k : Nat) (c : Int) (D : List Int) : Prop where
  len : D.length = k
  dig : Dig 65536 D
  carry : -(x + 1) ≤ c ∧ c ≤ 0
  val : Bg.val 65536 D + 65536 ^ k * c = Bg.val 65536 (A.take k) - x * Bg.val 65536 (b.take k)
theorem Sub.next {x : Int} {A b : List Int} {k : Nat} {c : Int} {D : List Int} (h : Sub x A b k c D) (hx : 0 ≤ x ∧ x ≤ 65536) (hA : Dig 65536 A) (hb : Dig 65536 b) :
    Sub x A b (k + 1) ((c + (A.getD k 0 - x * b.getD k 0)) / 65536) (D ++ [(c + (A.getD k 0 - x * b.getD k 0)) % 65536]) := by
  have h1 := hA.getD (by decide) k
  have h2 := hb.getD (by decide) k
  have hc := h.carry
  have h3 : 0 ≤ x * b.getD k 0 := Int.mul_nonneg hx.1 h2.1
  have h4 : x * b.getD k 0 ≤ x * 65535 := Int.mul_le_mul_of_nonneg_left (by omega) hx.1
  refine ⟨by rw [List.length_append, h.len]; rfl, h.dig.app (Dig.one (mod_dig (by decide) _)), by omega, ?_⟩
  have e := carry_step 65536 D (c + (A.getD k 0 - x * b.getD k 0))
  rw [h.len] at e
  rw [e, val_take_any, val_take_any, Int.mul_add, Int.mul_sub, Int.mul_add, ← h.len]
  have e2 := h.val
  rw [← h.len] at e2
  have e3 : 65536 ^ D.length * (x * b.getD D.length 0) = x * (65536 ^ D.length * b.getD D.length 0) := Int.mul_left_comm _ _ _
  rw [e3]
  omega
set_option maxRecDepth 100000 in
set_option maxHeartbeats 4000000 in
theorem minus_at {w : World} {pa pb : Option Addr} {ca cb : Nat} {la lb : List Int} (a1 : Arg .u16 w pa ca la) (a2 : Arg .u16 w pb cb lb) (d1 : Dig 65536 la) (d2 : Dig 65536 lb) (tb : Tidy lb) (l1 : la.length ≤ 1000000) (hle : val 65536 lb ≤ val 65536 la) :
    Calls Tryd.prog 52 #[.slice pa la.length ca, .slice pb lb.length cb] w fun e w' => ∃ v D, e = .returned v ∧ Own 52 .u16 w.heap.size w' v D ∧ Dig 65536 D ∧ Tidy D ∧ val 65536 D = val 65536 la - val 65536 lb ∧ Below w.heap.size w w' := by
  have hlen : lb.length ≤ la.length := Nat.le_of_not_lt fun h => by have := val_shorter (show (1 : Int) ≤ 65536 by decide) d1 d2 tb h; omega
  have le1 := a1.le
  have mx1 := a1.max
  have le2 := a2.le
  have mx2 := a2.max
  obtain ⟨v, w1, hr, ho, -, hb⟩ := app_row kt16 (Own.nil 52 .u16 w.heap.size w) a1 (by simp; omega) (Nat.le_refl _)
  rw [List.nil_append] at ho
  obtain ⟨p, c, rfl, hp, hpp⟩ := ho.arg
  have H := Lib.hid (And.intro a1 (And.intro a2 (And.intro d1 (And.intro d2 (And.intro hle (And.intro ho hb))))))
  have HR := Lib.hid hr
  clear a1 a2 d1 d2 hle ho hb hr
  go_enter Tryd.func52, Tryd.ntmps52
  go_wp2_with (first
    | (at_builtin; refine Lib.wpList_append_run _ rfl _ _ 22 22 rfl (.slice none 0 0) (.slice pa la.length ca) rfl rfl (.slice p la.length c) w1 HR.out ?_))
  go_loopw [6, 12] (fun t s wr => ∃ (k : Nat) (c' : Int) (D : List Int), s = .int .i64 k ∧ t = .int .i64 c' ∧ k ≤ la.length ∧ Hid (Sub 1 la lb k c' D ∧ Own 52 .u16 w.heap.size wr (.slice p la.length c) (win la 0 D) ∧ Below w.heap.size w wr)) (fun _ s _ => la.length - (intOf s).toNat)
  case atStart => exact ⟨0, 0, [], rfl, rfl, Nat.zero_le _, ⟨rfl, Dig.nil, by omega, by simp [val]⟩, by rw [win_nil]; exact H.out.2.2.2.2.2.1, H.out.2.2.2.2.2.2⟩
  case round =>
    obtain ⟨k, c', D, rfl, rfl, hk, hS⟩ := hrel
    by_cases hlt : k < la.length
    · have hDk := hS.out.1.len
      have d1 : decide ((k : Int) < (la.length : Int)) = true := by rw [decide_eq_true_eq]; omega
      have f1 : (k : Int) < (la.length : Int) := by omega
      rcases hpp with rfl | ⟨g, rfl, hg1, hg2⟩
      · have := (hp.nil rfl).1
        rw [this] at hlt
        simp at hlt
      have gk := hS.out.2.1.cell k (by rw [win_len (by omega)]; exact hlt)
      have gf := hS.out.2.1.free k
      have e0 := win_get (T := la) (a := 0) (D := D) (by omega) (j := k) (by omega)
      rw [Nat.zero_add] at e0
      rw [e0] at gk
      have hn := hS.out.1.next (by decide) H.out.2.2.1 H.out.2.2.2.1
      have dk := H.out.2.2.1.getD (by decide) k
      have dbk := H.out.2.2.2.1.getD (by decide) k
      have hc := hS.out.1.carry
      have hset := win_set (T := la) (a := 0) (D := D) (by omega)
      rw [Nat.zero_add, hDk] at hset
      obtain ⟨x, hx⟩ : ∃ x, x = la.getD k 0 := ⟨_, rfl⟩
      obtain ⟨y, hy⟩ : ∃ y, y = lb.getD k 0 := ⟨_, rfl⟩
      rw [← hx] at gk hn dk
      rw [← hy, Int.one_mul] at hn
      rw [← hy] at dbk
      by_cases hkb : k < lb.length
      · obtain ⟨bb, ob, rfl, -⟩ := H.out.2.1.at (by omega)
        have cb1 := (H.out.2.1.below hS.out.2.2).some_at k hkb
        rw [← hy] at cb1
        have d2 : decide ((k : Int) < (lb.length : Int)) = true := by rw [decide_eq_true_eq]; omega
        have f2 : (k : Int) < (lb.length : Int) := by omega
        have HX := Lib.hid (And.intro hn (And.intro hset (And.intro dk (And.intro dbk (And.intro hc hx)))))
        clear hn hset dk dbk hx hy hc e0
        go_wp2_with fail
        rw [show wrap64 (wrap64 (c' + wrap64 x) - wrap64 y) = c' + (x - y) from by have := HX.out.2.2; unfold wrap64; omega, IntKind.wrap_u16]
        go_roundw
        case rel =>
          have hs := hS.out.2.1.set k ((c' + (x - y)) % 65536)
          rw [HX.out.2.1] at hs
          exact ⟨k + 1, _, _, by go_num, rfl, hlt, HX.out.1, hs, hS.out.2.2.setCell (p := ⟨g, k, none⟩) hg1 _⟩
        case measure => simp [intOf]; omega
      · have hy0 : y = 0 := by
          rw [hy]
          simp [List.getD, List.getElem?_eq_none (show lb.length ≤ k by omega)]
        subst hy0
        rw [Int.sub_zero] at hn
        have d2 : decide ((k : Int) < (lb.length : Int)) = false := by rw [decide_eq_false_iff_not]; omega
        have HX := Lib.hid (And.intro hn (And.intro hset (And.intro dk hc)))
        clear hn hset dk dbk hx hy hc e0
        go_wp2_with fail
        rw [show wrap64 (c' + wrap64 x) = c' + x from by have := HX.out.2.2; unfold wrap64; omega, IntKind.wrap_u16]
        go_roundw
        case rel =>
          have hs := hS.out.2.1.set k ((c' + x) % 65536)
          rw [HX.out.2.1] at hs
          exact ⟨k + 1, _, _, by go_num, rfl, hlt, HX.out.1, hs, hS.out.2.2.setCell (p := ⟨g, k, none⟩) hg1 _⟩
        case measure => simp [intOf]; omega
    · have hz : k = la.length := by omega
      subst hz
      have d1 : decide ((la.length : Int) < (la.length : Int)) = false := by simp
      have hS1 := hS.out.1
      have hw : win la 0 D = D := by
        unfold win
        rw [hS1.len]
        simp
      have ho := hS.out.2.1
      rw [hw] at ho
      have hv := hS1.val
      rw [List.take_length, Int.one_mul, List.take_of_length_le (by omega)] at hv
      have hc0 : c' = 0 := by
        have h1 := hS1.carry
        have h2 := val_lt (by decide) hS1.dig
        have h3 := H.out.2.2.2.2.1
        have h4 := pow_pos' (show (0 : Int) < 65536 by decide) la.length
        rw [hS1.len] at h2
        rcases (show c' = 0 ∨ c' ≤ -1 by omega) with h | h
        · exact h
        · exfalso
          have h5 : 65536 ^ la.length * c' ≤ 65536 ^ la.length * (-1) := Int.mul_le_mul_of_nonneg_left h (Int.le_of_lt h4)
          omega
      have hv2 : val 65536 D = val 65536 la - val 65536 lb := by rw [hc0, Int.mul_zero] at hv; omega
      have hlD := hS1.len
      have htk := ho.take (trimN_le D D.length)
      obtain ⟨p5, c5, hv5, ha5, -⟩ := ho.arg
      simp only [Value.slice.injEq] at hv5
      obtain ⟨rfl, -, rfl⟩ := hv5
      have htr := trim_at ha5
      rw [hlD] at htr htk
      have HT := Lib.hid htr
      have HX2 := Lib.hid (And.intro htk (And.intro hv2 (And.intro hS1.dig hlD)))
      clear htk hv hv2 ha5 ho hS1 hw hlD htr
      go_wp2_with fail
      refine HT.out.mono ?_
      rintro e w' ⟨rfl, rfl⟩
      go_wp2_with fail
      go_ret
      have hlD := HX2.out.2.2.2
      refine ⟨_, D.take (trimN D la.length), rfl, HX2.out.1, HX2.out.2.2.1.take _, ?_, ?_, hS.out.2.2⟩
      · rw [← hlD]; exact trim_tidy D.length (Nat.le_refl _)
      · rw [trim_val, ← hlD, List.take_length]
        exact HX2.out.2.1

theorem drewN_frozen (w : World) (n : Nat) (a : Addr) : (w.drewN n).frozen? a = w.frozen? a := by
  induction n with
  | zero => rfl
  | succ n ih => exact ih
theorem grown_drewN {a b : World} {row : Option Nat} (h : a.grownBy b row) (n : Nat) : a.grownBy (b.drewN n) row := by
  induction n with
  | zero => exact h
  | succ n ih => exact grown_drewr ih
theorem getD_drop (T : List Int) (a k : Nat) : (T.drop a).getD k 0 = T.getD (a + k) 0 := by simp [List.getD, List.getElem?_drop]
set_option maxRecDepth 100000 in
set_option maxHeartbeats 4000000 in
theorem takeTimes_at {w : World} {B g n cap a cp : Nat} {p : Option Addr} {c : Nat} {T b : List Int} {x : Int} (ho : Own 52 .u16 B w (.slice (some ⟨g, 0, none⟩) n cap) T) (h : Arg .u16 w p c b) (hp : ∀ b o, p = some ⟨b, o, none⟩ → some b ≠ some g)
    (hT : Dig 65536 T) (hb : Dig 65536 b) (hx : 0 ≤ x ∧ x ≤ 65536) (ha : a + b.length + 1 ≤ T.length) (hn : T.length ≤ 10000000) :
    Calls Tryd.prog 70 #[.slice (some ⟨g, a, none⟩) (b.length + 1) cp, .slice p b.length c, .int .u64 x] w fun e w' => ∃ (D : List Int) (z : Int), e = .returned (.bool (decide (z < 0))) ∧ Sub x (T.drop a) b (b.length + 1) z D ∧ Own 52 .u16 B w' (.slice (some ⟨g, 0, none⟩) n cap) (win T a D) ∧ w.grownBy w' (some g) := by
  have hle := h.le
  have hmx := h.max
  have H := Lib.hid (And.intro ho (And.intro h hp))
  have HD := Lib.hid (And.intro hT (And.intro hb hx))
  have hxb := hx
  clear h hp hT hb ho hx
  go_enter Tryd.func70, Tryd.ntmps70
  go_wp2_with fail
  go_loopw [7, 11] (fun t s wr => ∃ (k : Nat) (c' : Int) (D : List Int), s = .int .i64 k ∧ t = .int .i64 c' ∧ k ≤ b.length ∧ Hid (Sub x (T.drop a) b k c' D ∧ Own 52 .u16 B wr (.slice (some ⟨g, 0, none⟩) n cap) (win T a D) ∧ w.grownBy wr (some g))) (fun _ s _ => b.length - (intOf s).toNat)
  case atStart => exact ⟨0, 0, [], rfl, rfl, Nat.zero_le _, ⟨rfl, Dig.nil, by omega, by simp [val]⟩, by rw [win_nil]; exact H.out.1, grown_refl _ _⟩
  case round =>
    obtain ⟨k, c', D, rfl, rfl, hk, hS⟩ := hrel
    have hDk := hS.out.1.len
    have gk := hS.out.2.1.cell (a + k) (by rw [win_len (by omega)]; omega)
    have gf := hS.out.2.1.free (a + k)
    have e0 := win_get (T := T) (a := a) (D := D) (by omega) (j := k) (by omega)
    rw [e0] at gk
    have hdT : Dig 65536 (T.drop a) := HD.out.1.drop a
    have hnx := hS.out.1.next HD.out.2.2 hdT HD.out.2.1
    rw [getD_drop] at hnx
    have dk := HD.out.1.getD (by decide) (a + k)
    have dbk := HD.out.2.1.getD (by decide) k
    have hc := hS.out.1.carry
    have hset := win_set (T := T) (a := a) (D := D) (by omega)
    rw [hDk] at hset
    obtain ⟨t, ht⟩ : ∃ t, t = T.getD (a + k) 0 := ⟨_, rfl⟩
    obtain ⟨y, hy⟩ : ∃ y, y = b.getD k 0 := ⟨_, rfl⟩
    rw [← ht] at gk hnx dk
    rw [← hy] at hnx dbk
    have hp1 : 0 ≤ x * y := Int.mul_nonneg hxb.1 dbk.1
    have hp2 : x * y ≤ x * 65535 := Int.mul_le_mul_of_nonneg_left (by omega) hxb.1
    by_cases hlt : k < b.length
    · have ab := H.out.2.1.kept hS.out.2.2 H.out.2.2
      obtain ⟨bb, ob, rfl, -⟩ := H.out.2.1.at (by omega)
      have cb1 := ab.some_at k hlt
      rw [← hy] at cb1
      have d1 : decide ((k : Int) < (b.length : Int)) = true := by rw [decide_eq_true_eq]; omega
      have f1 : (k : Int) < (b.length : Int) := by omega
      have f2 : (k : Int) < ((b.length + 1 : Nat) : Int) := by omega
      have HX := Lib.hid (And.intro hnx (And.intro hset (And.intro dk (And.intro dbk (And.intro hc (And.intro hp1 hp2))))))
      clear hnx hset dk dbk ht hy hc hp1 hp2 ab e0 hdT
      go_wp2_with fail
      go_quiet (fail)
      rw [show wrap64 (c' + wrap64 (wrap64 t - wrap64 (x * wrap64 y))) = c' + (t - x * y) from by
        have := HX.out.2.2
        rw [show wrap64 y = y from by unfold wrap64; omega]
        unfold wrap64; omega]
      have gk5 := (drewN_cell wr nq _).trans gk
      have gf5 := (drewN_frozen wr nq _).trans gf
      have hS5 : Hid (Own 52 .u16 B (wr.drewN nq) (.slice (some ⟨g, 0, none⟩) n cap) (win T a D) ∧ w.grownBy (wr.drewN nq) (some g)) := ⟨hS.out.2.1.below (below_drewN (Below.refl _ _) _), grown_drewN hS.out.2.2 _⟩
      obtain ⟨w5, hw5⟩ : ∃ w5, w5 = wr.drewN nq := ⟨_, rfl⟩
      rw [← hw5] at gk5 gf5 hS5 ⊢
      clear hw5 gk gf cb1
      go_wp2_with fail
      rw [IntKind.wrap_u16]
      go_roundw
      case rel =>
        have hs := hS5.out.1.set (a + k) ((c' + (t - x * y)) % 65536)
        rw [HX.out.2.1] at hs
        exact ⟨k + 1, _, _, by go_num, rfl, hlt, HX.out.1, hs, grown_trans hS5.out.2 (grown_set _ _ _ _)⟩
      case measure => simp [intOf]; omega
    · have hz : k = b.length := by omega
      subst hz
      have d1 : decide ((b.length : Int) < (b.length : Int)) = false := by simp
      have f2 : (b.length : Int) < ((b.length + 1 : Nat) : Int) := by omega
      have hy0 : y = 0 := by
        rw [hy]
        simp [List.getD]
      subst hy0
      rw [Int.mul_zero, Int.sub_zero] at hnx
      have HX := Lib.hid (And.intro hnx (And.intro hset (And.intro dk hc)))
      clear hnx hset dk dbk ht hy hc hp1 hp2 e0 hdT
      go_wp2_with fail
      rw [show wrap64 (c' + wrap64 t) = c' + t from by have := HX.out.2.2; unfold wrap64; omega, IntKind.wrap_u16]
      go_ret
      have hs := hS.out.2.1.set (a + b.length) ((c' + t) % 65536)
      rw [HX.out.2.1] at hs
      refine ⟨D ++ [(c' + t) % 65536], (c' + t) / 65536, ?_, HX.out.1, hs, grown_trans hS.out.2.2 (grown_set _ _ _ _)⟩
      apply retB
      by_cases hneg : c' + t < 0
      · rw [decide_eq_true hneg, decide_eq_true (show (c' + t) / 65536 < 0 by omega)]
      · rw [decide_eq_false hneg, decide_eq_false (show ¬ (c' + t) / 65536 < 0 by omega)]

/-- Digit by digit, added. -/
structure Gvn (A b : List Int) (k : Nat) (c : Int) (D : List Int) : Prop where
  len : D.length = k
  dig : Dig 65536 D
  carry : 0 ≤ c ∧ c ≤ 1
  val : Bg.val 65536 D + 65536 ^ k * c = Bg.val 65536 (A.take k) + Bg.val 65536 (b.take k)
theorem Gvn.next {A b : List Int} {k : Nat} {c : Int} {D : List Int} (h : Gvn A b k c D) (hA : Dig 65536 A) (hb : Dig 65536 b) :
    Gvn A b (k + 1) ((c + (A.getD k 0 + b.getD k 0)) / 65536) (D ++ [(c + (A.getD k 0 + b.getD k 0)) % 65536]) := by
  have h1 := hA.getD (by decide) k
  have h2 := hb.getD (by decide) k
  have hc := h.carry
  refine ⟨by rw [List.length_append, h.len]; rfl, h.dig.app (Dig.one (mod_dig (by decide) _)), by omega, ?_⟩
  have e := carry_step 65536 D (c + (A.getD k 0 + b.getD k 0))
  rw [h.len] at e
  rw [e, val_take_any, val_take_any, Int.mul_add, Int.mul_add, ← h.len]
  have e2 := h.val
  rw [← h.len] at e2
  omega
set_option maxRecDepth 100000 in
set_option maxHeartbeats 4000000 in
theorem giveBack_at {w : World} {B g n cap a cp : Nat} {p : Option Addr} {c : Nat} {T b : List Int} (ho : Own 52 .u16 B w (.slice (some ⟨g, 0, none⟩) n cap) T) (h : Arg .u16 w p c b) (hp : ∀ b o, p = some ⟨b, o, none⟩ → some b ≠ some g)
    (hT : Dig 65536 T) (hb : Dig 65536 b) (ha : a + b.length + 1 ≤ T.length) (hn : T.length ≤ 10000000) :
    Calls Tryd.prog 71 #[.slice (some ⟨g, a, none⟩) (b.length + 1) cp, .slice p b.length c] w fun e w' => ∃ (D : List Int) (z : Int), e = .returned (.tuple #[]) ∧ Gvn (T.drop a) b (b.length + 1) z D ∧ Own 52 .u16 B w' (.slice (some ⟨g, 0, none⟩) n cap) (win T a D) ∧ w.grownBy w' (some g) := by
  have hle := h.le
  have hmx := h.max
  have H := Lib.hid (And.intro ho (And.intro h hp))
  have HD := Lib.hid (And.intro hT hb)
  clear h hp hT hb ho
  go_enter Tryd.func71, Tryd.ntmps71
  go_wp2_with fail
  go_loopw [4, 8] (fun t s wr => ∃ (k : Nat) (c' : Int) (D : List Int), s = .int .i64 k ∧ t = .int .u64 c' ∧ k ≤ b.length ∧ Hid (Gvn (T.drop a) b k c' D ∧ Own 52 .u16 B wr (.slice (some ⟨g, 0, none⟩) n cap) (win T a D) ∧ w.grownBy wr (some g))) (fun _ s _ => b.length - (intOf s).toNat)
  case atStart => exact ⟨0, 0, [], rfl, rfl, Nat.zero_le _, ⟨rfl, Dig.nil, by omega, by simp [val]⟩, by rw [win_nil]; exact H.out.1, grown_refl _ _⟩
  case round =>
    obtain ⟨k, c', D, rfl, rfl, hk, hS⟩ := hrel
    have hDk := hS.out.1.len
    have gk := hS.out.2.1.cell (a + k) (by rw [win_len (by omega)]; omega)
    have gf := hS.out.2.1.free (a + k)
    have e0 := win_get (T := T) (a := a) (D := D) (by omega) (j := k) (by omega)
    rw [e0] at gk
    have hdT : Dig 65536 (T.drop a) := HD.out.1.drop a
    have hnx := hS.out.1.next hdT HD.out.2
    rw [getD_drop] at hnx
    have dk := HD.out.1.getD (by decide) (a + k)
    have dbk := HD.out.2.getD (by decide) k
    have hc := hS.out.1.carry
    have hset := win_set (T := T) (a := a) (D := D) (by omega)
    rw [hDk] at hset
    obtain ⟨t, ht⟩ : ∃ t, t = T.getD (a + k) 0 := ⟨_, rfl⟩
    obtain ⟨y, hy⟩ : ∃ y, y = b.getD k 0 := ⟨_, rfl⟩
    rw [← ht] at gk hnx dk
    rw [← hy] at hnx dbk
    by_cases hlt : k < b.length
    · have ab := H.out.2.1.kept hS.out.2.2 H.out.2.2
      obtain ⟨bb, ob, rfl, -⟩ := H.out.2.1.at (by omega)
      have cb1 := ab.some_at k hlt
      rw [← hy] at cb1
      have d1 : decide ((k : Int) < (b.length : Int)) = true := by rw [decide_eq_true_eq]; omega
      have f1 : (k : Int) < (b.length : Int) := by omega
      have f2 : (k : Int) < ((b.length + 1 : Nat) : Int) := by omega
      have HX := Lib.hid (And.intro hnx (And.intro hset (And.intro dk (And.intro dbk hc))))
      clear hnx hset dk dbk ht hy hc ab e0 hdT
      go_wp2_with fail
      go_quiet (fail)
      rw [show IntKind.u64.wrap (c' + IntKind.u64.wrap (IntKind.u64.wrap t + IntKind.u64.wrap y)) = c' + (t + y) from by
        have := HX.out.2.2
        rw [wrapU, wrapU, wrapU, wrapU]
        unfold M64; omega]
      have gk5 := (drewN_cell wr nq _).trans gk
      have gf5 := (drewN_frozen wr nq _).trans gf
      have hS5 : Hid (Own 52 .u16 B (wr.drewN nq) (.slice (some ⟨g, 0, none⟩) n cap) (win T a D) ∧ w.grownBy (wr.drewN nq) (some g)) := ⟨hS.out.2.1.below (below_drewN (Below.refl _ _) _), grown_drewN hS.out.2.2 _⟩
      obtain ⟨w5, hw5⟩ : ∃ w5, w5 = wr.drewN nq := ⟨_, rfl⟩
      rw [← hw5] at gk5 gf5 hS5 ⊢
      clear hw5 gk gf cb1
      go_wp2_with fail
      rw [IntKind.wrap_u16]
      trace_state
      go_roundw
      case rel =>
        have hs := hS5.out.1.set (a + k) ((c' + (t + y)) % 65536)
        rw [HX.out.2.1] at hs
        exact ⟨k + 1, _, _, by go_num, rfl, hlt, HX.out.1, hs, grown_trans hS5.out.2 (grown_set _ _ _ _)⟩
      case measure => simp [intOf]; omega
    · have hz : k = b.length := by omega
      subst hz
      have d1 : decide ((b.length : Int) < (b.length : Int)) = false := by simp
      have f2 : (b.length : Int) < ((b.length + 1 : Nat) : Int) := by omega
      have hy0 : y = 0 := by
        rw [hy]
        simp [List.getD]
      subst hy0
      rw [Int.add_zero] at hnx
      have HX := Lib.hid (And.intro hnx (And.intro hset (And.intro dk hc)))
      clear hnx hset dk dbk ht hy hc e0 hdT
      go_wp2_with fail
      rw [show IntKind.u16.wrap (t + IntKind.u16.wrap c') = (c' + t) % 65536 from by have := HX.out.2.2; rw [IntKind.wrap_u16, IntKind.wrap_u16]; omega]
      go_returns
      have hs := hS.out.2.1.set (a + b.length) ((c' + t) % 65536)
      rw [HX.out.2.1] at hs
      exact ⟨D ++ [(c' + t) % 65536], (c' + t) / 65536, rfl, HX.out.1, hs, grown_trans hS.out.2.2 (grown_set _ _ _ _)⟩
end Go.Proofs.YtihgefllmkicaaaDoor
