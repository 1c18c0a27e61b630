/- Contracts: what is wrong with items, and which item defines each label. Conditions: the items lie as told; the forms' table is as laid. -/
import Derived.Test.YtbplmbignalbgaaDoorAsO
import Derived.Carry
namespace Go.Proofs.YtbplmbignalbgaaDoor
open Go.RowKit Asm
set_option linter.unusedVariables false
set_option linter.unusedSimpArgs false

theorem bad_stays {X : Nat → It} {k : Nat} (h0 : bad X k = 0) (h1 : citem (X k) ≠ 0) : ∀ m, k < m → bad X m = citem (X k)
  | 0, h => by omega
  | m + 1, h => by
    by_cases he : k = m
    · subst he
      show (if bad X k = 0 then citem (X k) else bad X k) = _
      rw [if_pos h0]
    · have ih := bad_stays h0 h1 m (by omega)
      show (if bad X m = 0 then citem (X m) else bad X m) = _
      rw [if_neg (by rw [ih]; exact h1), ih]
theorem bad_step {X : Nat → It} {k : Nat} (h0 : bad X k = 0) (h1 : citem (X k) = 0) : bad X (k + 1) = 0 := by
  show (if bad X k = 0 then citem (X k) else bad X k) = _
  rw [if_pos h0, h1]
theorem twice_stays {X : Nat → It} {k : Nat} (h : twice X k = true) : ∀ m, k ≤ m → twice X m = true
  | 0, hm => by obtain rfl : k = 0 := by omega
                exact h
  | m + 1, hm => by
    by_cases he : k = m + 1
    · rw [← he]; exact h
    · show (twice X m || _) = true
      rw [twice_stays h m (by omega), Bool.true_or]
theorem twice_step {X : Nat → It} {k : Nat} (h : twice X k = false) (h2 : (X k).kind = 2 → (st X (X k).lab k).isSome = false) : twice X (k + 1) = false := by
  show (twice X k || (decide ((X k).kind = 2) && _)) = false
  rw [h, Bool.false_or]
  by_cases hk : (X k).kind = 2
  · rw [h2 hk, Bool.and_false]
  · simp [hk]
theorem twice_hit {X : Nat → It} {k : Nat} (h1 : (X k).kind = 2) (h2 : (st X (X k).lab k).isSome = true) : twice X (k + 1) = true := by
  show (twice X k || (decide ((X k).kind = 2) && _)) = true
  simp [h1, h2]
theorem lost_stays {X : Nat → It} {n k : Nat} (h : lost X n k = true) : ∀ m, k ≤ m → lost X n m = true
  | 0, hm => by obtain rfl : k = 0 := by omega
                exact h
  | m + 1, hm => by
    by_cases he : k = m + 1
    · rw [← he]; exact h
    · show (lost X n m || _) = true
      rw [lost_stays h m (by omega), Bool.true_or]
theorem lost_step {X : Nat → It} {n k : Nat} (h : lost X n k = false) (h2 : (named (X k) && (st X (X k).lab n).isNone) = false) : lost X n (k + 1) = false := by
  show (lost X n k || _) = false
  rw [h, h2]; rfl
theorem lost_hit {X : Nat → It} {n k : Nat} (h2 : (named (X k) && (st X (X k).lab n).isNone) = true) : lost X n (k + 1) = true := by
  show (lost X n k || _) = true
  rw [h2, Bool.or_true]
theorem st_other {X : Nat → It} {s : ByteArray} {k : Nat} (h : ¬ ((X k).kind = 2 ∧ (X k).lab = s)) : st X s (k + 1) = st X s k := by
  show (match st X s k with | some j => some j | none => if _ then some k else none) = _
  rw [if_neg h]
  cases st X s k <;> rfl
theorem st_new {X : Nat → It} {k : Nat} (h : (X k).kind = 2) (h2 : st X (X k).lab k = none) : st X (X k).lab (k + 1) = some k := by
  show (match st X (X k).lab k with | some j => some j | none => if _ then some k else none) = _
  rw [h2]
  exact if_pos ⟨h, rfl⟩
theorem key_inj {a b : ByteArray} (h : key a = key b) : a = b := by
  unfold key at h
  simp only [Lit.string.injEq] at h
  cases a; cases b
  simpa using h
theorem MapAt.start (w : World) (X : Nat → It) : MapAt (w.alloc (.map #[] 0)) w.heap.size X 0 :=
  ⟨.map [], World.ownsMap_made _ _ _ _, fun s _ => ⟨rfl, rfl⟩⟩
theorem MapAt.other {w : World} {B : Nat} {X : Nat → It} {k : Nat} (h : MapAt w B X k) (hk : (X k).kind ≠ 2) : MapAt w B X (k + 1) := by
  obtain ⟨D, hD, hall⟩ := h
  refine ⟨D, hD.mono (Nat.le_succ _), fun s hs => ?_⟩
  rw [st_other (fun h => hk h.1)]
  exact hall s hs
theorem MapAt.new {w : World} {B : Nat} {X : Nat → It} {k : Nat} {D0 : DU} (hall : ∀ s : ByteArray, s.size ≤ maxLen → Maps.has D0 (key s) = (st X s k).isSome ∧ D0.atKey (key s) (.lit (.int .i64 0)) = .lit (.int .i64 ((st X s k).getD 0 : Nat))) (him : Maps.IsMap D0)
    (hD : w.ownsMap Tryd.prog 9 (plainElem Tryd.prog 3) B (k + 1) (D0.put (key (X k).lab) (.lit (.int .i64 k)))) (hk : (X k).kind = 2) (hn : st X (X k).lab k = none) : MapAt w B X (k + 1) := by
  refine ⟨_, hD, fun s hs => ?_⟩
  by_cases he : s = (X k).lab
  · subst he
    rw [Maps.has_put_same him (show WideAt.IsKeyLit (key (X k).lab) by unfold key; trivial), Maps.atKey_put_same him (show WideAt.IsKeyLit (key (X k).lab) by unfold key; trivial), st_new hk hn]
    exact ⟨rfl, rfl⟩
  · have hne : key s ≠ key (X k).lab := fun e => he (key_inj e)
    rw [Maps.has_put_other hne, Maps.atKey_put_other hne, st_other (fun h => he h.2.symm)]
    exact hall s hs
/-- What check returns. -/
def Checked (w0 : World) (X : Nat → It) (n : Nat) (base : Int) (e : Ending) (w' : World) : Prop :=
  (check X n base ≠ 0 ∧ e = .returned (.tuple #[.map none, .int .i64 (check X n base)])) ∨ (check X n base = 0 ∧ ∃ B, e = .returned (.tuple #[.map (some B), .int .i64 0]) ∧ w0.heap.size ≤ B ∧ MapAt w' B X n)
theorem ck_base {X : Nat → It} {n : Nat} {base : Int} (h : base < 0 ∨ 67108864 < base) : check X n base = 2 := by unfold check; rw [if_pos h]
theorem ck_bad {X : Nat → It} {n : Nat} {base : Int} (h : ¬ (base < 0 ∨ 67108864 < base)) (h2 : bad X n ≠ 0) : check X n base = bad X n := by unfold check; rw [if_neg h, if_pos h2]
theorem ck_twice {X : Nat → It} {n : Nat} {base : Int} (h : ¬ (base < 0 ∨ 67108864 < base)) (h2 : bad X n = 0) (h3 : twice X n = true) : check X n base = 14 := by unfold check; rw [if_neg h, if_neg (by simp [h2]), if_pos h3]
theorem ck_lost {X : Nat → It} {n : Nat} {base : Int} (h : ¬ (base < 0 ∨ 67108864 < base)) (h2 : bad X n = 0) (h3 : twice X n = false) (h4 : lost X n n = true) : check X n base = 12 := by unfold check; rw [if_neg h, if_neg (by simp [h2]), if_neg (by simp [h3]), if_pos h4]
theorem ck_good {X : Nat → It} {n : Nat} {base : Int} (h : ¬ (base < 0 ∨ 67108864 < base)) (h2 : bad X n = 0) (h3 : twice X n = false) (h4 : lost X n n = false) : check X n base = 0 := by unfold check; rw [if_neg h, if_neg (by simp [h2]), if_neg (by simp [h3]), if_neg (by simp [h4])]

set_option maxRecDepth 100000 in
set_option maxHeartbeats 4000000 in
theorem check_at {w : World} {p : Option Addr} {n c : Nat} {X : Nat → It} (h : Items w p n c X) (hE : Env w) (hn : n ≤ 480) (base : Int) :
    Calls Tryd.prog 32 #[.slice p n c, .int .i64 base] w fun e w' => Checked w X n base e w' ∧ Below w.heap.size w w' := by
  have hmm := @run_makeMap Tryd.prog
  have H := Lib.hid (And.intro h hE)
  clear h hE
  by_cases hr : base < 0 ∨ 67108864 < base
  · by_cases hb0 : base < 0
    · have d0 : decide (base < 0) = true := by simp [hb0]
      go_enter Tryd.func32, Tryd.ntmps32
      go_wp2_with fail
      go_ret2
      exact ⟨Or.inl ⟨by rw [ck_base hr]; decide, by rw [ck_base hr]; rfl⟩, Below.refl _ _⟩
    · have d0 : decide (base < 0) = false := by simp; omega
      have d1 : decide (67108864 < base) = true := by simp; omega
      go_enter Tryd.func32, Tryd.ntmps32
      go_wp2_with fail
      go_ret2
      exact ⟨Or.inl ⟨by rw [ck_base hr]; decide, by rw [ck_base hr]; rfl⟩, Below.refl _ _⟩
  · have d0 : decide (base < 0) = false := by simp; omega
    have d1 : decide (67108864 < base) = false := by simp; omega
    have HR := Lib.hid hr
    clear hr
    go_enter Tryd.func32, Tryd.ntmps32
    go_wp2_with fail
    clear d0 d1
    go_loopw [26] (fun i wr => ∃ k : Nat, i = .int .i64 k ∧ k ≤ n ∧ bad X k = 0 ∧ Below w.heap.size w wr) (fun i _ => n - (intOf i).toNat)
    case atStart => exact ⟨0, rfl, Nat.zero_le _, rfl, Below.refl _ _⟩
    case round =>
      obtain ⟨k, rfl, hk, hbad, hb⟩ := hrel
      by_cases hlt : k < n
      · have d1 : decide ((k : Int) < (n : Int)) = true := by simp; omega
        have ek : (k : Int) < (n : Int) := by omega
        obtain ⟨b, off, hp, k0, k1, k2, k3, k4, k5, k6, k7⟩ := (H.out.1.below hb).at hlt
        rw [hp]
        have HX := Lib.hid (And.intro hb (And.intro hbad hp))
        clear hb hbad hp
        have hal := (Below.refl wr.heap.size wr).alloc (Nat.le_refl _) (.cells #[.int .i64 (X k).kind, .int .i64 (X k).op, .int .i64 (X k).d, .int .i64 (X k).a, .int .i64 (X k).b, .int .i64 (X k).imm, .string (X k).lab, .int .u32 (X k).word] 40)
        have hN := cells8 (heap_new wr (.cells #[.int .i64 (X k).kind, .int .i64 (X k).op, .int .i64 (X k).d, .int .i64 (X k).a, .int .i64 (X k).b, .int .i64 (X k).imm, .string (X k).lab, .int .u32 (X k).word] 40))
        obtain ⟨w2, hw2⟩ : ∃ w2, w2 = wr.alloc (.cells #[.int .i64 (X k).kind, .int .i64 (X k).op, .int .i64 (X k).d, .int .i64 (X k).a, .int .i64 (X k).b, .int .i64 (X k).imm, .string (X k).lab, .int .u32 (X k).word] 40) := ⟨_, rfl⟩
        have HB := Lib.hid (show Below w.heap.size w w2 by rw [hw2]; exact HX.out.1.trans (hal.mono HX.out.1.size))
        go_upto_region 6 with fail
        rw [← hw2] at hN ⊢
        clear hal hw2 k0 k1 k2 k3 k4 k5 k6 k7
        obtain ⟨k0, k1, k2, k3, k4, k5, k6, k7⟩ := hN
        go_wp2_with fail
        refine (checkItem_any (X k) w2 (H.out.2.below HB.out)).mono ?_
        rintro e w3 ⟨rfl, hb3⟩
        have HB3 := Lib.hid (HB.out.trans (hb3.mono HB.out.size))
        obtain ⟨ci, hci⟩ : ∃ ci, ci = citem (X k) := ⟨_, rfl⟩
        rw [← hci]
        have HC := Lib.hid hci
        clear hci hb3 k0 k1 k2 k3 k4 k5 k6 k7
        by_cases hz : ci = 0
        · subst hz
          go_wp2_with fail
          go_roundw
          case rel => exact ⟨k + 1, by go_num, hlt, bad_step HX.out.2.1 HC.out.symm, HB3.out⟩
          case measure => simp [intOf]; omega
        · have dz : (ci != 0) = true := by simp [hz]
          have HZ := Lib.hid hz
          clear hz
          go_wp2_with fail
          go_ret2
          have hst := bad_stays HX.out.2.1 (by rw [← HC.out]; exact HZ.out) n hlt
          have hc0 : bad X n ≠ 0 := by rw [hst, ← HC.out]; exact HZ.out
          refine ⟨Or.inl ⟨by rw [ck_bad HR.out hc0]; exact hc0, ?_⟩, HB3.out⟩
          rw [ck_bad HR.out hc0, hst, ← HC.out]; rfl
      · have hz : k = n := by omega
        subst hz
        have d1 : decide ((k : Int) < (k : Int)) = false := by simp
        have HX := Lib.hid (And.intro hb hbad)
        clear hb hbad
        go_wp2_with fail
        have hms := MapAt.start wr X
        have hbm : Below w.heap.size w (wr.alloc (.map #[] 0)) := HX.out.1.trans ((Below.refl wr.heap.size wr).alloc (Nat.le_refl _) _ |>.mono HX.out.1.size)
        have hBs := HX.out.1.size
        obtain ⟨w1, hw1⟩ : ∃ w1, w1 = wr.alloc (.map #[] 0) := ⟨_, rfl⟩
        obtain ⟨B, hB⟩ : ∃ B, B = wr.heap.size := ⟨_, rfl⟩
        rw [← hw1, ← hB] at hms
        rw [← hw1] at hbm
        rw [← hB] at hBs
        rw [← hw1, ← hB]
        have HM := Lib.hid (And.intro hms (And.intro hbm hBs))
        clear hms hbm hBs hw1 hB hmm
        go_loopw [39] (fun i wr => ∃ q : Nat, i = .int .i64 q ∧ q ≤ k ∧ twice X q = false ∧ MapAt wr B X q ∧ Below w.heap.size w wr) (fun i _ => k - (intOf i).toNat)
        case atStart => exact ⟨0, rfl, Nat.zero_le _, rfl, HM.out.1, HM.out.2.1⟩
        case round =>
          obtain ⟨q, rfl, hq, htw, hmap, hb⟩ := hrel
          by_cases hlt : q < k
          · have d1 : decide ((q : Int) < (k : Int)) = true := by simp; omega
            have ek : (q : Int) < (k : Int) := by omega
            obtain ⟨b, off, hp, k0, k1, k2, k3, k4, k5, k6, k7⟩ := (H.out.1.below hb).at hlt
            rw [hp]
            have hal := (Below.refl wr.heap.size wr).alloc (Nat.le_refl _) (.cells #[.int .i64 (X q).kind, .int .i64 (X q).op, .int .i64 (X q).d, .int .i64 (X q).a, .int .i64 (X q).b, .int .i64 (X q).imm, .string (X q).lab, .int .u32 (X q).word] 40)
            have hN := cells8 (heap_new wr (.cells #[.int .i64 (X q).kind, .int .i64 (X q).op, .int .i64 (X q).d, .int .i64 (X q).a, .int .i64 (X q).b, .int .i64 (X q).imm, .string (X q).lab, .int .u32 (X q).word] 40))
            have hmap2 := hmap.below hal
            have hb2 : Below w.heap.size w (wr.alloc (.cells #[.int .i64 (X q).kind, .int .i64 (X q).op, .int .i64 (X q).d, .int .i64 (X q).a, .int .i64 (X q).b, .int .i64 (X q).imm, .string (X q).lab, .int .u32 (X q).word] 40)) := hb.trans (hal.mono hb.size)
            obtain ⟨w2, hw2⟩ : ∃ w2, w2 = wr.alloc (.cells #[.int .i64 (X q).kind, .int .i64 (X q).op, .int .i64 (X q).d, .int .i64 (X q).a, .int .i64 (X q).b, .int .i64 (X q).imm, .string (X q).lab, .int .u32 (X q).word] 40) := ⟨_, rfl⟩
            rw [← hw2] at hN hmap2 hb2
            have hlab := H.out.1.lab q hlt
            have HB := Lib.hid (And.intro hb2 (And.intro htw hmap2))
            have HP := Lib.hid hp
            clear hb htw hmap hp hal hb2 hmap2
            go_upto_region 14 with fail
            rw [← hw2]
            clear hw2 k0 k1 k2 k3 k4 k5 k6 k7
            obtain ⟨k0, k1, k2, k3, k4, k5, k6, k7⟩ := hN
            clear k1 k2 k3 k4 k5 k7
            by_cases hk2 : (X q).kind = 2
            · have d2 : ((X q).kind != 2) = false := by simp [hk2]
              obtain ⟨D, hD, hall⟩ := HB.out.2.2
              have hkey : keyOf Tryd.prog 9 (.string (X q).lab) = some (key (X q).lab) := WideMaps.keyOf_string_mk Tryd.underlying9 hlab
              have hh := (hall (X q).lab hlab).1
              have HA := Lib.hid (And.intro hall (And.intro hk2 (hD.isMap)))
              clear hall hk2
              cases hs : st X (X q).lab q with
              | none =>
                rw [hs] at hh
                have hh : Maps.has D (key (X q).lab) = false := hh
                have HS := Lib.hid hs
                clear hs
                go_wp2_with (first
                  | (at_lookup; refine wpList_lookup_own_ok_int _ rfl _ _ 69 rfl 9 3 .i64 lawS Tryd.underlying69 Tryd.underlying3 (zeroI _) B q D rfl hD _ _ rfl hkey ?_; intro cc hat hwc)
                  | (at_mapUpdate; refine wpList_mapUpdate_own _ rfl _ _ _ 69 rfl 9 3 lawS Tryd.underlying69 _ B q _ rfl hD ?c1 _ _ _ rfl rfl hkey _ [] (plainElem_int Tryd.underlying3 (WalkArith.wf_i64 ?c2)) ?_)
                  | fail)
                case c1 => unfold maxLen; omega
                case c2 => omega
                intro w3 hD3 hg3
                have hm3 := MapAt.new HA.out.1 HA.out.2.2 hD3 HA.out.2.1 HS.out
                have hb3 : Below w.heap.size w w3 := HB.out.1.grown hg3 HB.out.1.size (fun j hj => by cases hj; exact HM.out.2.2)
                have H3 := Lib.hid (And.intro hm3 hb3)
                clear hm3 hb3 hD3 hg3 hat hwc hD hh hkey
                go_wp2_with fail
                go_roundw
                case rel => exact ⟨q + 1, by go_num, hlt, twice_step HB.out.2.1 (fun _ => by rw [HS.out]; rfl), H3.out⟩
                case measure => simp [intOf]; omega
              | some j =>
                rw [hs] at hh
                have hh : Maps.has D (key (X q).lab) = true := hh
                have HS := Lib.hid hs
                clear hs
                go_wp2_with (first
                  | (at_lookup; refine wpList_lookup_own_ok_int _ rfl _ _ 69 rfl 9 3 .i64 lawS Tryd.underlying69 Tryd.underlying3 (zeroI _) B q D rfl hD _ _ rfl hkey ?_; intro cc hat hwc)
                  | fail)
                go_ret2
                have ht := twice_stays (twice_hit HA.out.2.1 (by rw [HS.out]; rfl)) k (show q + 1 ≤ k by omega)
                have hc := ck_twice (base := base) HR.out HX.out.2 ht
                exact ⟨Or.inl ⟨by rw [hc]; decide, by rw [hc]; rfl⟩, HB.out.1⟩
            · have d2 : ((X q).kind != 2) = true := by simp [hk2]
              have HK := Lib.hid hk2
              clear hk2
              go_wp2_with fail
              go_roundw
              case rel => exact ⟨q + 1, by go_num, hlt, twice_step HB.out.2.1 (fun h => absurd h HK.out), HB.out.2.2.other HK.out, HB.out.1⟩
              case measure => simp [intOf]; omega
          · have hz : q = k := by omega
            subst hz
            have d1 : decide ((q : Int) < (q : Int)) = false := by simp
            have HY := Lib.hid (And.intro htw (And.intro hmap hb))
            clear htw hmap hb
            go_wp2_with fail
            go_loopw [62] (fun i wr => ∃ r : Nat, i = .int .i64 r ∧ r ≤ q ∧ lost X q r = false ∧ MapAt wr B X q ∧ Below w.heap.size w wr) (fun i _ => q - (intOf i).toNat)
            case atStart => exact ⟨0, rfl, Nat.zero_le _, rfl, HY.out.2.1, HY.out.2.2⟩
            case round =>
              obtain ⟨r, rfl, hrq, hlo, hmap, hb⟩ := hrel
              by_cases hlt : r < q
              · have d1 : decide ((r : Int) < (q : Int)) = true := by simp; omega
                have ek : (r : Int) < (q : Int) := by omega
                obtain ⟨b, off, hp, k0, k1, k2, k3, k4, k5, k6, k7⟩ := (H.out.1.below hb).at hlt
                rw [hp]
                have hal := (Below.refl wr.heap.size wr).alloc (Nat.le_refl _) (.cells #[.int .i64 (X r).kind, .int .i64 (X r).op, .int .i64 (X r).d, .int .i64 (X r).a, .int .i64 (X r).b, .int .i64 (X r).imm, .string (X r).lab, .int .u32 (X r).word] 40)
                have hN := cells8 (heap_new wr (.cells #[.int .i64 (X r).kind, .int .i64 (X r).op, .int .i64 (X r).d, .int .i64 (X r).a, .int .i64 (X r).b, .int .i64 (X r).imm, .string (X r).lab, .int .u32 (X r).word] 40))
                have hmap2 := hmap.below hal
                have hb2 : Below w.heap.size w (wr.alloc (.cells #[.int .i64 (X r).kind, .int .i64 (X r).op, .int .i64 (X r).d, .int .i64 (X r).a, .int .i64 (X r).b, .int .i64 (X r).imm, .string (X r).lab, .int .u32 (X r).word] 40)) := hb.trans (hal.mono hb.size)
                obtain ⟨w2, hw2⟩ : ∃ w2, w2 = wr.alloc (.cells #[.int .i64 (X r).kind, .int .i64 (X r).op, .int .i64 (X r).d, .int .i64 (X r).a, .int .i64 (X r).b, .int .i64 (X r).imm, .string (X r).lab, .int .u32 (X r).word] 40) := ⟨_, rfl⟩
                rw [← hw2] at hN hmap2 hb2
                have hlab := H.out.1.lab r hlt
                have HB := Lib.hid (And.intro hb2 (And.intro hlo hmap2))
                have HP := Lib.hid hp
                clear hb hlo hmap hp hal hb2 hmap2
                go_upto_region 23 with fail
                rw [← hw2]
                clear hw2 k0 k1 k2 k3 k4 k5 k6 k7
                obtain ⟨k0, k1, k2, k3, k4, k5, k6, k7⟩ := hN
                clear k1 k2 k3 k4 k5 k7
                obtain ⟨D, hD, hall⟩ := HB.out.2.2
                have hkey : keyOf Tryd.prog 9 (.string (X r).lab) = some (key (X r).lab) := WideMaps.keyOf_string_mk Tryd.underlying9 hlab
                have hh := (hall (X r).lab hlab).1
                clear hall
                obtain ⟨bs, hbs⟩ : ∃ bs, bs = (st X (X r).lab q).isSome := ⟨_, rfl⟩
                obtain ⟨bn, hbn⟩ : ∃ bn, bn = decide ((X r).kind = 3 ∨ (X r).kind = 4 ∨ (X r).kind = 5 ∨ (X r).kind = 7) := ⟨_, rfl⟩
                rw [← hbs] at hh
                have HS := Lib.hid (And.intro hbs hbn)
                clear hbs hbn
                cases bn
                · go_wp2_with (first
                    | (at_lookup; refine wpList_lookup_own_ok_int _ rfl _ _ 69 rfl 9 3 .i64 lawS Tryd.underlying69 Tryd.underlying3 (zeroI _) B q D rfl hD _ _ rfl hkey ?_; intro cc hat hwc)
                    | (go_at_call 44; refine (refers_any _ _).mono ?_; rintro e w' ⟨rfl, rfl⟩; rw [← HS.out.2])
                    | fail)
                  go_roundw
                  case rel =>
                    refine ⟨r + 1, by go_num, hlt, lost_step HB.out.2.1 ?_, HB.out.2.2, HB.out.1⟩
                    have : named (X r) = false := HS.out.2.symm
                    rw [this]; rfl
                  case measure => simp [intOf]; omega
                · cases bs
                  · go_wp2_with (first
                      | (at_lookup; refine wpList_lookup_own_ok_int _ rfl _ _ 69 rfl 9 3 .i64 lawS Tryd.underlying69 Tryd.underlying3 (zeroI _) B q D rfl hD _ _ rfl hkey ?_; intro cc hat hwc)
                      | (go_at_call 44; refine (refers_any _ _).mono ?_; rintro e w' ⟨rfl, rfl⟩; rw [← HS.out.2])
                      | fail)
                    go_ret2
                    have hnm : named (X r) = true := HS.out.2.symm
                    have hst : (st X (X r).lab q).isNone = true := by
                      have := HS.out.1
                      cases hx : st X (X r).lab q with
                      | none => rfl
                      | some j => rw [hx] at this; cases this
                    have ht := lost_stays (lost_hit (X := X) (n := q) (k := r) (by rw [hnm, hst]; rfl)) q (show r + 1 ≤ q by omega)
                    have hc := ck_lost (base := base) HR.out HX.out.2 HY.out.1 ht
                    exact ⟨Or.inl ⟨by rw [hc]; decide, by rw [hc]; rfl⟩, HB.out.1⟩
                  · go_wp2_with (first
                      | (at_lookup; refine wpList_lookup_own_ok_int _ rfl _ _ 69 rfl 9 3 .i64 lawS Tryd.underlying69 Tryd.underlying3 (zeroI _) B q D rfl hD _ _ rfl hkey ?_; intro cc hat hwc)
                      | (go_at_call 44; refine (refers_any _ _).mono ?_; rintro e w' ⟨rfl, rfl⟩; rw [← HS.out.2])
                      | fail)
                    go_roundw
                    case rel =>
                      refine ⟨r + 1, by go_num, hlt, lost_step HB.out.2.1 ?_, HB.out.2.2, HB.out.1⟩
                      have hst : (st X (X r).lab q).isNone = false := by
                        have := HS.out.1
                        cases hx : st X (X r).lab q with
                        | none => rw [hx] at this; cases this
                        | some j => rfl
                      rw [hst, Bool.and_false]
                    case measure => simp [intOf]; omega
              · have hz : r = q := by omega
                subst hz
                have d1 : decide ((r : Int) < (r : Int)) = false := by simp
                have HZ := Lib.hid (And.intro hlo (And.intro hmap hb))
                clear hlo hmap hb
                go_wp2_with fail
                go_ret2
                exact ⟨Or.inr ⟨ck_good HR.out HX.out.2 HY.out.1 HZ.out.1, B, rfl, HM.out.2.2, HZ.out.2.1⟩, HZ.out.2.2⟩
end Go.Proofs.YtbplmbignalbgaaDoor
