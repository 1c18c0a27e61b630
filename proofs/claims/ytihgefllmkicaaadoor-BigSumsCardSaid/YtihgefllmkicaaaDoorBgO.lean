/- The walk of the division. Conditions: the digits lie as told. -/
import Derived.Test.YtihgefllmkicaaaDoorBgN
namespace Go.Proofs.YtihgefllmkicaaaDoor
open Go.RowKit Bg
set_option linter.unusedVariables false
set_option linter.unusedSimpArgs false


/-- What the guess leaves. -/
theorem after_take {X V g z : Int} {A b D : List Int} (hX : val 65536 (A.take (b.length + 1)) = X) (hV : val 65536 b = V) (hV0 : 0 < V) (hX0 : 0 ≤ X) (hg : X / V ≤ g ∧ g ≤ X / V + 1) (hV1 : V < 65536 ^ b.length) (h : Sub g A b (b.length + 1) z D) :
    (z < 0 → g = X / V + 1 ∧ ∀ z2 D2, Gvn D b (b.length + 1) z2 D2 → val 65536 D2 = X % V) ∧ (¬ z < 0 → g = X / V ∧ val 65536 D = X % V) := by
  have hv := h.val
  rw [hX, List.take_of_length_le (show b.length ≤ b.length + 1 by omega), hV] at hv
  have hd0 := val_nonneg (show (0 : Int) ≤ 65536 by decide) h.dig
  have hd1 := val_lt (show (0 : Int) < 65536 by decide) h.dig
  rw [h.len] at hd1
  have h1 := Int.emod_add_mul_ediv X V
  have h2 := Int.emod_nonneg X (show V ≠ 0 by omega)
  have h3 := Int.emod_lt_of_pos X hV0
  obtain ⟨q, hq⟩ : ∃ q, q = X / V := ⟨_, rfl⟩
  obtain ⟨r, hr⟩ : ∃ r, r = X % V := ⟨_, rfl⟩
  rw [← hq] at hg h1 ⊢
  rw [← hr] at h1 h2 h3 ⊢
  have hp : (65536 : Int) ^ (b.length + 1) = 65536 ^ b.length * 65536 := Int.pow_succ _ _
  have hpp := pow_pos' (show (0 : Int) < 65536 by decide) b.length
  obtain ⟨P, hP⟩ : ∃ P, P = (65536 : Int) ^ (b.length + 1) := ⟨_, rfl⟩
  rw [← hP] at hd1 hv hp
  have hVP : V < P := by omega
  have hP0 : 0 < P := by omega
  have hgV : g = q ∨ g = q + 1 := by omega
  have key : ∀ {x y : Int}, 0 ≤ x → x < P → 0 ≤ r → r < P → x + P * y = r → y = 0 := by
    intro x y a1 a2 a3 a4 a5
    rcases (show y ≤ -1 ∨ y = 0 ∨ 1 ≤ y by omega) with h | h | h
    · have := Int.mul_le_mul_of_nonneg_left h (Int.le_of_lt hP0); omega
    · exact h
    · have := Int.mul_le_mul_of_nonneg_left h (Int.le_of_lt hP0); omega
  have hqV : V * q = q * V := Int.mul_comm _ _
  constructor
  · intro hz
    have hneg : P * z ≤ P * (-1) := Int.mul_le_mul_of_nonneg_left (by omega) (Int.le_of_lt hP0)
    rcases hgV with h4 | h4
    · exfalso
      rw [h4] at hv
      omega
    · refine ⟨h4, fun z2 D2 h5 => ?_⟩
      have hv2 := h5.val
      rw [List.take_of_length_le (by rw [h.len]; omega), List.take_of_length_le (show b.length ≤ b.length + 1 by omega), hV, ← hP] at hv2
      have e0 := val_nonneg (show (0 : Int) ≤ 65536 by decide) h5.dig
      have e1 := val_lt (show (0 : Int) < 65536 by decide) h5.dig
      rw [h5.len, ← hP] at e1
      rw [h4, Int.add_mul, Int.one_mul] at hv
      have e2 : val 65536 D2 + P * (z2 + z) = r := by rw [Int.mul_add]; omega
      have := key e0 e1 h2 (by omega) e2
      rw [this, Int.mul_zero] at e2
      omega
  · intro hz
    have hpos : 0 ≤ P * z := Int.mul_nonneg (Int.le_of_lt hP0) (by omega)
    rcases hgV with h4 | h4
    · refine ⟨h4, ?_⟩
      rw [h4] at hv
      have e2 : val 65536 D + P * z = r := by omega
      have := key hd0 hd1 h2 (by omega) e2
      rw [this, Int.mul_zero] at e2
      omega
    · exfalso
      rw [h4, Int.add_mul, Int.one_mul] at hv
      omega
theorem win_win {T D E : List Int} {a : Nat} (h : a + D.length ≤ T.length) (hl : E.length = D.length) : win (win T a D) a E = win T a E := by
  unfold win
  have l1 : (T.take a).length = a := by rw [List.length_take]; omega
  have e1 : (T.take a ++ (D ++ T.drop (a + D.length))).take a = T.take a := by
    rw [List.take_append, l1, Nat.sub_self, List.take_zero, List.append_nil, List.take_take, Nat.min_self]
  have e2 : (T.take a ++ (D ++ T.drop (a + D.length))).drop (a + E.length) = T.drop (a + E.length) := by
    rw [List.drop_append, l1, List.drop_eq_nil_of_le (by omega), List.nil_append, show a + E.length - a = E.length by omega, List.drop_append, hl, Nat.sub_self, List.drop_length, List.nil_append, List.drop_zero]
  rw [e1, e2]
theorem win_drop {T D : List Int} {a : Nat} (h : a + D.length ≤ T.length) : ((win T a D).drop a).take D.length = D := by
  unfold win
  have l1 : (T.take a).length = a := by rw [List.length_take]; omega
  rw [List.drop_append, l1, Nat.sub_self, List.drop_eq_nil_of_le (by omega), List.nil_append, List.drop_zero, List.take_append, Nat.sub_self, List.take_zero, List.append_nil, List.take_length]
theorem Gvn.of_win {T D E b : List Int} {a : Nat} {z : Int} (h : a + D.length ≤ T.length) (hl : D.length = b.length + 1) (k : Gvn ((win T a D).drop a) b (b.length + 1) z E) : Gvn D b (b.length + 1) z E := by
  refine ⟨k.len, k.dig, k.carry, ?_⟩
  have hv := k.val
  rw [← hl, win_drop h] at hv
  rw [← hl]
  rw [hv, List.take_length]
set_option maxRecDepth 100000 in
set_option maxHeartbeats 8000000 in
theorem divide_at {w : World} {pa pb : Option Addr} {ca cb : Nat} {la b : List Int} (a1 : Arg .u16 w pa ca la) (a2 : Arg .u16 w pb cb b) (d1 : Dig 65536 la) (d2 : Dig 65536 b) (ta : Tidy la) (tb : Tidy b) (hb0 : b ≠ []) (l1 : la.length ≤ 1000000) :
    Calls Tryd.prog 59 #[.slice pa la.length ca, .slice pb b.length cb] w fun e w' => ∃ qv rv Q R, e = .returned (.tuple #[qv, rv]) ∧ Own 52 .u16 w.heap.size w' qv Q ∧ Own 52 .u16 w.heap.size w' rv R ∧ Dig 65536 Q ∧ Dig 65536 R ∧ Tidy Q ∧ Tidy R ∧ val 65536 Q = val 65536 la / val 65536 b ∧ val 65536 R = val 65536 la % val 65536 b ∧ Below w.heap.size w w' := by
  have le1 := a1.le
  have mx1 := a1.max
  have le2 := a2.le
  have mx2 := a2.max
  have hbl : 0 < b.length := List.length_pos_iff.2 hb0
  obtain ⟨v, w1, hr, ho, -, hB⟩ := app_row kt16 (Own.nil 52 .u16 w.heap.size w) a1 (by simp; omega) (Nat.le_refl _)
  rw [List.nil_append] at ho
  have HR := Lib.hid hr
  by_cases hlt : la.length < b.length
  · have dd : decide (la.length < b.length) = true := decide_eq_true hlt
    have H := Lib.hid (And.intro ho (And.intro hB (And.intro d1 (And.intro ta (And.intro d2 tb)))))
    clear hr ho hB d1 ta d2 tb a1 a2
    go_enter Tryd.func59, Tryd.ntmps59
    go_wp2_with (first
      | (at_builtin; refine Lib.wpList_append_run _ rfl _ _ 22 22 rfl (.slice none 0 0) (.slice pa la.length ca) rfl rfl v w1 HR.out ?_))
    go_ret2
    have h1 := val_shorter (show (1 : Int) ≤ 65536 by decide) H.out.2.2.1 H.out.2.2.2.2.1 H.out.2.2.2.2.2 hlt
    have h2 := val_nonneg (show (0 : Int) ≤ 65536 by decide) H.out.2.2.1
    exact ⟨_, v, [], la, rfl, Own.nil _ _ _ _, H.out.1, (fun d hd => by cases hd), H.out.2.2.1, (by intro e; cases e), H.out.2.2.2.1, (Int.ediv_eq_zero_of_lt h2 h1).symm, (Int.emod_eq_of_lt h2 h1).symm, H.out.2.1⟩
  have dd : decide (la.length < b.length) = false := decide_eq_false hlt
  have hba : b.length ≤ la.length := by omega
  obtain ⟨k, hk⟩ : ∃ k, k = la.length - b.length + 1 := ⟨_, rfl⟩
  obtain ⟨v2, w2, hr2, ho2, hB2⟩ := app_two kt16 (x := 0) ho (by omega) hB.size
  have hl2 : (la ++ [0]).length = la.length + 1 := by simp
  obtain ⟨g, cr, rfl, hg1, hg2, hg3, hg4⟩ := ho2.at (by omega)
  obtain ⟨w3, hr3, ho3, hB3⟩ := make_own kt16 w2 (B := w.heap.size) k (by omega) (by have := hB.size; have := hB2.size; omega)
  obtain ⟨G, hG⟩ : ∃ G, G = w2.heap.size := ⟨_, rfl⟩
  rw [← hG] at hr3 ho3 hB3
  rw [hl2] at ho2 hr2 hg3
  have hDv := Dv.start d1 d2 hba tb hb0
  rw [← hk] at hDv
  have oT := ho2.below (hG ▸ hB3)
  have B03 : Below w.heap.size w w3 := (hB.trans hB2).trans (hB3.mono (by have := hB.size; have := hB2.size; omega))
  have e1 : (la.length : Int) - b.length + 1 = k := by omega
  have HR2 := Lib.hid hr2
  have H := Lib.hid (And.intro a1 (And.intro a2 (And.intro d1 (And.intro d2 (And.intro ta tb)))))
  have HK := Lib.hid (And.intro hk (And.intro hG hB))
  have HI := Lib.hid (And.intro hDv (And.intro oT (And.intro ho3 B03)))
  have hgG : g < G := by rw [hG]; exact hg2
  have hGw : w.heap.size ≤ G := by rw [hG]; have := hB.size; have := hB2.size; omega
  clear hr hr2 a1 a2 d1 d2 ta tb hk hG hB hDv oT ho3 B03 ho ho2 hB2 hB3 hl2
  go_enter Tryd.func59, Tryd.ntmps59
  go_wp2_with (first
    | (at_builtin; refine Lib.wpList_append_run _ rfl _ _ 22 22 rfl (.slice none 0 0) (.slice pa la.length ca) rfl rfl v w1 HR.out ?_)
    | (at_builtin; refine Lib.wpList_append_run _ rfl _ _ 22 22 rfl v (.slice (some ⟨w1.heap.size, 0, none⟩) 1 1) rfl rfl (.slice (some ⟨g, 0, none⟩) (la.length + 1) cr) w2 HR2.out ?_))
  go_loopw [30] (fun s wr => ∃ (i : Nat) (T Q : List Int), s = .int .i64 i ∧ i ≤ k ∧ Hid (Dv la b (k - i) T Q ∧ Own 52 .u16 w.heap.size wr (.slice (some ⟨g, 0, none⟩) (la.length + 1) cr) T ∧ Own 52 .u16 w.heap.size wr (.slice (some ⟨G, 0, none⟩) k k) Q ∧ Below w.heap.size w wr)) (fun s _ => k - (intOf s).toNat)
  case atStart => exact ⟨0, la ++ [0], List.replicate k 0, rfl, Nat.zero_le _, HI.out.1, HI.out.2.1, HI.out.2.2.1, HI.out.2.2.2⟩
  case round =>
    obtain ⟨i, T, Q, rfl, hi, hS⟩ := hrel
    by_cases hik : i < k
    · obtain ⟨a, ha⟩ : ∃ a, k - i = a + 1 := ⟨k - i - 1, by omega⟩
      rw [ha] at hS
      have hkk := HK.out.1
      have hDv := hS.out.1
      have hlT := hDv.lt
      obtain ⟨bb, ob, rfl, -⟩ := H.out.2.1.at (by omega)
      have hbb : bb < w.heap.size := by
        obtain ⟨b', off', hp, hc⟩ := H.out.2.1.cell 0 (by omega)
        cases hp
        exact World.block_lt_of_cell? w _ hc
      have aT := hS.out.2.1.some_arg
      have ab := H.out.2.1.below hS.out.2.2.2
      have hgs := hDv.guess H.out.2.2.2.1 H.out.2.2.2.2.2 hb0 hba (by omega)
      have hwd := hDv.window H.out.2.2.2.1 hba (by omega)
      have c1 := leading_at aT hDv.dt (a := ((a + b.length : Nat) : Int)) (n := 3) (by omega) (by omega)
      have c2 := leading_at ab H.out.2.2.2.1 (a := (b.length : Int) - 1) (n := 2) (by omega) (by omega)
      have bu := ld_bound hDv.dt ((a + b.length : Nat) : Int) 3
      have bv := ld_bound H.out.2.2.2.1 ((b.length : Int) - 1) 2
      obtain ⟨u, hu⟩ : ∃ u, u = ld T ((a + b.length : Nat) : Int) 3 := ⟨_, rfl⟩
      obtain ⟨vv, hvv⟩ : ∃ vv, vv = ld b ((b.length : Int) - 1) 2 := ⟨_, rfl⟩
      rw [← hu] at c1 bu hgs
      rw [← hvv] at c2 bv hgs
      obtain ⟨gg, hgg⟩ : ∃ gg, gg = u / vv := ⟨_, rfl⟩
      rw [← hgg] at hgs
      have hX0 := hwd.2.2.1
      have hV0 : 0 < val 65536 b := by have := hwd.2.2.2; omega
      have hVl := val_lt (show (0 : Int) < 65536 by decide) H.out.2.2.2.1
      have hq0 : 0 ≤ val 65536 (wdw T b a) / val 65536 b := Int.ediv_nonneg hX0 (by omega)
      have hq1 : val 65536 (wdw T b a) / val 65536 b < 65536 := Int.ediv_lt_of_lt_mul hV0 hwd.2.2.2
      have t1 := takeTimes_at (c := cb) (cp := cr - a) hS.out.2.1 ab (a := a) (x := gg) (fun b' o' he => by cases he; intro e; cases e; omega) hDv.dt H.out.2.2.2.1 (by omega) (by omega) (by omega)
      have e2 : u.tdiv vv = gg := by rw [hgg]; exact Int.tdiv_eq_ediv_of_nonneg bu.1
      have e3 : IntKind.u64.wrap gg = gg := by rw [wrapU]; unfold M64; omega
      have e4 : ¬ vv = 0 := by omega
      rw [hlT, Int.natCast_add] at c1
      have C1 : Hid (Calls Tryd.prog 45 #[.slice (some ⟨g, 0, none⟩) (la.length + 1) cr, .int .i64 ((a : Int) + b.length), .int .i64 3] wr _) := Lib.hid c1
      have C2 : Hid (Calls Tryd.prog 45 #[.slice (some ⟨bb, ob, none⟩) b.length cb, .int .i64 ((b.length : Int) - 1), .int .i64 2] wr _) := Lib.hid c2
      have T1 := Lib.hid t1
      have HX := Lib.hid (And.intro hgs (And.intro hwd (And.intro hX0 (And.intro hV0 (And.intro hVl (And.intro hq0 hq1))))))
      have d1 : decide ((i : Int) < (k : Int)) = true := by rw [decide_eq_true_eq]; omega
      have f1 : (k : Int) - 1 - i = a := by omega
      have f2 : ((a : Int) + b.length + 1 - a).toNat = b.length + 1 := by omega
      have f3 : (a : Int) + b.length + 1 ≤ cr := by omega
      have f4 : ¬ cr = a := by omega
      have f5 : (a : Int) < k := by omega
      have f6 : (a : Int) ≤ (a : Int) + b.length + 1 := by omega
      have HB := Lib.hid (And.intro hgg (And.intro hu hvv))
      clear c1 c2 t1 hgs hwd hX0 hV0 hVl hq0 hq1 hu hvv hgg hDv aT ab bu bv hkk
      go_wp2_with fail
      refine C1.out.mono ?_
      rintro e w' ⟨rfl, rfl⟩
      go_wp2_with fail
      refine C2.out.mono ?_
      rintro e w' ⟨rfl, rfl⟩
      go_wp2_with fail
      rw [show a + b.length + 1 - a = b.length + 1 by omega]
      refine T1.out.mono ?_
      rintro e w5 ⟨D, z, rfl, hSub, oT5, G5⟩
      have hDl : D.length = b.length + 1 := hSub.len
      have ab5 := (H.out.2.1.below hS.out.2.2.2).kept G5 (fun b' o' he => by cases he; intro e; cases e; omega)
      have oQ5 := hS.out.2.2.1.grown G5 (by intro e; cases e; omega)
      have hB5 : Below w.heap.size w w5 := hS.out.2.2.2.grown G5 hS.out.2.2.2.size (fun q hq => by cases hq; exact hg1)
      have hA := after_take (X := val 65536 (wdw T b a)) (V := val 65536 b) rfl rfl HX.out.2.2.2.1 HX.out.2.2.1 HX.out.1.2 HX.out.2.2.2.2.1 hSub
      have gb := giveBack_at (c := cb) (cp := cr - a) oT5 ab5 (a := a) (fun b' o' he => by cases he; intro e; cases e; omega) (win_dig hS.out.1.dt hSub.dig) H.out.2.2.2.1 (by rw [win_len (by omega)]; omega) (by rw [win_len (by omega)]; omega)
      have HG := Lib.hid gb
      have H5 := Lib.hid (And.intro hA (And.intro oT5 (And.intro oQ5 (And.intro hB5 (And.intro hSub.dig hDl)))))
      clear gb hA oT5 oQ5 hB5 ab5 hSub hDl G5
      have hst : ∀ (q : Int) (E : List Int), 0 ≤ q ∧ q < 65536 → Dig 65536 E → E.length = b.length + 1 → val 65536 E = val 65536 (wdw T b a) % val 65536 b → q = val 65536 (wdw T b a) / val 65536 b → Dv la b a (win T a E) (Q.set a q) := by
        intro q E h1 h2 h3 h4 h5
        have h6 := Int.emod_add_mul_ediv (val 65536 (wdw T b a)) (val 65536 b)
        have h7 : val 65536 b * (val 65536 (wdw T b a) / val 65536 b) = val 65536 (wdw T b a) / val 65536 b * val 65536 b := Int.mul_comm _ _
        refine hS.out.1.step H.out.2.2.2.1 hba (by have := HK.out.1; omega) h1 h2 h3 (by rw [h5, h4]; omega) ?_
        rw [h4]
        exact Int.emod_lt_of_pos _ HX.out.2.2.2.1
      have HST := Lib.hid hst
      clear hst
      have hk1 : k - (i + 1) = a := by omega
      have HK1 := Lib.hid hk1
      clear hk1 ha
      by_cases hz : z < 0
      · have dz : decide (z < 0) = true := decide_eq_true hz
        have hA := (H5.out.1.1 hz)
        have HA := Lib.hid hA
        have bq := HX.out.2.2.2.2.2
        have e5 : IntKind.u64.wrap (gg - 1) = gg - 1 := by rw [wrapU, hA.1]; unfold M64; omega
        have e6 : IntKind.u16.wrap (gg - 1) = gg - 1 := by rw [IntKind.wrap_u16, hA.1]; omega
        have hgq : gg - 1 = val 65536 (wdw T b a) / val 65536 b := by omega
        have HGQ := Lib.hid (And.intro hgq bq)
        clear hA hgq bq
        go_wp2_with fail
        rw [show a + b.length + 1 - a = b.length + 1 by omega]
        refine HG.out.mono ?_
        rintro e w6 ⟨E, z2, rfl, hGv, oT6, G6⟩
        rw [win_win (by have := H5.out.2.2.2.2.2; omega) (by rw [hGv.len, H5.out.2.2.2.2.2])] at oT6
        have hE := HA.out.2 z2 E (hGv.of_win (by have := H5.out.2.2.2.2.2; omega) H5.out.2.2.2.2.2)
        have oQ6 := H5.out.2.2.1.grown G6 (by intro e; cases e; omega)
        have hB6 : Below w.heap.size w w6 := H5.out.2.2.2.1.grown G6 H5.out.2.2.2.1.size (fun q hq => by cases hq; exact hg1)
        have hnew := HST.out (gg - 1) E (by have := HGQ.out.2; rw [HGQ.out.1]; exact this) hGv.dig hGv.len hE HGQ.out.1
        have lQ : Q.length = k := by have := hS.out.1.lq; have := HK.out.1; omega
        have gc := oQ6.cell a (by omega)
        have gf := oQ6.free a
        have H6 := Lib.hid (And.intro hnew (And.intro oT6 (And.intro oQ6 hB6)))
        clear hnew oT6 oQ6 hB6 hE hGv G6
        go_wp2_with fail
        go_roundw
        case rel =>
          have hs := H6.out.2.2.1.set a (gg - 1)
          have ho := H6.out.2.1.other (a := ⟨G, a, none⟩) (.int .u16 (gg - 1)) (by intro e; cases e; omega)
          refine ⟨i + 1, _, _, by go_num, hik, ?_, ho, hs, H6.out.2.2.2.setCell (p := ⟨G, a, none⟩) hGw _⟩
          rw [HK1.out]
          exact H6.out.1
        case measure => simp [intOf]; omega
      · have dz : decide (z < 0) = false := decide_eq_false hz
        have hA := (H5.out.1.2 hz)
        have bq := HX.out.2.2.2.2.2
        have e6 : IntKind.u16.wrap gg = gg := by rw [IntKind.wrap_u16, hA.1]; omega
        have hnew := HST.out gg D (by rw [hA.1]; exact bq) H5.out.2.2.2.2.1 H5.out.2.2.2.2.2 hA.2 hA.1
        have lQ : Q.length = k := by have := hS.out.1.lq; have := HK.out.1; omega
        have gc := H5.out.2.2.1.cell a (by omega)
        have gf := H5.out.2.2.1.free a
        have HN := Lib.hid hnew
        clear hA bq hnew
        go_wp2_with fail
        go_roundw
        case rel =>
          have hs := H5.out.2.2.1.set a gg
          have ho := H5.out.2.1.other (a := ⟨G, a, none⟩) (.int .u16 gg) (by intro e; cases e; omega)
          refine ⟨i + 1, _, _, by go_num, hik, ?_, ho, hs, H5.out.2.2.2.1.setCell (p := ⟨G, a, none⟩) hGw _⟩
          rw [HK1.out]
          exact HN.out
        case measure => simp [intOf]; omega
    · have hz : i = k := by omega
      subst hz
      have d1 : decide ((i : Int) < (i : Int)) = false := by simp
      rw [Nat.sub_self] at hS
      have hd := hS.out.1.done H.out.2.2.2.1
      have aQ := hS.out.2.2.1.some_arg
      have aT := hS.out.2.1.some_arg
      have lQ : Q.length = i := by have := hS.out.1.lq; have := HK.out.1; omega
      have lT : T.length = la.length + 1 := hS.out.1.lt
      have tQ := trim_at aQ
      have tT := trim_at aT
      rw [lQ] at tQ
      rw [lT] at tT
      have TQ := Lib.hid tQ
      have TT := Lib.hid tT
      have HL := Lib.hid (And.intro hd (And.intro lQ lT))
      clear hd aQ aT lQ lT tQ tT
      go_wp2_with fail
      refine TQ.out.mono ?_
      rintro e w' ⟨rfl, rfl⟩
      go_wp2_with fail
      refine TT.out.mono ?_
      rintro e w' ⟨rfl, rfl⟩
      go_wp2_with fail
      go_ret2
      obtain ⟨hd, lQ, lT⟩ := HL.out
      have oQ := hS.out.2.2.1.take (trimN_le Q Q.length)
      have oT := hS.out.2.1.take (trimN_le T T.length)
      rw [lQ] at oQ
      rw [lT] at oT
      refine ⟨_, _, Q.take (trimN Q i), T.take (trimN T (la.length + 1)), rfl, oQ, oT, hS.out.1.dq.take _, hS.out.1.dt.take _, ?_, ?_, ?_, ?_, hS.out.2.2.2⟩
      · rw [← lQ]; exact trim_tidy Q.length (Nat.le_refl _)
      · rw [← lT]; exact trim_tidy T.length (Nat.le_refl _)
      · rw [trim_val, ← lQ, List.take_length]; exact hd.1
      · rw [trim_val, ← lT, List.take_length]; exact hd.2
end Go.Proofs.YtihgefllmkicaaaDoor
