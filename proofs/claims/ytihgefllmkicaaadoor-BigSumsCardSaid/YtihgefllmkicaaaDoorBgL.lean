/- Contracts: a product, and a sum, of digits. Conditions: the digits lie as told. -/
import Derived.Test.YtihgefllmkicaaaDoorBgK
namespace Go.Proofs.YtihgefllmkicaaaDoor
open Go.RowKit Bg
set_option linter.unusedVariables false
set_option linter.unusedSimpArgs false


theorem product_all : ∀ N, ProdOK N
  | 0 => fun w pa pb ca cb na nb la lb _ _ h => absurd h (Nat.not_lt_zero _)
  | N + 1 => fun w pa pb ca cb na nb la lb e1 e2 h a1 a2 d1 d2 l1 l2 => by
    subst e1
    subst e2
    exact product_step (product_all N) (by omega) a1 a2 d1 d2 l1 l2
theorem product_at {w : World} {pa pb : Option Addr} {ca cb : Nat} {la lb : List Int} (a1 : Arg .u64 w pa ca la) (a2 : Arg .u64 w pb cb lb) (d1 : Dig M64 la) (d2 : Dig M64 lb) (l1 : la.length ≤ 1000000) (l2 : lb.length ≤ 1000000) :
    Calls Tryd.prog 68 #[.slice pa la.length ca, .slice pb lb.length cb] w fun e w' => ∃ v L, e = .returned v ∧ Prod w w' v la lb L := product_step (product_all _) (Nat.le_refl _) a1 a2 d1 d2 l1 l2
theorem Bg.Dig.mono {B C : Int} {l : List Int} (h : Dig B l) (hC : B ≤ C) : Dig C l := fun d hd => ⟨(h d hd).1, by have := (h d hd).2; omega⟩
set_option maxRecDepth 100000 in
set_option maxHeartbeats 2000000 in
theorem times_at {w : World} {pa pb : Option Addr} {ca cb : Nat} {la lb : List Int} {R : Int} (a1 : Arg .u16 w pa ca la) (a2 : Arg .u16 w pb cb lb) (d1 : Dig 65536 la) (d2 : Dig 65536 lb) (l1 : la.length ≤ 1000000) (l2 : lb.length ≤ 1000000) (hR : 10000 ≤ R ∧ R ≤ 65536) :
    Calls Tryd.prog 53 #[.slice pa la.length ca, .slice pb lb.length cb, .int .u64 R] w fun e w' => ∃ v D, e = .returned v ∧ Own 52 .u16 w.heap.size w' v D ∧ Dig R D ∧ Tidy D ∧ val R D = val R la * val R lb ∧ Below w.heap.size w w' := by
  have H := Lib.hid (And.intro a1 (And.intro a2 (And.intro d1 d2)))
  have W1 := Lib.hid (widened_at a1 d1 (by omega))
  clear a1 a2 d1 d2
  go_enter Tryd.func53, Tryd.ntmps53
  go_wp2_with fail
  refine W1.out.mono ?_
  rintro e w1 ⟨v1, rfl, o1, B1⟩
  obtain ⟨p1, c1, rfl, x1, -⟩ := o1.arg
  have W2 := Lib.hid (widened_at (H.out.2.1.below B1) H.out.2.2.2 (by omega))
  have X1 := Lib.hid (And.intro x1 B1)
  clear o1 x1 B1
  go_wp2_with fail
  refine W2.out.mono ?_
  rintro e w2 ⟨v2, rfl, o2, B2⟩
  obtain ⟨p2, c2, rfl, x2, -⟩ := o2.arg
  have W3 := Lib.hid (product_at (X1.out.1.below B2) x2 (H.out.2.2.1.mono (by decide)) (H.out.2.2.2.mono (by decide)) l1 l2)
  have B12 := X1.out.2.trans (B2.mono X1.out.2.size)
  have X2 := Lib.hid B12
  clear o2 x2 B2 B12
  go_wp2_with fail
  refine W3.out.mono ?_
  rintro e w3 ⟨v3, L, rfl, P⟩
  obtain ⟨p3, c3, rfl, x3, -⟩ := P.own.arg
  have hex := cv_exact H.out.2.2.1 H.out.2.2.2 (by omega) P.dig P.eqm
  have hlen := P.few
  have W4 := Lib.hid (carried_at x3 P.dig (by omega) hR)
  have X3 := Lib.hid (And.intro (X2.out.trans (P.below.mono X2.out.size)) (val_cv (B := R) hex hlen))
  clear P x3 hex
  go_wp2_with fail
  refine W4.out.mono ?_
  rintro e w4 ⟨v4, D, rfl, o4, d4, t4, e4, B4⟩
  go_wp2_with fail
  go_ret
  exact ⟨_, D, rfl, o4.base X3.out.1.size, d4, t4, e4.trans X3.out.2, X3.out.1.trans (B4.mono X3.out.1.size)⟩
/-- Digits, added up place by place. -/
def addD (a b : List Int) (k : Nat) : List Int := (List.range a.length).map fun i => if i < k then cf a i + cf b i else cf a i
theorem addD_len (a b : List Int) (k : Nat) : (addD a b k).length = a.length := by unfold addD; simp
theorem addD_get {a b : List Int} {k i : Nat} (hi : i < a.length) : cf (addD a b k) i = if i < k then cf a i + cf b i else cf a i := by
  unfold addD
  rw [cf_map_range, if_pos hi]
theorem addD_zero (a b : List Int) : addD a b 0 = a := by
  apply ext_cf (addD_len _ _ _)
  intro k hk
  rw [addD_len] at hk
  rw [addD_get hk, if_neg (by omega)]
theorem addD_step {a b : List Int} {k : Nat} (hk : k < a.length) : (addD a b k).set k (cf (addD a b k) k + cf b k) = addD a b (k + 1) := by
  apply ext_cf
  · rw [List.length_set, addD_len, addD_len]
  intro i hi
  rw [List.length_set, addD_len] at hi
  rw [cf_set _ _ _ _ (by rw [addD_len]; exact hi), addD_get hi, addD_get hi, addD_get hk]
  by_cases h1 : i = k
  · subst h1; rw [if_pos rfl, if_neg (by omega), if_pos (by omega)]
  · rw [if_neg h1]
    by_cases h2 : i < k
    · rw [if_pos h2, if_pos (by omega)]
    · rw [if_neg h2, if_neg (by omega)]
theorem addD_dig {a b : List Int} (ha : Dig 65536 a) (hb : Dig 65536 b) (k : Nat) : Dig 131072 (addD a b k) := by
  intro d hd
  unfold addD at hd
  obtain ⟨i, -, rfl⟩ := List.mem_map.1 hd
  have h1 := ha.getD (by decide) i
  have h2 := hb.getD (by decide) i
  unfold cf
  split <;> omega
theorem addD_val {B : Int} {a b : List Int} (hl : b.length ≤ a.length) : val B (addD a b b.length) = val B a + val B b := by
  have h1 : pv B (cf (addD a b b.length)) a.length = pv B (fun i => cf a i + cf b i) a.length := pv_congr B _ (fun i hi => by
    rw [addD_get hi]
    split
    · rfl
    · rw [cf_beyond (a := b) (by omega)]; omega)
  rw [pv_add] at h1
  have h2 := pv_val B (addD a b b.length)
  rw [addD_len] at h2
  rw [← h2, h1, pv_val, pv_more B b.length a.length hl (fun k hk => cf_beyond hk), pv_val]
structure Two16 (w : World) (la lb : List Int) (R : Int) (pa pb : Option Addr) (ca cb : Nat) (a b : List Int) : Prop where
  a1 : Arg .u16 w pa ca a
  a2 : Arg .u16 w pb cb b
  d1 : Dig 65536 a
  d2 : Dig 65536 b
  val : Bg.val R a + Bg.val R b = Bg.val R la + Bg.val R lb
set_option maxRecDepth 100000 in
set_option maxHeartbeats 4000000 in
theorem plus_at {w : World} {pa pb : Option Addr} {ca cb : Nat} {la lb : List Int} {R : Int} (a1 : Arg .u16 w pa ca la) (a2 : Arg .u16 w pb cb lb) (d1 : Dig 65536 la) (d2 : Dig 65536 lb) (l1 : la.length ≤ 1000000) (l2 : lb.length ≤ 1000000) (hR : 10000 ≤ R ∧ R ≤ 65536) :
    Calls Tryd.prog 50 #[.slice pa la.length ca, .slice pb lb.length cb, .int .u64 R] w fun e w' => ∃ v D, e = .returned v ∧ Own 52 .u16 w.heap.size w' v D ∧ Dig R D ∧ Tidy D ∧ val R D = val R la + val R lb ∧ Below w.heap.size w w' := by
  have le1 := a1.le
  have mx1 := a1.max
  have le2 := a2.le
  have mx2 := a2.max
  have H := Lib.hid (And.intro a1 (And.intro a2 (And.intro d1 d2)))
  clear a1 a2 d1 d2
  go_enter Tryd.func50, Tryd.ntmps50
  go_upto_if 14 with fail
  go_cut [0, 1] (fun x y wx => ∃ (pa' pb' : Option Addr) (ca' cb' : Nat) (a b : List Int), x = .slice pa' a.length ca' ∧ y = .slice pb' b.length cb' ∧ Hid (Two16 w la lb R pa' pb' ca' cb' a b) ∧ b.length ≤ a.length ∧ a.length ≤ 1000000 ∧ w = wx)
  case first =>
    by_cases hlt : la.length < lb.length
    · have dd : decide (la.length < lb.length) = true := decide_eq_true hlt
      go_wp2_with fail
      go_meet
      case rel => exact ⟨pb, pa, cb, ca, lb, la, rfl, rfl, ⟨H.out.2.1, H.out.1, H.out.2.2.2, H.out.2.2.1, Int.add_comm _ _⟩, Nat.le_of_lt hlt, l2, rfl⟩
    · have dd : decide (la.length < lb.length) = false := decide_eq_false hlt
      go_wp2_with fail
      go_meet
      case rel => exact ⟨pa, pb, ca, cb, la, lb, rfl, rfl, ⟨H.out.1, H.out.2.1, H.out.2.2.1, H.out.2.2.2, rfl⟩, by omega, l1, rfl⟩
  case rest =>
    obtain ⟨pa', pb', ca', cb', a, b, rfl, rfl, hh, hab, hal, rfl⟩ := hcut
    clear H le1 mx1 le2 mx2
    have le1 := hh.out.a1.le
    have mx1 := hh.out.a1.max
    have le2 := hh.out.a2.le
    have mx2 := hh.out.a2.max
    have W1 := Lib.hid (widened_at hh.out.a1 hh.out.d1 (by omega))
    go_wp2_with fail
    refine W1.out.mono ?_
    rintro e w1 ⟨v1, rfl, o1, B1⟩
    obtain ⟨v, hv⟩ : ∃ v, v = v1 := ⟨_, rfl⟩
    rw [← hv] at o1 ⊢
    have O1 := Lib.hid (And.intro o1 B1)
    clear o1 B1 hv
    go_wp2_with fail
    go_loopw [21] (fun s wr => ∃ k : Nat, s = .int .i64 k ∧ k ≤ b.length ∧ Hid (Own 66 .u64 w.heap.size wr v (addD a b k) ∧ Below w.heap.size w wr)) (fun s _ => b.length - (intOf s).toNat)
    case atStart => exact ⟨0, rfl, Nat.zero_le _, by rw [addD_zero]; exact O1.out.1, O1.out.2⟩
    case round =>
      obtain ⟨k, rfl, hk, hX⟩ := hrel
      by_cases hlt : k < b.length
      · obtain ⟨bb, ob, rfl, -⟩ := hh.out.a2.at (by omega)
        have ab := hh.out.a2.below hX.out.2
        have ck := ab.some_at k hlt
        have dk := hh.out.d2.getD (by decide) k
        obtain ⟨g, c, rfl, g1, g2, g3, g4⟩ := hX.out.1.at (by rw [addD_len]; omega)
        rw [addD_len] at g3 ⊢
        have gk := hX.out.1.cell k (by rw [addD_len]; omega)
        have gf := hX.out.1.free k
        have dd := (addD_dig hh.out.d1 hh.out.d2 k).getD (by decide) k
        obtain ⟨x, hx⟩ : ∃ x, x = b.getD k 0 := ⟨_, rfl⟩
        obtain ⟨s, hs⟩ : ∃ s, s = (addD a b k).getD k 0 := ⟨_, rfl⟩
        rw [← hx] at ck dk
        rw [← hs] at gk dd
        have d2 : decide ((k : Int) < (b.length : Int)) = true := by rw [decide_eq_true_eq]; omega
        have f1 : (k : Int) < (b.length : Int) := by omega
        have f2 : (k : Int) < (a.length : Int) := by omega
        have e1 : IntKind.u64.wrap x = x := by rw [wrapU]; unfold M64; omega
        have e2 : IntKind.u64.wrap (s + x) = s + x := by rw [wrapU]; unfold M64; omega
        have HX := Lib.hid (And.intro hx (And.intro hs g1))
        clear hx hs ab dk dd g1
        go_wp2_with fail
        go_roundw
        case rel =>
          have hs := hX.out.1.set k (s + x)
          have he := addD_step (a := a) (b := b) (k := k) (by omega)
          unfold cf at he
          rw [← HX.out.2.1, ← HX.out.1] at he
          rw [he, addD_len] at hs
          refine ⟨k + 1, by go_num, hlt, hs, hX.out.2.setCell (p := ⟨g, k, none⟩) HX.out.2.2 _⟩
        case measure => simp [intOf]; omega
      · have hz : k = b.length := by omega
        subst hz
        have d2 : decide ((b.length : Int) < (b.length : Int)) = false := by simp
        obtain ⟨p3, c3, rfl, x3, -⟩ := hX.out.1.arg
        have hdd := addD_dig hh.out.d1 hh.out.d2 b.length
        have W4 := Lib.hid (carried_at x3 (hdd.mono (by decide)) (by rw [addD_len]; omega) hR)
        clear x3 hdd
        go_wp2_with fail
        refine W4.out.mono ?_
        rintro e w4 ⟨v4, D, rfl, o4, d4, t4, e4, B4⟩
        go_wp2_with fail
        go_ret
        exact ⟨_, D, rfl, o4.base hX.out.2.size, d4, t4, e4.trans ((addD_val hab).trans hh.out.val), hX.out.2.trans (B4.mono hX.out.2.size)⟩
end Go.Proofs.YtihgefllmkicaaaDoor
