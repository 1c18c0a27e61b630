/- The walk of made: a setting becomes a machine and the document's. Conditions: the setting reads as told. -/
import Derived.Test.YtknnmacmohpanaaDoorMaV
namespace Go.Proofs.YtknnmacmohpanaaDoor
open Go.RowKit
set_option linter.unusedVariables false
set_option linter.unusedSimpArgs false

/-- A slice of numbers that reads as told. -/
structure Arg (k : IntKind) (w : World) (p : Option Addr) (c : Nat) (xs : List Int) : Prop where
  nil : p = none → xs = [] ∧ c = 0
  le : xs.length ≤ c
  max : c ≤ 9223372036854775807
  cell : ∀ j u, (xs.map (Value.int k))[j]? = some u → ∃ ad, p = some ad ∧ w.cell? (ad.add j) = some u
theorem Arg.below {k : IntKind} {w w' : World} {p : Option Addr} {c : Nat} {xs : List Int} (h : Arg k w p c xs) (hb : Below w.heap.size w w') : Arg k w' p c xs :=
  ⟨h.nil, h.le, h.max, fun j u hj => by
    obtain ⟨ad, hp, hc⟩ := h.cell j u hj
    exact ⟨ad, hp, (hb.cell (World.block_lt_of_cell? w _ hc)).trans hc⟩⟩
theorem Arg.take {k : IntKind} {w : World} {p : Option Addr} {c : Nat} {xs : List Int} (h : Arg k w p c xs) (n : Nat) : Arg k w p c (xs.take n) :=
  ⟨fun hp => ⟨by rw [(h.nil hp).1]; exact List.take_nil, (h.nil hp).2⟩, by have := h.le; rw [List.length_take]; omega, h.max, fun j u hj => h.cell j u (by
    rw [List.map_take, List.getElem?_take] at hj
    split at hj
    · exact hj
    · cases hj)⟩
theorem Arg.wread {w : World} {p : Option Addr} {c : Nat} {xs : List Int} (h : Arg .u32 w p c xs) : WRead w (.slice p xs.length c) xs := by
  by_cases hx : xs = []
  · subst hx; exact Or.inl ⟨rfl, p, c, rfl⟩
  · cases hp : p with
    | none => exact absurd (h.nil hp).1 hx
    | some ad => exact Or.inr ⟨hx, ad, c, rfl, h.le, h.max, fun j u hj => by
        obtain ⟨ad', hp', hc⟩ := h.cell j u hj
        rw [hp] at hp'
        cases hp'
        exact hc⟩
theorem Arg.bread {w : World} {p : Option Addr} {c : Nat} {xs : List Int} (h : Arg .u8 w p c xs) : BRead w (.slice p xs.length c) xs := by
  cases hp : p with
  | none => obtain ⟨rfl, rfl⟩ := h.nil hp; exact Or.inl ⟨rfl, rfl⟩
  | some ad => exact Or.inr ⟨ad, c, rfl, fun j u hj => by
        obtain ⟨ad', hp', hc⟩ := h.cell j u hj
        rw [hp] at hp'
        cases hp'
        exact hc⟩
theorem Arg.plain {w : World} {p : Option Addr} {c : Nat} {xs : List Int} (h : Arg .u32 w p c xs) (hx : xs ≠ []) : ∃ b off, p = some ⟨b, off, none⟩ ∧ ∀ j, j < xs.length → w.cell? ⟨b, off + j, none⟩ = some (.int .u32 (xs.getD j 0)) := by
  obtain ⟨p', c', he, hh⟩ := h.wread.plain
  obtain ⟨b, off, hp, -, -, hc⟩ := hh hx
  simp only [Value.slice.injEq] at he
  exact ⟨b, off, he.1.trans hp, hc⟩

def stSize (size : Int) : Int := if 300 < size ∧ size ≤ 335544320 then 300 else size
def stGood (ws : List Int) (size : Int) : Prop := 1 ≤ stSize size ∧ stSize size ≤ 300 ∧ ((ws.take 200).length : Int) ≤ stSize size
def regsOf (k : Nat) (rs : List Int) (j : Nat) : Int := if 1 ≤ j ∧ j < k then rs.getD j 0 else 0
def mkM (ws : List Int) (n : Nat) (is rs : List Int) (k : Nat) : MS := ⟨regsOf k rs, n, fun i => ws.getD i 0, 0, 0, 0, 0, 0, is, []⟩
/-- The machine of a setting. -/
def stM (ws : List Int) (size : Int) (is rs : List Int) : MS := mkM (ws.take 200) (stSize size).toNat (is.take 50) rs (min rs.length 32)
theorem mkM_zero (ws : List Int) (n : Nat) (is rs : List Int) : mkM ws n is rs 0 = MS.new ws n is := by
  have : regsOf 0 rs = fun _ => 0 := by funext j; unfold regsOf; rw [if_neg (by omega)]
  exact congrArg (fun r => (⟨r, n, fun i => ws.getD i 0, 0, 0, 0, 0, 0, is, []⟩ : MS)) this
theorem mkM_succ (ws : List Int) (n : Nat) (is rs : List Int) (k : Nat) : (mkM ws n is rs k).setR k (rs.getD k 0) = mkM ws n is rs (k + 1) := by
  have : (if k = 0 then regsOf k rs else updF (regsOf k rs) k (rs.getD k 0)) = regsOf (k + 1) rs := by
    funext j
    by_cases hk : k = 0
    · rw [if_pos hk]
      unfold regsOf
      rw [if_neg (by omega), if_neg (by omega)]
    · rw [if_neg hk]
      unfold updF regsOf
      by_cases hj : j = k
      · rw [if_pos hj, if_pos (by omega), hj]
      · rw [if_neg hj]
        by_cases h : 1 ≤ j ∧ j < k
        · rw [if_pos h, if_pos (by omega)]
        · rw [if_neg h, if_neg (by omega)]
  exact congrArg (fun r => (⟨r, n, fun i => ws.getD i 0, 0, 0, 0, 0, 0, is, []⟩ : MS)) this
theorem QRep.base {b b' : Nat} {w : World} {l : QL} {m : MS} (h : QRep b w l m) (hb : b' ≤ b) : QRep b' w l m :=
  ⟨h.ok, h.mac, h.mem, h.inp, own_base h.out hb, h.ne, fun k hk => Nat.le_trans hb (h.lb k hk)⟩
theorem qcell_reg (l : QL) (m : MS) (i : Nat) (x : Int) (hi : i < 32) (h0 : i ≠ 0) : ∀ j, j < 40 → updF (qcell l m) i (.int .u32 x) j = qcell l (m.setR i x) j := by
  intro j hj
  unfold MS.setR
  rw [if_neg h0]
  by_cases h : j = i
  · subst h
    rw [updF_same]
    unfold qcell
    rw [if_pos hi]
    show _ = Value.int .u32 (updF m.regs j x j)
    rw [updF_same]
  · rw [updF_other _ _ h]
    unfold qcell
    (repeat' split) <;> first | rfl | omega | (show Value.int .u32 (m.regs j) = .int .u32 (updF m.regs i x j); rw [updF_other _ _ h])
/-- One cell of the document's machine's own block is written. -/
theorem QRep.upd {base : Nat} {w w' : World} {l : QL} {m m' : MS} (h : QRep base w l m) (hc : Chg (fun k => k = l.Q) w w') (hmac : w'.heap[l.Q]? = some (.cells (cellsF 40 (qcell l m')) 43 (0, 0))) (ok : MOk m') (hsz : m'.size = m.size) (hmem : m'.mem = m.mem) (hinp : m'.inp = m.inp) (hout : m'.out = m.out) : QRep base w' l m' where
  ok := ok
  mac := hmac
  mem := by
    have := hc.same h.mem (fun e => ne_kind h.mem h.mac (by decide) e)
    rw [this, hsz]
    congr 3
    funext i
    unfold qmem
    rw [hmem]
  inp := by
    rw [hinp]
    exact h.inp.kept fun k hk => by
      obtain ⟨cs, hk'⟩ := h.inp.block hk
      exact hc.block k (lt_of_block hk') (fun e => ne_kind hk' h.mac (by decide) e)
  out := by
    rw [hout]
    exact own_kept h.out fun k hk => by
      obtain ⟨cs, hk'⟩ := own_block h.out hk
      exact hc.block k (lt_of_block hk') (fun e => ne_kind hk' h.mac (by decide) e)
  ne := h.ne
  lb := h.lb
theorem QRep.setR {base : Nat} {w : World} {l : QL} {m : MS} (h : QRep base w l m) (i : Nat) (x : Int) (hi : i < 32) (h0 : i ≠ 0) (hx : 0 ≤ x ∧ x < 4294967296) :
    QRep base (w.setCell ⟨l.Q, i, none⟩ (.int .u32 x)) l (m.setR i x) ∧ Chg (fun k => k = l.Q) w (w.setCell ⟨l.Q, i, none⟩ (.int .u32 x)) := by
  have hc : Chg (fun k => k = l.Q) w (w.setCell ⟨l.Q, i, none⟩ (.int .u32 x)) := (Chg.refl _ _).setCell _ _ (Or.inl rfl)
  exact ⟨h.upd hc (set_blockF h.mac (by omega) (qcell_reg l m i x hi h0)) (h.ok.setR i x hx) rfl rfl rfl rfl, hc⟩
theorem stBad {ws : List Int} {size : Int} (h : ¬ stGood ws size) : stSize size < 1 ∨ 335544320 < stSize size ∨ stSize size < ((ws.take 200).length : Int) := by
  unfold stGood at h
  by_cases h1 : 1 ≤ stSize size
  · by_cases h2 : stSize size ≤ 300
    · have : ¬ (((ws.take 200).length : Int) ≤ stSize size) := fun h3 => h ⟨h1, h2, h3⟩
      omega
    · right; left
      unfold stSize at h2 ⊢
      split at h2
      · omega
      · rename_i h3; rw [if_neg h3]; omega
  · left; omega

/-- A machine and the document's, side by side, in a call that began at W. -/
structure Mad (W : World) (l : Lay) (q : QL) (m : MS) (w : World) : Prop where
  below : Below W.heap.size W w
  rep : MRep W.heap.size w l m
  qrep : QRep W.heap.size w q m
  ap : ∀ k, l.fp k → ¬ q.fp k
/-- What made answers. -/
def Made (W : World) (ws : List Int) (size : Int) (is rs : List Int) (e : Ending) (w : World) : Prop :=
  (¬ stGood ws size ∧ e = .returned (.tuple #[.pointer none, .pointer none, .bool false, .bool true]) ∧ Below W.heap.size W w) ∨
  (stGood ws size ∧ ∃ l q, e = .returned (.tuple #[.pointer (some ⟨l.M, 0, none⟩), .pointer (some ⟨q.Q, 0, none⟩), .bool true, .bool true]) ∧ Mad W l q (stM ws size is rs) w)
theorem Mad.base {W W' w : World} {l : Lay} {q : QL} {m : MS} (h : Mad W' l q m w) (hb : Below W.heap.size W W') : Mad W l q m w :=
  ⟨hb.trans (h.below.mono hb.size), h.rep.base hb.size, h.qrep.base hb.size, h.ap⟩
theorem Mad.new {W w2 w3 : World} {l : Lay} {q : QL} {m : MS} (h2 : MRep W.heap.size w2 l m) (b2 : Below W.heap.size W w2) (h3 : QRep w2.heap.size w3 q m) (b3 : Below w2.heap.size w2 w3) : Mad W l q m w3 :=
  ⟨b2.trans (b3.mono b2.size), h2.below b3, h3.base b2.size, fun k hk hk2 => by have := h2.lt hk; have := h3.lb k hk2; omega⟩
theorem Mad.set {W w w2 : World} {l : Lay} {q : QL} {m m' : MS} (h : Mad W l q m w) (s : Stp W.heap.size w w2 l l m') : Below W.heap.size W w2 ∧ QRep W.heap.size w2 q m :=
  ⟨h.below.trans (s.chg.below h.below.size (fun i hi => h.rep.lb i hi)), h.qrep.chg s.chg (fun k hk hk2 => h.ap k hk2 hk)⟩
theorem Mad.done {W w w2 w3 : World} {l : Lay} {q : QL} {m m' : MS} (h : Mad W l q m w) (s : Stp W.heap.size w w2 l l m') (hq : QRep W.heap.size w3 q m') (hc : Chg (fun k => k = q.Q) w2 w3) : Mad W l q m' w3 :=
  have hs := h.set s
  ⟨hs.1.trans (hc.below hs.1.size (fun i hi => by subst hi; exact hs.2.lb _ (Or.inl rfl))), s.rep.chg hc (fun k hk hk2 => h.ap k hk (Or.inl hk2)), hq, h.ap⟩
theorem sl_meet {p : Option Addr} {a b c : Nat} (h : b = a) : Value.slice p a c = .slice p b c := by rw [h]

set_option maxRecDepth 100000 in
set_option maxHeartbeats 2000000 in
theorem setting_at (pw pi pr : Option Addr) (cw ci cr : Nat) (size : Int) (ws is rs : List Int) (w : World) (hE : Env w) (hw : Arg .u32 w pw cw ws) (hi : Arg .u8 w pi ci is) (hr : Arg .u32 w pr cr rs) (hwr : ∀ x ∈ ws, 0 ≤ x ∧ x < 4294967296) (hir : ∀ x ∈ is, 0 ≤ x ∧ x < 256) (hrr : ∀ x ∈ rs, 0 ≤ x ∧ x < 4294967296) :
    Calls Tryd.prog 8 #[.agg #[.slice pw ws.length cw, .int .i64 size, .slice pi is.length ci, .slice pr rs.length cr]] w (Made w ws size is rs) := by
  have HW := Lib.hid hw
  have HI := Lib.hid hi
  have HR := Lib.hid (And.intro hr (And.intro hwr (And.intro hir hrr)))
  clear hw hi hr hwr hir hrr
  obtain ⟨ws2, hws2⟩ : ∃ x, x = ws.take 200 := ⟨_, rfl⟩
  obtain ⟨is2, his2⟩ : ∃ x, x = is.take 50 := ⟨_, rfl⟩
  obtain ⟨N, hN⟩ : ∃ x, x = stSize size := ⟨_, rfl⟩
  have HN := Lib.hid (And.intro hws2 (And.intro his2 hN))
  clear hws2 his2 hN
  go_enter Tryd.func8, Tryd.ntmps8
  go_upto_region 1 with fail
  obtain ⟨w1, hw1⟩ : ∃ w1, w1 = w.alloc (.cells #[.slice pw ws.length cw, .int .i64 size, .slice pi is.length ci, .slice pr rs.length cr] 25) := ⟨_, rfl⟩
  have bX := heap_new w (.cells #[.slice pw ws.length cw, .int .i64 size, .slice pi is.length ci, .slice pr rs.length cr] 25)
  rw [← hw1] at bX ⊢
  have x0 : w1.cell? ⟨w.heap.size, 0, none⟩ = some (.slice pw ws.length cw) := by rw [cell_of_block bX]; rfl
  have x1 : w1.cell? ⟨w.heap.size, 1, none⟩ = some (.int .i64 size) := by rw [cell_of_block bX]; rfl
  have x2 : w1.cell? ⟨w.heap.size, 2, none⟩ = some (.slice pi is.length ci) := by rw [cell_of_block bX]; rfl
  have x3 : w1.cell? ⟨w.heap.size, 3, none⟩ = some (.slice pr rs.length cr) := by rw [cell_of_block bX]; rfl
  obtain ⟨X, hX⟩ : ∃ X, X = w.heap.size := ⟨_, rfl⟩
  rw [← hX] at x0 x1 x2 x3 ⊢
  have H1 := Lib.hid (And.intro hw1 hX)
  clear hw1 bX hX
  go_cut [6] (fun a wx => wx = w1 ∧ a = .slice pw ws2.length cw)
  case first =>
    cases hp : pw with
    | none =>
      obtain ⟨h1, h2⟩ := HW.out.nil hp
      subst h1 h2 hp
      go_wp2_with fail
      go_meet
      case rel => exact ⟨rfl, sl_meet (by rw [HN.out.1]; rfl)⟩
    | some ad =>
      subst hp
      have hle := HW.out.le
      have hmx := HW.out.max
      by_cases h200 : ws.length ≤ 200
      · go_wp2_with fail
        go_meet
        case rel => exact ⟨rfl, sl_meet (by rw [HN.out.1, List.length_take]; omega)⟩
      · go_wp2_with fail
        go_meet
        case rel => exact ⟨rfl, sl_meet (by rw [HN.out.1, List.length_take]; omega)⟩
  case rest =>
    obtain ⟨rfl, rfl⟩ := hcut
    clear x0
    go_upto_region 3 with fail
    go_cut [28] (fun t wx => wx = wc ∧ ∃ b, t = .bool b ∧ Hid (b = decide (300 < size ∧ size ≤ 335544320)))
    case first =>
      by_cases h1 : 300 < size
      · have d1 : decide (300 < size) = true := by simpa using h1
        by_cases h2 : size ≤ 335544320
        · have d2 : decide (size ≤ 335544320) = true := by simpa using h2
          go_wp2_with fail
          go_meet
          case rel => exact ⟨rfl, true, rfl, Lib.hid (decide_eq_true (And.intro h1 h2)).symm⟩
        · have d2 : decide (size ≤ 335544320) = false := by simpa using h2
          go_wp2_with fail
          go_meet
          case rel => exact ⟨rfl, false, rfl, Lib.hid (decide_eq_false (fun h => by omega)).symm⟩
      · have d1 : decide (300 < size) = false := by simpa using h1
        go_wp2_with fail
        go_meet
        case rel => exact ⟨rfl, false, rfl, Lib.hid (decide_eq_false (fun h => by omega)).symm⟩
    case rest =>
      obtain ⟨rfl, t, rfl, HT⟩ := hcut
      clear x1
      go_upto_if 28 with fail
      go_cut [7] (fun n wx => wx = wc ∧ n = .int .i64 N)
      case first =>
        cases t with
        | true =>
          go_wp2_with fail
          go_meet
          case rel => exact ⟨rfl, by rw [HN.out.2.2]; unfold stSize; rw [if_pos (of_decide_eq_true HT.out.symm)]⟩
        | false =>
          go_wp2_with fail
          go_meet
          case rel => exact ⟨rfl, by rw [HN.out.2.2]; unfold stSize; rw [if_neg (of_decide_eq_false HT.out.symm)]⟩
      case rest =>
        obtain ⟨rfl, rfl⟩ := hcut
        clear HT
        go_upto_region 5 with fail
        go_cut [8] (fun a wx => wx = wc ∧ a = .slice pi is2.length ci)
        case first =>
          cases hp : pi with
          | none =>
            obtain ⟨h1, h2⟩ := HI.out.nil hp
            subst h1 h2 hp
            go_wp2_with fail
            go_meet
            case rel => exact ⟨rfl, sl_meet (by rw [HN.out.2.1]; rfl)⟩
          | some ad =>
            subst hp
            have hle := HI.out.le
            have hmx := HI.out.max
            by_cases h50 : is.length ≤ 50
            · go_wp2_with fail
              go_meet
              case rel => exact ⟨rfl, sl_meet (by rw [HN.out.2.1, List.length_take]; omega)⟩
            · go_wp2_with fail
              go_meet
              case rel => exact ⟨rfl, sl_meet (by rw [HN.out.2.1, List.length_take]; omega)⟩
        case rest =>
          obtain ⟨rfl, rfl⟩ := hcut
          clear x2
          by_cases hg : 1 ≤ N ∧ N ≤ 300 ∧ (ws2.length : Int) ≤ N
          · obtain ⟨n, rfl⟩ : ∃ n : Nat, N = n := ⟨N.toNat, by omega⟩
            have hbw : Below w.heap.size w wc := by rw [H1.out.1]; exact (Below.refl _ _).alloc (Nat.le_refl _) _
            have hw2 : WRead wc (.slice pw ws2.length cw) ws2 := by rw [HN.out.1]; exact ((HW.out.take 200).below hbw).wread
            have hi2 : BRead wc (.slice pi is2.length ci) is2 := by rw [HN.out.2.1]; exact ((HI.out.take 50).below hbw).bread
            have hil : is2.length ≤ 1000 := by rw [HN.out.2.1, List.length_take]; omega
            have hwr2 : ∀ x ∈ ws2, 0 ≤ x ∧ x < 4294967296 := fun x hx => HR.out.2.1 x (by rw [HN.out.1] at hx; exact List.mem_of_mem_take hx)
            have hir2 : ∀ x ∈ is2, 0 ≤ x ∧ x < 256 := fun x hx => HR.out.2.2.1 x (by rw [HN.out.2.1] at hx; exact List.mem_of_mem_take hx)
            have HG := Lib.hid (And.intro hw2 (And.intro hi2 (And.intro hil (And.intro hwr2 (And.intro hir2 (And.intro hbw hg))))))
            have hXc : X < wc.heap.size := by have h := H1.out; rw [h.1, h.2]; simp
            clear hw2 hi2 hil hwr2 hir2 hbw hg
            go_wp2_with fail
            refine (new_ok _ _ n ws2 is2 wc HG.out.1 HG.out.2.1 (by have := HG.out; omega) (by have := HG.out; omega) (by have := HG.out; omega) HG.out.2.2.1 HG.out.2.2.2.1 HG.out.2.2.2.2.1).mono ?_
            rintro e w2 ⟨l, rfl, hm2, hb2⟩
            have H2 := Lib.hid (And.intro hm2 hb2)
            clear hm2 hb2
            go_wp2_with fail
            refine (rnew_ok _ _ n ws2 is2 w2 (HG.out.1.below H2.out.2) (HG.out.2.1.below H2.out.2) (by have := HG.out; omega) (by have := HG.out; omega) (by have := HG.out; omega) HG.out.2.2.1 HG.out.2.2.2.1 HG.out.2.2.2.2.1).mono ?_
            rintro e w3 ⟨q, rfl, hm3, hb3⟩
            have M0 := Mad.new H2.out.1 H2.out.2 hm3 hb3
            rw [← mkM_zero ws2 n is2 rs] at M0
            have HM := Lib.hid M0
            clear hm3 hb3 M0 H2
            go_wp2_with fail
            go_loopw [13] (fun i wr => ∃ k : Nat, i = .int .i64 k ∧ k ≤ rs.length ∧ k ≤ 32 ∧ Mad wc l q (mkM ws2 n is2 rs k) wr) (fun i _ => 32 - (intOf i).toNat)
            case atStart => exact ⟨0, rfl, Nat.zero_le _, by decide, HM.out⟩
            case round =>
              obtain ⟨k, rfl, hk1, hk2, M⟩ := hrel
              have y3 := (M.below.cell (p := ⟨X, 3, none⟩) hXc).trans x3
              by_cases h1 : k < rs.length
              · have d1 : decide ((k : Int) < (rs.length : Int)) = true := by simp; omega
                by_cases h2 : k < 32
                · have d2 : decide ((k : Int) < 32) = true := by simp; omega
                  have hne : rs ≠ [] := by intro h; rw [h] at h1; simp at h1
                  obtain ⟨b, off, hp, hcell⟩ := HR.out.1.plain hne
                  obtain ⟨x, hxe⟩ : ∃ x, x = rs.getD k 0 := ⟨_, rfl⟩
                  have hx : 0 ≤ x ∧ x < 4294967296 := by
                    rw [hxe, List.getD_eq_getElem?_getD, List.getElem?_eq_getElem h1]
                    exact HR.out.2.2.2 _ (List.getElem_mem ..)
                  have c0 := hcell k h1
                  rw [← hxe] at c0
                  have c1 := (HG.out.2.2.2.2.2.1.cell (p := ⟨b, off + k, none⟩) (World.block_lt_of_cell? w _ c0)).trans c0
                  have hbc := World.block_lt_of_cell? wc _ c1
                  have c2 := (M.below.cell (p := ⟨b, off + k, none⟩) hbc).trans c1
                  subst hp
                  have HX := Lib.hid (And.intro hxe (And.intro hx (And.intro c1 (And.intro hbc M))))
                  clear hcell hxe hx c0 c1 hbc M hne
                  by_cases hk0 : k = 0
                  · subst hk0
                    rw [Nat.add_zero] at c2
                    go_wp2_with fail
                    refine (set_in HX.out.2.2.2.2.rep 0 x (by decide) HX.out.2.1).mono ?_
                    rintro e w5 ⟨rfl, s5⟩
                    have H5 := Lib.hid s5
                    clear s5
                    go_wp2_with fail
                    go_roundw
                    case rel =>
                      refine ⟨1, by go_num, by omega, by decide, ?_⟩
                      obtain ⟨hxe, hx, -, -, M⟩ := HX.out
                      have hms := mkM_succ ws2 n is2 rs 0
                      have hq := M.set H5.out
                      have hr := H5.out.rep
                      rw [hxe, hms] at hr
                      exact ⟨hq.1, hr, by have h0 := hq.2; rw [← hms]; exact h0, M.ap⟩
                    case measure => simp [intOf]
                  · have hkp : decide (0 < (k : Int)) = true := by simp; omega
                    go_wp2_with fail
                    refine (set_in HX.out.2.2.2.2.rep k x h2 HX.out.2.1).mono ?_
                    rintro e w5 ⟨rfl, s5⟩
                    have hq := HX.out.2.2.2.2.set s5
                    have z3 := (hq.1.cell (p := ⟨X, 3, none⟩) hXc).trans x3
                    have c5 := (hq.1.cell (p := ⟨b, off + k, none⟩) HX.out.2.2.2.1).trans HX.out.2.2.1
                    have qk := cellF hq.2.mac k (by omega)
                    have qf := freeF hq.2.mac k
                    have H5 := Lib.hid (And.intro s5 hq)
                    clear s5 hq
                    go_upto_region 15 with fail
                    go_region
                    go_wp2_with fail
                    go_roundw
                    case rel =>
                      refine ⟨k + 1, by go_num, by omega, by omega, ?_⟩
                      obtain ⟨hxe, hx, -, -, M⟩ := HX.out
                      have hms := mkM_succ ws2 n is2 rs k
                      obtain ⟨hq', hc'⟩ := H5.out.2.2.setR k x h2 hk0 hx
                      have := M.done H5.out.1 hq'.drew hc'.drew
                      rw [hxe, hms] at this
                      rw [hxe]
                      exact this
                    case measure => simp [intOf]; omega
                · have he : k = 32 := by omega
                  subst he
                  have HX := Lib.hid M
                  clear M
                  go_wp2_with fail
                  refine bodyPost_ret (v := .tuple #[.pointer (some ⟨l.M, 0, none⟩), .pointer (some ⟨q.Q, 0, none⟩), .bool true, .bool true]) (by simp [results, Tryd.results8, go_sem]) rfl (Or.inr ⟨?_, l, q, rfl, ?_⟩)
                  · unfold stGood; rw [← HN.out.2.2, ← HN.out.1]; exact HG.out.2.2.2.2.2.2
                  · have hh := HN.out
                    unfold stM
                    rw [← hh.1, ← hh.2.1, ← hh.2.2, Int.toNat_natCast, show min rs.length 32 = 32 by omega]
                    exact HX.out.base HG.out.2.2.2.2.2.1
              · have he : k = rs.length := by omega
                subst he
                have d1 : decide ((rs.length : Int) < (rs.length : Int)) = false := by simp
                have HX := Lib.hid M
                clear M
                go_wp2_with fail
                refine bodyPost_ret (v := .tuple #[.pointer (some ⟨l.M, 0, none⟩), .pointer (some ⟨q.Q, 0, none⟩), .bool true, .bool true]) (by simp [results, Tryd.results8, go_sem]) rfl (Or.inr ⟨?_, l, q, rfl, ?_⟩)
                · unfold stGood; rw [← HN.out.2.2, ← HN.out.1]; exact HG.out.2.2.2.2.2.2
                · have hh := HN.out
                  unfold stM
                  rw [← hh.1, ← hh.2.1, ← hh.2.2, Int.toNat_natCast, show min rs.length 32 = rs.length by omega]
                  exact HX.out.base HG.out.2.2.2.2.2.1
          · have hbad : N < 1 ∨ 335544320 < N ∨ N < (ws2.length : Int) := by
              have := stBad (ws := ws) (size := size) (by unfold stGood; rw [← HN.out.2.2, ← HN.out.1]; exact hg)
              rwa [← HN.out.2.2, ← HN.out.1] at this
            have HG := Lib.hid hg
            go_wp2_with fail
            refine (new_bad _ _ _ _ _ _ hbad).mono ?_
            rintro e w' ⟨rfl, rfl⟩
            go_wp2_with fail
            refine (rnew_bad _ _ _ _ _ _ hbad).mono ?_
            rintro e w' ⟨rfl, rfl⟩
            clear hbad hg
            go_wp2_with fail
            refine bodyPost_ret (v := .tuple #[.pointer none, .pointer none, .bool false, .bool true]) (by simp [results, Tryd.results8, go_sem]) rfl (Or.inl ⟨?_, rfl, ?_⟩)
            · unfold stGood; rw [← HN.out.2.2, ← HN.out.1]; exact HG.out
            · rw [H1.out.1]; exact (Below.refl _ _).alloc (Nat.le_refl _) _
end Go.Proofs.YtknnmacmohpanaaDoor
