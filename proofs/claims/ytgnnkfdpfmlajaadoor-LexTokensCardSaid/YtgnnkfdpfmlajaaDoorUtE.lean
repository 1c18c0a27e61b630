/- Contracts: the document's Get. Conditions: none. -/
import Derived.Test.YtgnnkfdpfmlajaaDoorUtD
import Derived.Deep.RegionHeld3
import Derived.Deep.DeepCutAuto
import Derived.OwnWalk
namespace Go.Proofs.YtgnnkfdpfmlajaaDoor
open Go.RowKit Bg
set_option linter.unusedVariables false
set_option linter.unusedSimpArgs false


/-- What Get answers. -/
def gC (l : List Int) (a : Int) : Int := if 0 ≤ a ∧ a < l.length then ((chr (l.drop a.toNat)).map fun x => x.1).getD 0 else 0
def gN (l : List Int) (a : Int) : Int := if 0 ≤ a ∧ a < l.length then ((chr (l.drop a.toNat)).map fun x => (x.2 : Int)).getD 0 else 0
def gE (l : List Int) (a : Int) : Int := if 0 ≤ a ∧ a < l.length then (if (chr (l.drop a.toNat)).isSome then 0 else 4) else 2
theorem g_out {l : List Int} {a : Int} (h : ¬ (0 ≤ a ∧ a < l.length)) : gC l a = 0 ∧ gN l a = 0 ∧ gE l a = 2 := by
  unfold gC gN gE
  rw [if_neg h, if_neg h, if_neg h]
  exact ⟨rfl, rfl, rfl⟩
theorem g_in {l : List Int} {k : Nat} (h : k < l.length) : gC l k = ((chr (l.drop k)).map fun x => x.1).getD 0 ∧ gN l k = ((chr (l.drop k)).map fun x => (x.2 : Int)).getD 0 ∧ gE l k = (if (chr (l.drop k)).isSome then 0 else 4) := by
  have h' : 0 ≤ (k : Int) ∧ (k : Int) < l.length := by omega
  unfold gC gN gE
  rw [if_pos h', if_pos h', if_pos h', Int.toNat_natCast]
  exact ⟨rfl, rfl, rfl⟩
theorem g_some {l : List Int} {k : Nat} (h : k < l.length) {c : Int} {n : Nat} (e : chr (l.drop k) = some (c, n)) : gC l k = c ∧ gN l k = n ∧ gE l k = 0 := by
  obtain ⟨h1, h2, h3⟩ := g_in h
  rw [h1, h2, h3, e]
  exact ⟨rfl, rfl, rfl⟩
theorem g_none {l : List Int} {k : Nat} (h : k < l.length) (e : chr (l.drop k) = none) : gC l k = 0 ∧ gN l k = 0 ∧ gE l k = 4 := by
  obtain ⟨h1, h2, h3⟩ := g_in h
  rw [h1, h2, h3, e]
  exact ⟨rfl, rfl, rfl⟩
/-- The document's test at a length. -/
def fits (r : List Int) (n : Nat) : Bool := isC (toldL (r.take n)) && decide (enc (toldL (r.take n)) = r.take n)
theorem fits_iff {r : List Int} (hb : Byts r) {n : Nat} (h1 : 1 ≤ n) (hn : n ≤ r.length) : fits r n = true ↔ ∃ c, chr r = some (c, n) ∧ c = toldL (r.take n) := by
  unfold fits
  rw [Bool.and_eq_true, decide_eq_true_eq]
  constructor
  · rintro ⟨ha, he⟩
    refine ⟨toldL (r.take n), ?_, rfl⟩
    have h2 := chr_enc ha (r.drop n)
    rw [he, List.take_append_drop, List.length_take, Nat.min_eq_left hn] at h2
    exact h2
  · rintro ⟨c, h2, h3⟩
    obtain ⟨e1, e2, e3⟩ := chr_some hb h2
    have e4 : r.take n = enc c := by
      rw [← e3, e2]
      exact List.take_left' rfl
    rw [← h3]
    exact ⟨e1, e4.symm⟩
theorem str_inj {a b : List Int} (ha : Byts a) (hb : Byts b) (h : strOfNums a = strOfNums b) : a = b := by
  have h1 := congrArg (fun s => s.data.toList) h
  simp only [strOfNums_data] at h1
  have back : ∀ l : List Int, Byts l → (l.map fun n => UInt8.ofNat n.toNat).map (fun b => (b.toNat : Int)) = l := fun l hl => by
    rw [List.map_map]
    conv => rhs; rw [← List.map_id l]
    refine List.map_congr_left fun x hx => ?_
    have := hl x hx
    simp only [Function.comp, id_eq, UInt8.toNat_ofNat']
    omega
  rw [← back a ha, ← back b hb, h1]
theorem str_eq {a b : List Int} (ha : Byts a) (hb : Byts b) : (strOfNums a = strOfNums b) ↔ a = b := ⟨str_inj ha hb, fun h => by rw [h]⟩
theorem toList_inj {s t : ByteArray} (h : s.toList = t.toList) : s = t := by
  rw [ByteArray.toList_eq, ByteArray.toList_eq] at h
  cases s; cases t
  congr 1
  exact Array.toList_inj.1 h
theorem beq_str (s t : ByteArray) : (s.toList == t.toList) = decide (s = t) := by
  rw [Bool.eq_iff_iff, beq_iff_eq, decide_eq_true_eq]
  exact ⟨toList_inj, fun h => by rw [h]⟩
theorem beq_bytes {a b : List Int} (ha : Byts a) (hb : Byts b) : ((strOfNums a).toList == (strOfNums b).toList) = decide (a = b) := by
  rw [beq_str, decide_eq_decide]
  exact str_eq ha hb
theorem chr_fits {R : List Int} (hb : Byts R) {n : Nat} (h : ∀ m, 1 ≤ m → m < n → m ≤ R.length → fits R m = false) (hn : n = 5 ∨ R.length < n) : chr R = none := by
  cases hx : chr R with
  | none => rfl
  | some v =>
    obtain ⟨c, m⟩ := v
    have h1 := chr_lt hb hx
    have h2 := h m h1.1 (by omega) h1.2.2
    obtain ⟨e1, e2, e3⟩ := chr_some hb hx
    have h3 : toldL (R.take m) = c := by
      have : R.take m = enc c := by rw [← e3, e2]; exact List.take_left' rfl
      rw [this, told_enc e1]
    rw [(fits_iff hb h1.1 h1.2.2).2 ⟨c, hx, h3.symm⟩] at h2
    cases h2
def RD (p : Option Addr) (c : Nat) (l : List Int) (w : World) : Prop := Arg .u8 w p c l

set_option maxRecDepth 100000 in
set_option maxHeartbeats 20000000 in
theorem rget_at {w : World} {p : Option Addr} {c : Nat} {l : List Int} (a : Arg .u8 w p c l) (hb : Byts l) (hl : l.length ≤ 1000000) (k : Int) :
    Calls Tryd.prog 19 #[.slice p l.length c, .int .i64 k] w fun e w' => e = .returned (.tuple #[.int .i64 (gC l k), .int .i64 (gN l k), .int .i64 (gE l k)]) ∧ Below w.heap.size w w' := by
  by_cases hk : 0 ≤ k ∧ k < l.length
  · obtain ⟨k, rfl⟩ := Int.eq_ofNat_of_zero_le hk.1
    have hkl : k < l.length := by omega
    obtain ⟨b, off, rfl, hc⟩ := a.at (by omega)
    have hle := a.le
    have hmx := a.max
    obtain ⟨R, hR⟩ : ∃ R, R = l.drop k := ⟨_, rfl⟩
    have hRl : R.length = l.length - k := by rw [hR, List.length_drop]
    have hRb : Byts R := by rw [hR]; exact hb.drop k
    have a2 : ∀ {w' : World}, Below w.heap.size w w' → Arg .u8 w' (some ⟨b, off + k, none⟩) (c - k) R := fun {w'} h => by
      have := (a.below h).drop (n := k) (by omega)
      rw [hR]
      have e : (Option.map (fun x : Addr => x.add k) (some ⟨b, off, none⟩)) = some ⟨b, off + k, none⟩ := congrArg some (add_at b off k)
      rw [← e]
      exact this
    have HH := Lib.hid (And.intro hR (And.intro hRl (And.intro hRb (And.intro @a2 hb))))
    clear hR hRl hRb a2 hb hc
    have d1 : decide ((k : Int) < 0) = false := by rw [decide_eq_false_iff_not]; omega
    have d2 : decide ((l.length : Int) ≤ (k : Int)) = false := by rw [decide_eq_false_iff_not]; omega
    have f1 : ¬ (k : Int) < 0 := by omega
    have f2 : ¬ (l.length : Int) ≤ (k : Int) := by omega
    have f3 : (k : Int) < (l.length : Int) := by omega
    obtain ⟨L, hL⟩ : ∃ L, L = l.length := ⟨_, rfl⟩
    have HL := Lib.hid hL
    rw [← hL] at hl hkl hle d2 f2 f3 hk ⊢
    clear hL
    obtain ⟨vC, hC⟩ : ∃ v, v = gC l k := ⟨_, rfl⟩
    obtain ⟨vN, hN⟩ : ∃ v, v = gN l k := ⟨_, rfl⟩
    obtain ⟨vE, hE⟩ : ∃ v, v = gE l k := ⟨_, rfl⟩
    rw [← hC, ← hN, ← hE]
    replace HL := Lib.hid (And.intro HL.out (And.intro hC (And.intro hN hE)))
    clear hC hN hE
    go_enter Tryd.func19, Tryd.ntmps19
    go_wp2_with fail
    go_loopw [7] (fun t wr => ∃ n : Nat, t = .int .i64 n ∧ 1 ≤ n ∧ n ≤ 5 ∧ Hid (Below w.heap.size w wr ∧ ∀ m, 1 ≤ m → m < n → m ≤ R.length → fits R m = false)) (fun t _ => 6 - (intOf t).toNat)
    case atStart => exact ⟨1, rfl, by omega, by omega, Lib.hid ⟨Below.refl _ _, fun m h1 h2 => by omega⟩⟩
    case round =>
      obtain ⟨n, rfl, n1, n5, HI⟩ := hrel
      by_cases hn4 : n ≤ 4
      · by_cases hnl : k + n ≤ L
        · have g1 : decide ((n : Int) ≤ 4) = true := by rw [decide_eq_true_eq]; omega
          have g2 : decide ((k : Int) + (n : Int) ≤ (L : Int)) = true := by rw [decide_eq_true_eq]; omega
          have g3 : (n : Int) ≤ 4 := by omega
          have g4 : (k : Int) + (n : Int) ≤ (L : Int) := by omega
          have g5 : (k : Int) ≤ (k : Int) + (n : Int) := by omega
          have g6 : (k : Int) + (n : Int) ≤ (c : Int) := by omega
          have T1 := Lib.hid (told_at ((HH.out.2.2.2.1 HI.out.1).take n) (HH.out.2.2.1.take n) (by rw [List.length_take, HH.out.2.1, ← HL.out.1]; omega) (by rw [List.length_take]; omega))
          rw [show (R.take n).length = n from by rw [List.length_take, HH.out.2.1, ← HL.out.1]; omega] at T1
          go_wp2_with (go_at_call 30; refine T1.out.mono ?_; rintro e w' ⟨rfl, rfl⟩)
          have BW := HI.out.1
          have a7 : RD (some ⟨b, off + k, none⟩) (c - k) (R.take n) wr := (HH.out.2.2.2.1 BW).take n
          have cvt : ∀ w', RD (some ⟨b, off + k, none⟩) (c - k) (R.take n) w' → (convert 22 9 (.slice (some ⟨b, off + k, none⟩) n (c - k))).run Tryd.prog w' = .ok (.string (strOfNums (R.take n))) w' := fun w' h => by
            have := conv_arg h
            rwa [show (R.take n).length = n from by rw [List.length_take, HH.out.2.1, ← HL.out.1]; omega] at this
          obtain ⟨dd, hdd⟩ : ∃ d, d = toldL (R.take n) := ⟨_, rfl⟩
          have hF : fits R n = (isC dd && decide (enc dd = R.take n)) := by rw [hdd]; rfl
          have hbt : Byts (R.take n) := HH.out.2.2.1.take n
          rw [← hdd]
          obtain ⟨tk, htk⟩ : ∃ t, t = R.take n := ⟨_, rfl⟩
          rw [← htk] at a7 cvt hF hbt
          have HF := Lib.hid (And.intro hF (And.intro hbt (And.intro hdd htk)))
          clear T1 hF hbt hdd htk
          replace a7 := Arg.drew a7
          have hw1 : IntKind.i64.wrap ((k : Int) + (n : Int)) = ((k + n : Nat) : Int) := by rw [wrap_small _ (by omega) (by omega)]; rfl
          have hw7 : ((k : Int) + (n : Int)).toNat - k = n := by omega
          have hw3 : ((k + n : Nat) : Int) ≤ (c : Int) := by omega
          have hw4 : k ≤ k + n := by omega
          have hw5 : ¬ c = k := by omega
          have hw6 : 0 ≤ ((k + n : Nat) : Int) := by omega
          go_cut [50] (fun v wx => v = .bool (fits R n) ∧ Hid (Below w.heap.size w wx))
          case first =>
            cases hI : isC dd with
            | false =>
              have T := Lib.hid fun w => ris_at dd w
              rw [hI] at T
              refine wp_region_noPanic ?_
              refine wp_region_held_drew (S := fun w' => RD (some ⟨b, off + k, none⟩) (c - k) tk w') (by kernel_rfl) a7 (fun hHeld => ?_)
              refine wpAnyH_take (i := 0) (oi := { dst := some 36, op := Op.move (Operand.tmp 8), type := 3, pos := "ref.go:62", after := #[], guard := none }) (v := ?_) rfl (by kernel_rfl) (by kernel_rfl) (by kernel_rfl) (fun _ _ _ h => h) (Or.inl ⟨by rfl, ?_⟩) (by assumption) ?_
              rotate_left
              · (intro w0 hSw; (try dsimp only at hSw); go_simp; (try with_reducible rfl))
              try simp only [Act.put, List.setIfInBounds_toArray, List.set_cons_zero, List.set_cons_succ]
              refine wpAnyH_ready (rs := [1]) (by kernel_rfl) (by simp) ?_
              refine AllReadyH.cons rfl (fun K hK => ?_) AllReadyH.nil
              go_simp
              go_wp2_with (go_at_call 31; refine (T.out _).mono ?_; rintro e w' ⟨rfl, rfl⟩)
              refine hK.out _ _ ?_ (fun hHeld => ?_)
              · assumption
              clear hK K
              refine wpAnyH_take (i := 2) (oi := { dst := some 38, op := Op.move (Operand.tmp 37), type := 4, pos := "ref.go:62", after := #[{ on := 1, ground := Ground.data }, { on := 1, ground := Ground.chain }], guard := none }) (v := ?_) rfl (by kernel_rfl) (by kernel_rfl) (by kernel_rfl) (fun _ _ _ h => h) (Or.inl ⟨by rfl, ?_⟩) (by assumption) ?_
              rotate_left
              · (intro w0 hSw; (try dsimp only at hSw); go_simp; (try with_reducible rfl))
              try simp only [Act.put, List.setIfInBounds_toArray, List.set_cons_zero, List.set_cons_succ]
              refine wpAnyH_take (i := 3) (oi := { dst := some 39, op := Op.move (Operand.tmp 8), type := 3, pos := "ref.go:62", after := #[{ on := 2, ground := Ground.guard }], guard := some (2, true) }) (v := undef) rfl (by kernel_rfl) (by kernel_rfl) (by kernel_rfl) (fun _ _ _ h => h) (Or.inr ⟨by rfl, rfl⟩) (by assumption) ?_
              try simp only [Act.put, List.setIfInBounds_toArray, List.set_cons_zero, List.set_cons_succ]
              refine wpAnyH_take (i := 4) (oi := { dst := some 40, op := Op.call { callee := Callee.value (Operand.func 32), args := #[Operand.tmp 39], argTypes := #[3] }, type := 22, pos := "ref.go:62", after := #[{ on := 3, ground := Ground.data }, { on := 2, ground := Ground.chain }, { on := 2, ground := Ground.guard }], guard := some (2, true) }) (v := undef) rfl (by kernel_rfl) (by kernel_rfl) (by kernel_rfl) (fun _ _ _ h => h) (Or.inr ⟨by rfl, rfl⟩) (by assumption) ?_
              try simp only [Act.put, List.setIfInBounds_toArray, List.set_cons_zero, List.set_cons_succ]
              refine wpAnyH_take (i := 5) (oi := { dst := some 41, op := Op.convert 22 9 (Operand.tmp 40), type := 9, pos := "ref.go:62", after := #[{ on := 4, ground := Ground.data }, { on := 2, ground := Ground.guard }], guard := some (2, true) }) (v := undef) rfl (by kernel_rfl) (by kernel_rfl) (by kernel_rfl) (fun _ _ _ h => h) (Or.inr ⟨by rfl, rfl⟩) (by assumption) ?_
              try simp only [Act.put, List.setIfInBounds_toArray, List.set_cons_zero, List.set_cons_succ]
              refine wpAnyH_take (i := 6) (oi := { dst := some 42, op := Op.move (Operand.tmp 0), type := 22, pos := "ref.go:62", after := #[{ on := 2, ground := Ground.guard }], guard := some (2, true) }) (v := undef) rfl (by kernel_rfl) (by kernel_rfl) (by kernel_rfl) (fun _ _ _ h => h) (Or.inr ⟨by rfl, rfl⟩) (by assumption) ?_
              try simp only [Act.put, List.setIfInBounds_toArray, List.set_cons_zero, List.set_cons_succ]
              refine wpAnyH_take (i := 7) (oi := { dst := some 43, op := Op.move (Operand.tmp 1), type := 3, pos := "ref.go:62", after := #[{ on := 2, ground := Ground.guard }], guard := some (2, true) }) (v := undef) rfl (by kernel_rfl) (by kernel_rfl) (by kernel_rfl) (fun _ _ _ h => h) (Or.inr ⟨by rfl, rfl⟩) (by assumption) ?_
              try simp only [Act.put, List.setIfInBounds_toArray, List.set_cons_zero, List.set_cons_succ]
              refine wpAnyH_take (i := 8) (oi := { dst := some 44, op := Op.move (Operand.tmp 1), type := 3, pos := "ref.go:62", after := #[{ on := 2, ground := Ground.guard }], guard := some (2, true) }) (v := undef) rfl (by kernel_rfl) (by kernel_rfl) (by kernel_rfl) (fun _ _ _ h => h) (Or.inr ⟨by rfl, rfl⟩) (by assumption) ?_
              try simp only [Act.put, List.setIfInBounds_toArray, List.set_cons_zero, List.set_cons_succ]
              refine wpAnyH_take (i := 9) (oi := { dst := some 45, op := Op.move (Operand.tmp 7), type := 3, pos := "ref.go:62", after := #[{ on := 2, ground := Ground.guard }], guard := some (2, true) }) (v := undef) rfl (by kernel_rfl) (by kernel_rfl) (by kernel_rfl) (fun _ _ _ h => h) (Or.inr ⟨by rfl, rfl⟩) (by assumption) ?_
              try simp only [Act.put, List.setIfInBounds_toArray, List.set_cons_zero, List.set_cons_succ]
              refine wpAnyH_take (i := 10) (oi := { dst := some 46, op := Op.binOp BinOp.add 3 (Operand.tmp 44) (Operand.tmp 45) 3, type := 3, pos := "ref.go:62", after := #[{ on := 8, ground := Ground.data }, { on := 9, ground := Ground.data }, { on := 2, ground := Ground.guard }], guard := some (2, true) }) (v := undef) rfl (by kernel_rfl) (by kernel_rfl) (by kernel_rfl) (fun _ _ _ h => h) (Or.inr ⟨by rfl, rfl⟩) (by assumption) ?_
              try simp only [Act.put, List.setIfInBounds_toArray, List.set_cons_zero, List.set_cons_succ]
              refine wpAnyH_take (i := 11) (oi := { dst := some 47, op := Op.slice 22 (Operand.tmp 42) (some (Operand.tmp 43)) (some (Operand.tmp 46)) none, type := 22, pos := "ref.go:62", after := #[{ on := 6, ground := Ground.data }, { on := 7, ground := Ground.data }, { on := 10, ground := Ground.data }, { on := 2, ground := Ground.guard }], guard := some (2, true) }) (v := undef) rfl (by kernel_rfl) (by kernel_rfl) (by kernel_rfl) (fun _ _ _ h => h) (Or.inr ⟨by rfl, rfl⟩) (by assumption) ?_
              try simp only [Act.put, List.setIfInBounds_toArray, List.set_cons_zero, List.set_cons_succ]
              refine wpAnyH_take (i := 12) (oi := { dst := some 48, op := Op.convert 22 9 (Operand.tmp 47), type := 9, pos := "ref.go:62", after := #[{ on := 11, ground := Ground.data }, { on := 2, ground := Ground.guard }], guard := some (2, true) }) (v := undef) rfl (by kernel_rfl) (by kernel_rfl) (by kernel_rfl) (fun _ _ _ h => h) (Or.inr ⟨by rfl, rfl⟩) (by assumption) ?_
              try simp only [Act.put, List.setIfInBounds_toArray, List.set_cons_zero, List.set_cons_succ]
              refine wpAnyH_take (i := 13) (oi := { dst := some 49, op := Op.binOp BinOp.eql 9 (Operand.tmp 41) (Operand.tmp 48) 9, type := 4, pos := "ref.go:62", after := #[{ on := 5, ground := Ground.data }, { on := 12, ground := Ground.data }, { on := 2, ground := Ground.guard }], guard := some (2, true) }) (v := undef) rfl (by kernel_rfl) (by kernel_rfl) (by kernel_rfl) (fun _ _ _ h => h) (Or.inr ⟨by rfl, rfl⟩) (by assumption) ?_
              try simp only [Act.put, List.setIfInBounds_toArray, List.set_cons_zero, List.set_cons_succ]
              refine wpAnyH_take (i := 14) (oi := { dst := some 50, op := Op.pick (Operand.tmp 38) (Operand.tmp 49) (Operand.const (Value.bool false)), type := 4, pos := "ref.go:62", after := #[{ on := 2, ground := Ground.data }, { on := 13, ground := Ground.data }], guard := none }) (v := ?_) rfl (by kernel_rfl) (by kernel_rfl) (by kernel_rfl) (fun _ _ _ h => h) (Or.inl ⟨by rfl, ?_⟩) (by assumption) ?_
              rotate_left
              · (intro w0 hSw; (try dsimp only at hSw); go_simp; (try with_reducible rfl))
              try simp only [Act.put, List.setIfInBounds_toArray, List.set_cons_zero, List.set_cons_succ]
              refine wpAnyH_done (by kernel_rfl) (NoPanic.normal ?_) _
              clear a7
              go_wp2_with fail
              go_meet
              exact ⟨by rw [HF.out.1, hI]; rfl, Lib.hid BW.drew⟩
            | true =>
              have T := Lib.hid fun w => ris_at dd w
              rw [hI] at T
              have T2 := Lib.hid fun w => bytes_at dd hI w
              have BZ := BW.drew
              refine wp_region_noPanic ?_
              refine wp_region_held_drew (S := fun w' => RD (some ⟨b, off + k, none⟩) (c - k) tk w') (by kernel_rfl) a7 (fun hHeld => ?_)
              refine wpAnyH_take (i := 0) (oi := { dst := some 36, op := Op.move (Operand.tmp 8), type := 3, pos := "ref.go:62", after := #[], guard := none }) (v := ?_) rfl (by kernel_rfl) (by kernel_rfl) (by kernel_rfl) (fun _ _ _ h => h) (Or.inl ⟨by rfl, ?_⟩) (by assumption) ?_
              rotate_left
              · (intro w0 hSw; (try dsimp only at hSw); go_simp; (try with_reducible rfl))
              try simp only [Act.put, List.setIfInBounds_toArray, List.set_cons_zero, List.set_cons_succ]
              refine wpAnyH_ready (rs := [1]) (by kernel_rfl) (by simp) ?_
              refine AllReadyH.cons rfl (fun K hK => ?_) AllReadyH.nil
              go_simp
              go_wp2_with (go_at_call 31; refine (T.out _).mono ?_; rintro e w' ⟨rfl, rfl⟩)
              refine hK.out _ _ ?_ (fun hHeld => ?_)
              · assumption
              clear hK K
              refine wpAnyH_take (i := 2) (oi := { dst := some 38, op := Op.move (Operand.tmp 37), type := 4, pos := "ref.go:62", after := #[{ on := 1, ground := Ground.data }, { on := 1, ground := Ground.chain }], guard := none }) (v := ?_) rfl (by kernel_rfl) (by kernel_rfl) (by kernel_rfl) (fun _ _ _ h => h) (Or.inl ⟨by rfl, ?_⟩) (by assumption) ?_
              rotate_left
              · (intro w0 hSw; (try dsimp only at hSw); go_simp; (try with_reducible rfl))
              try simp only [Act.put, List.setIfInBounds_toArray, List.set_cons_zero, List.set_cons_succ]
              refine wpAnyH_take (i := 3) (oi := { dst := some 39, op := Op.move (Operand.tmp 8), type := 3, pos := "ref.go:62", after := #[{ on := 2, ground := Ground.guard }], guard := some (2, true) }) (v := ?_) rfl (by kernel_rfl) (by kernel_rfl) (by kernel_rfl) (fun _ _ _ h => h) (Or.inl ⟨by rfl, ?_⟩) (by assumption) ?_
              rotate_left
              · (intro w0 hSw; (try dsimp only at hSw); go_simp; (try with_reducible rfl))
              try simp only [Act.put, List.setIfInBounds_toArray, List.set_cons_zero, List.set_cons_succ]
              refine wpAnyH_take (i := 6) (oi := { dst := some 42, op := Op.move (Operand.tmp 0), type := 22, pos := "ref.go:62", after := #[{ on := 2, ground := Ground.guard }], guard := some (2, true) }) (v := ?_) rfl (by kernel_rfl) (by kernel_rfl) (by kernel_rfl) (fun _ _ _ h => h) (Or.inl ⟨by rfl, ?_⟩) (by assumption) ?_
              rotate_left
              · (intro w0 hSw; (try dsimp only at hSw); go_simp; (try with_reducible rfl))
              try simp only [Act.put, List.setIfInBounds_toArray, List.set_cons_zero, List.set_cons_succ]
              refine wpAnyH_take (i := 7) (oi := { dst := some 43, op := Op.move (Operand.tmp 1), type := 3, pos := "ref.go:62", after := #[{ on := 2, ground := Ground.guard }], guard := some (2, true) }) (v := ?_) rfl (by kernel_rfl) (by kernel_rfl) (by kernel_rfl) (fun _ _ _ h => h) (Or.inl ⟨by rfl, ?_⟩) (by assumption) ?_
              rotate_left
              · (intro w0 hSw; (try dsimp only at hSw); go_simp; (try with_reducible rfl))
              try simp only [Act.put, List.setIfInBounds_toArray, List.set_cons_zero, List.set_cons_succ]
              refine wpAnyH_take (i := 8) (oi := { dst := some 44, op := Op.move (Operand.tmp 1), type := 3, pos := "ref.go:62", after := #[{ on := 2, ground := Ground.guard }], guard := some (2, true) }) (v := ?_) rfl (by kernel_rfl) (by kernel_rfl) (by kernel_rfl) (fun _ _ _ h => h) (Or.inl ⟨by rfl, ?_⟩) (by assumption) ?_
              rotate_left
              · (intro w0 hSw; (try dsimp only at hSw); go_simp; (try with_reducible rfl))
              try simp only [Act.put, List.setIfInBounds_toArray, List.set_cons_zero, List.set_cons_succ]
              refine wpAnyH_take (i := 9) (oi := { dst := some 45, op := Op.move (Operand.tmp 7), type := 3, pos := "ref.go:62", after := #[{ on := 2, ground := Ground.guard }], guard := some (2, true) }) (v := ?_) rfl (by kernel_rfl) (by kernel_rfl) (by kernel_rfl) (fun _ _ _ h => h) (Or.inl ⟨by rfl, ?_⟩) (by assumption) ?_
              rotate_left
              · (intro w0 hSw; (try dsimp only at hSw); go_simp; (try with_reducible rfl))
              try simp only [Act.put, List.setIfInBounds_toArray, List.set_cons_zero, List.set_cons_succ]
              refine wpAnyH_take (i := 10) (oi := { dst := some 46, op := Op.binOp BinOp.add 3 (Operand.tmp 44) (Operand.tmp 45) 3, type := 3, pos := "ref.go:62", after := #[{ on := 8, ground := Ground.data }, { on := 9, ground := Ground.data }, { on := 2, ground := Ground.guard }], guard := some (2, true) }) (v := ?_) rfl (by kernel_rfl) (by kernel_rfl) (by kernel_rfl) (fun _ _ _ h => h) (Or.inl ⟨by rfl, ?_⟩) (by assumption) ?_
              rotate_left
              · (intro w0 hSw; (try dsimp only at hSw); go_simp; (try with_reducible rfl))
              try simp only [Act.put, List.setIfInBounds_toArray, List.set_cons_zero, List.set_cons_succ]
              refine wpAnyH_take (i := 11) (oi := { dst := some 47, op := Op.slice 22 (Operand.tmp 42) (some (Operand.tmp 43)) (some (Operand.tmp 46)) none, type := 22, pos := "ref.go:62", after := #[{ on := 6, ground := Ground.data }, { on := 7, ground := Ground.data }, { on := 10, ground := Ground.data }, { on := 2, ground := Ground.guard }], guard := some (2, true) }) (v := ?_) rfl (by kernel_rfl) (by kernel_rfl) (by kernel_rfl) (fun _ _ _ h => h) (Or.inl ⟨by rfl, ?_⟩) (by assumption) ?_
              rotate_left
              · (intro w0 hSw; (try dsimp only at hSw); go_simp; (try with_reducible rfl))
              try simp only [Act.put, List.setIfInBounds_toArray, List.set_cons_zero, List.set_cons_succ]
              refine wpAnyH_take (i := 12) (oi := { dst := some 48, op := Op.convert 22 9 (Operand.tmp 47), type := 9, pos := "ref.go:62", after := #[{ on := 11, ground := Ground.data }, { on := 2, ground := Ground.guard }], guard := some (2, true) }) (v := ?_) rfl (by kernel_rfl) (by kernel_rfl) (by kernel_rfl) (fun _ _ _ h => h) (Or.inl ⟨by rfl, ?_⟩) (by assumption) ?_
              rotate_left
              · (intro w0 hSw; (try dsimp only at hSw); go_simp; (try with_reducible rfl))
              try simp only [Act.put, List.setIfInBounds_toArray, List.set_cons_zero, List.set_cons_succ]
              refine wpAnyH_ready (rs := [4]) (by kernel_rfl) (by simp) ?_
              refine AllReadyH.cons rfl (fun K hK => ?_) AllReadyH.nil
              go_simp
              go_wp2_with (go_at_call 32; refine (T2.out _).mono ?_; rintro e w' ⟨v, rfl, ho, hb⟩; have hcv := conv_own ho; have aS : RD (some ⟨b, off + k, none⟩) (c - k) tk w' := Arg.below hHeld hb; have BY := BZ.trans (hb.mono BZ.size); clear ho)
              refine hK.out _ _ ?_ (fun hHeld => ?_)
              · assumption
              clear hK K
              refine wpAnyH_ready (rs := [5]) (by kernel_rfl) (by simp) ?_
              refine AllReadyH.cons rfl (fun K hK => ?_) AllReadyH.nil
              go_simp
              refine hK.out _ _ ?_ (fun hHeld => ?_)
              · assumption
              clear hK K
              refine wpAnyH_take (i := 13) (oi := { dst := some 49, op := Op.binOp BinOp.eql 9 (Operand.tmp 41) (Operand.tmp 48) 9, type := 4, pos := "ref.go:62", after := #[{ on := 5, ground := Ground.data }, { on := 12, ground := Ground.data }, { on := 2, ground := Ground.guard }], guard := some (2, true) }) (v := ?_) rfl (by kernel_rfl) (by kernel_rfl) (by kernel_rfl) (fun _ _ _ h => h) (Or.inl ⟨by rfl, ?_⟩) (by assumption) ?_
              rotate_left
              · (intro w0 hSw; (try dsimp only at hSw); go_simp; (try with_reducible rfl))
              try simp only [Act.put, List.setIfInBounds_toArray, List.set_cons_zero, List.set_cons_succ]
              refine wpAnyH_take (i := 14) (oi := { dst := some 50, op := Op.pick (Operand.tmp 38) (Operand.tmp 49) (Operand.const (Value.bool false)), type := 4, pos := "ref.go:62", after := #[{ on := 2, ground := Ground.data }, { on := 13, ground := Ground.data }], guard := none }) (v := ?_) rfl (by kernel_rfl) (by kernel_rfl) (by kernel_rfl) (fun _ _ _ h => h) (Or.inl ⟨by rfl, ?_⟩) (by assumption) ?_
              rotate_left
              · (intro w0 hSw; (try dsimp only at hSw); go_simp; (try with_reducible rfl))
              try simp only [Act.put, List.setIfInBounds_toArray, List.set_cons_zero, List.set_cons_succ]
              refine wpAnyH_done (by kernel_rfl) (NoPanic.normal ?_) _
              clear a7
              go_wp2_with fail
              go_meet
              refine ⟨?_, Lib.hid BY⟩
              rw [HF.out.1, hI, beq_bytes (Byts.enc dd) HF.out.2.1]
              rfl
          case rest =>
            obtain ⟨rfl, BC⟩ := hcut
            replace BC := BC.out
            have hRn : 1 ≤ n ∧ n ≤ R.length := ⟨n1, by rw [HH.out.2.1, ← HL.out.1]; omega⟩
            cases hf : fits R n with
            | true =>
              obtain ⟨c', h1, h2⟩ := (fits_iff HH.out.2.2.1 hRn.1 hRn.2).1 hf
              rw [← HF.out.2.2.1] at h2
              subst h2
              have hg := g_some (l := l) (k := k) (by rw [← HL.out.1]; exact hkl) (by rw [← HH.out.1]; exact h1)
              rw [← HL.out.2.1, ← HL.out.2.2.1, ← HL.out.2.2.2] at hg
              obtain ⟨hg1, hg2, hg3⟩ := hg
              have HG := Lib.hid (And.intro hg1 (And.intro hg2 (And.intro hg3 BC)))
              clear hg1 hg2 hg3 BC cvt a7 h1
              go_wp2_with fail
              go_ret3
              obtain ⟨z1, z2, z3, z4⟩ := HG.out
              refine ⟨?_, z4⟩
              rw [z1, z2, z3]
              rfl
            | false =>
              have HG := Lib.hid (And.intro hf BC)
              clear hf BC cvt a7
              have hws : IntKind.i64.wrap ((n : Int) + 1) = (n : Int) + 1 := by rw [wrap_small _ (by omega) (by omega)]
              go_wp2_with fail
              go_roundw
              case rel =>
                refine ⟨n + 1, rfl, by omega, by omega, Lib.hid ⟨HG.out.2, fun m h1 h2 h3 => ?_⟩⟩
                rcases Nat.lt_or_ge m n with h4 | h4
                · exact HI.out.2 m h1 h4 h3
                · have : m = n := by omega
                  subst this
                  exact HG.out.1
              case measure => simp only [intOf]; omega
        · have g1 : decide ((n : Int) ≤ 4) = true := by rw [decide_eq_true_eq]; omega
          have g2 : decide ((k : Int) + (n : Int) ≤ (L : Int)) = false := by rw [decide_eq_false_iff_not]; omega
          have g3 : (n : Int) ≤ 4 := by omega
          have g4 : ¬ (k : Int) + (n : Int) ≤ (L : Int) := by omega
          have hg := g_none (l := l) (k := k) (by rw [← HL.out.1]; exact hkl) (by rw [← HH.out.1]; exact chr_fits HH.out.2.2.1 HI.out.2 (Or.inr (by rw [HH.out.2.1, ← HL.out.1]; omega)))
          rw [← HL.out.2.1, ← HL.out.2.2.1, ← HL.out.2.2.2] at hg
          obtain ⟨hg1, hg2, hg3⟩ := hg
          have HG := Lib.hid (And.intro hg1 (And.intro hg2 (And.intro hg3 HI.out.1)))
          clear hg1 hg2 hg3
          go_wp2_with fail
          go_ret3
          obtain ⟨z1, z2, z3, z4⟩ := HG.out
          refine ⟨?_, z4⟩
          rw [z1, z2, z3]
          rfl
      · have g1 : decide ((n : Int) ≤ 4) = false := by rw [decide_eq_false_iff_not]; omega
        have g3 : ¬ (n : Int) ≤ 4 := by omega
        have hg := g_none (l := l) (k := k) (by rw [← HL.out.1]; exact hkl) (by rw [← HH.out.1]; exact chr_fits HH.out.2.2.1 HI.out.2 (Or.inl (by omega)))
        rw [← HL.out.2.1, ← HL.out.2.2.1, ← HL.out.2.2.2] at hg
        obtain ⟨hg1, hg2, hg3⟩ := hg
        have HG := Lib.hid (And.intro hg1 (And.intro hg2 (And.intro hg3 HI.out.1)))
        clear hg1 hg2 hg3
        go_wp2_with fail
        go_ret3
        obtain ⟨z1, z2, z3, z4⟩ := HG.out
        refine ⟨?_, z4⟩
        rw [z1, z2, z3]
        rfl
  · obtain ⟨h1, h2, h3⟩ := g_out hk
    rw [h1, h2, h3]
    by_cases h0 : k < 0
    · have d1 : decide (k < 0) = true := by rw [decide_eq_true_eq]; omega
      go_enter Tryd.func19, Tryd.ntmps19
      go_wp2_with fail
      all_goals (go_ret3; exact ⟨rfl, Below.refl _ _⟩)
    · have d1 : decide (k < 0) = false := by rw [decide_eq_false_iff_not]; omega
      have d2 : decide ((l.length : Int) ≤ k) = true := by rw [decide_eq_true_eq]; omega
      have d3 : (l.length : Int) ≤ k := by omega
      go_enter Tryd.func19, Tryd.ntmps19
      go_wp2_with fail
      all_goals (go_ret3; exact ⟨rfl, Below.refl _ _⟩)
end Go.Proofs.YtgnnkfdpfmlajaaDoor
