/- Contracts: the document's number as digits to the base 65536. Conditions: the digits lie as told. -/
import Derived.Test.YtihgefllmkicaaaDoorRbC
namespace Go.Proofs.YtihgefllmkicaaaDoor
open Go.RowKit Bg
set_option linter.unusedVariables false
set_option linter.unusedSimpArgs false


theorem rpow_mono {a b : Int} (ha : 0 ≤ a) (h : a ≤ b) : ∀ n : Nat, a ^ n ≤ b ^ n
  | 0 => by simp
  | n + 1 => by
    rw [Int.pow_succ, Int.pow_succ]
    exact Int.mul_le_mul (rpow_mono ha h n) h ha (Int.pow_nonneg (by omega))
theorem box_of {E : TypeId} {w : World} {b : Nat} {x y : Value} (h : w.heap[b]? = some (.cells #[x, y] E)) : Box w b x y := by
  refine ⟨?_, ?_, ?_, ?_⟩ <;> simp [World.cell?, World.frozen?, h]
theorem box_fresh (E : TypeId) (w : World) (x y : Value) {n : Nat} (hn : w.heap.size = n) : Box (w.alloc (.cells #[x, y] E)) n x y := by
  subst hn
  exact box_of (heap_new w _)
def lenV : Value → Nat
  | .slice _ n _ => n
  | _ => 0
theorem shorter {l L : List Int} {r : Int} (hl : Dig 10 l) (dL : Dig 10 L) (tL : Tidy L) (hr : 0 ≤ r) (h : val 10 l = 65536 * val 10 L + r) (h0 : 0 < l.length) : L.length < l.length := by
  by_cases hL : L = []
  · rw [hL]; exact h0
  have h1 := val_ge (by decide) dL tL hL
  have h2 := val_lt (show (0 : Int) < 10 by decide) hl
  have hp : 0 < L.length := List.length_pos_iff.2 hL
  rcases Nat.lt_or_ge L.length l.length with h3 | h3
  · exact h3
  · exfalso
    have h4 := pow_le (show (1 : Int) ≤ 10 by decide) h3
    have h5 : (10 : Int) ^ L.length = 10 ^ (L.length - 1) * 10 := by rw [← Int.pow_succ]; congr 1; omega
    have h6 := pow_pos' (show (0 : Int) < 10 by decide) (L.length - 1)
    omega
structure Dgs (l L D : List Int) : Prop where
  dig : Dig 10 L
  tidy : Tidy L
  out : Dig 65536 D
  val : Bg.val 65536 D + 65536 ^ D.length * Bg.val 10 L = Bg.val 10 l
  last : L = [] → Tidy D
theorem Dgs.next {l L D L' : List Int} {r : Int} (h : Dgs l L D) (h0 : 0 < L.length) (dL : Dig 10 L') (tL : Tidy L') (hr : 0 ≤ r ∧ r < 65536) (hv : Bg.val 10 L = 65536 * Bg.val 10 L' + r) : Dgs l L' (D ++ [r]) := by
  refine ⟨dL, tL, h.out.app (Dig.one hr), ?_, ?_⟩
  · rw [val_snoc, List.length_append, ← h.val, hv]
    show _ + 65536 ^ (D.length + 1) * _ = _
    rw [Int.pow_succ, Int.mul_add, Int.mul_assoc]
    omega
  · intro e
    have h1 := val_ge (by decide) h.dig h.tidy (fun e => by rw [e] at h0; cases h0)
    have h2 := pow_pos' (show (0 : Int) < 10 by decide) (L.length - 1)
    rw [e] at hv
    have h3 : Bg.val 10 [] = 0 := rfl
    unfold Tidy
    rw [List.getLast?_concat]
    intro e2
    rw [Option.some.injEq] at e2
    omega
theorem Dgs.short {l L D : List Int} (h : Dgs l L D) (h0 : 0 < L.length) (hl : Dig 10 l) : D.length ≤ l.length := by
  have h1 := val_ge (by decide) h.dig h.tidy (fun e => by rw [e] at h0; cases h0)
  have h2 := pow_pos' (show (0 : Int) < 10 by decide) (L.length - 1)
  have h3 := val_nonneg (show (0 : Int) ≤ 65536 by decide) h.out
  have h4 := val_lt (show (0 : Int) < 10 by decide) hl
  have h5 := rpow_mono (show (0 : Int) ≤ 10 by decide) (show (10 : Int) ≤ 65536 by decide) l.length
  have h6 : (65536 : Int) ^ D.length * 1 ≤ 65536 ^ D.length * Bg.val 10 L := Int.mul_le_mul_of_nonneg_left (by omega) (Int.le_of_lt (pow_pos' (by decide) _))
  have h7 := h.val
  rcases Nat.lt_or_ge l.length D.length with h8 | h8
  · exfalso
    have := pow_le (show (1 : Int) ≤ 65536 by decide) (show l.length ≤ D.length by omega)
    omega
  · exact h8
set_option maxRecDepth 100000 in
set_option maxHeartbeats 4000000 in
theorem rdigits_at {w : World} {p : Option Addr} {c : Nat} {l : List Int} {s : Bool} (h : Arg .i64 w p c l) (hl : Dig 10 l) (ht : Tidy l) (hn : l.length ≤ 1000000) :
    Calls Tryd.prog 40 #[.agg #[.bool s, .slice p l.length c]] w fun e w' => ∃ v D, e = .returned v ∧ Own 52 .u16 w.heap.size w' v D ∧ Dig 65536 D ∧ Tidy D ∧ val 65536 D = val 10 l ∧ Below w.heap.size w w' := by
  obtain ⟨W, hW⟩ : ∃ W, W = w.alloc (.cells #[.bool s, .slice p l.length c] 28) := ⟨_, rfl⟩
  have hB : Below w.heap.size w W := by rw [hW]; exact (Below.refl _ _).alloc (Nat.le_refl _) _
  have hc : Box W w.heap.size (.bool s) (.slice p l.length c) := by rw [hW]; exact box_fresh 28 _ _ _ rfl
  have c0 := hc.c0
  have c1 := hc.c1
  have H := Lib.hid (And.intro (h.below hB) (And.intro hl (And.intro ht hB)))
  clear h hl ht hB hc
  go_enter Tryd.func40, Tryd.ntmps40
  go_wp2_with fail
  rw [← hW]
  clear hW
  go_loopw [3, 4, 5, 6] (fun v c4 s5 s6 wr => ∃ (q : Option Addr) (d : Nat) (L D : List Int), c4 = .slice q L.length d ∧ L.length ≤ l.length ∧ Hid (Dgs l L D ∧ Arg .i64 wr q d L ∧ Own 52 .u16 w.heap.size wr v D ∧ Below w.heap.size w wr)) (fun _ c4 _ _ _ => lenV c4)
  case atStart => exact ⟨p, c, l, [], rfl, Nat.le_refl _, ⟨H.out.2.1, H.out.2.2.1, Dig.nil, by simp [val], fun _ => by simp [Tidy]⟩, H.out.1, Own.nil _ _ _ _, H.out.2.2.2⟩
  case round =>
    obtain ⟨q, d, L, D, rfl, hLl, hS⟩ := hrel
    obtain ⟨v3, hv3⟩ : ∃ v3, v3 = u3 := ⟨_, rfl⟩
    rw [← hv3] at hS ⊢
    clear hv3
    by_cases h0 : 0 < L.length
    · have d1 : decide ((L.length : Int) > 0) = true := by rw [decide_eq_true_eq]; omega
      have T := Lib.hid (rhalves_at hS.out.2.1 hS.out.1.dig (by omega))
      have HD := Lib.hid (hS.out.1.short h0 H.out.2.1)
      go_wp2_with fail
      refine T.out.mono ?_
      rintro e w5 ⟨vL, L', r, rfl, oL, dL, tL, hr, hv, B5⟩
      obtain ⟨p5, c5, rfl, a5, hp5⟩ := oL.arg
      have hnx := hS.out.1.next h0 dL tL hr hv
      have hsh := shorter hS.out.1.dig dL tL hr.1 hv h0
      have oD := hS.out.2.2.1.below B5
      have hb := hS.out.2.2.2.trans (B5.mono hS.out.2.2.2.size)
      have hnl := HD.out
      obtain ⟨v6, w6, hr6, ho6, hg6, hb6⟩ := app_one kt16 (x := r) oD (by omega) hb.size
      have e1 : r % 65536 = r := by omega
      have e2 : IntKind.u16.wrap r = r := by rw [IntKind.wrap_u16]; exact e1
      have a6 : Arg .i64 w6 p5 c5 L' := by
        refine (a5.alloc (.cells #[.int .u16 r] 52)).kept hg6 (fun b o hb' => ?_)
        intro he
        have h1 := World.ownsRow.lt hS.out.2.2.1 b he.symm
        rcases hp5 with h | ⟨g, h, hg, -⟩
        · rw [h] at hb'; cases hb'
        · rw [h] at hb'; cases hb'; omega
      have HX := Lib.hid (And.intro hnx (And.intro ho6 (And.intro (hb.trans hb6) (And.intro a6 (And.intro hr6 hsh)))))
      clear oL dL tL hr hv B5 a5 hnx hsh oD hb hnl ho6 hb6 hr6 hg6 hp5 a6
      go_wp2_with (at_builtin; refine Lib.wpList_append_run _ rfl _ _ 22 22 rfl v3 (.slice (some ⟨w5.heap.size, 0, none⟩) 1 1) rfl rfl v6 w6 HX.out.2.2.2.2.1 ?_)
      go_roundw
      case rel => exact ⟨p5, c5, L', D ++ [r], rfl, by have := HX.out.2.2.2.2.2; omega, HX.out.1, HX.out.2.2.2.1, HX.out.2.1, HX.out.2.2.1⟩
      case measure => exact HX.out.2.2.2.2.2
    · have d1 : decide ((L.length : Int) > 0) = false := by rw [decide_eq_false_iff_not]; omega
      go_wp2_with fail
      go_ret
      have hL0 : L = [] := List.length_eq_zero_iff.1 (by omega)
      have hv := hS.out.1.val
      rw [hL0] at hv
      refine ⟨_, D, rfl, hS.out.2.2.1, hS.out.1.out, hS.out.1.last hL0, ?_, hS.out.2.2.2⟩
      have h3 : Bg.val 10 [] = 0 := rfl
      rw [h3, Int.mul_zero, Int.add_zero] at hv
      exact hv
end Go.Proofs.YtihgefllmkicaaaDoor
