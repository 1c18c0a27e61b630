/- The statement on which numbers are chars, walked. Conditions: the tables of Go's library lie. -/
import Derived.Test.YtbfikbojhmfdpaaDoorUtM
namespace Go.Proofs.YtbfikbojhmfdpaaDoor
open Go.RowKit Bg
set_option linter.unusedVariables false
set_option linter.unusedSimpArgs false


theorem cut_at {w : World} {p : Option Addr} {c : Nat} {l : List Int} (a : Arg .u8 w p c l) : Calls Tryd.prog 9 #[.slice p l.length c] w fun e w' => e = .returned (.slice p (l.take 2000).length c) ∧ w = w' := by
  have hle := a.le
  have hmx := a.max
  rw [List.length_take]
  clear a
  by_cases h : l.length ≤ 2000
  · have e1 : min 2000 l.length = l.length := Nat.min_eq_right h
    have e2 : min (l.length : Int) 2000 = l.length := by omega
    rw [e1]
    go_enter Tryd.func9, Tryd.ntmps9
    go_wp2_with fail
    go_ret
    exact ⟨rfl, rfl⟩
  · have e1 : min 2000 l.length = 2000 := Nat.min_eq_left (by omega)
    have e2 : min (l.length : Int) 2000 = 2000 := by omega
    rw [e1]
    go_enter Tryd.func9, Tryd.ntmps9
    go_wp2_with fail
    go_ret
    exact ⟨rfl, rfl⟩
theorem euro : isC 8364 = true := by decide
theorem enc_euro : enc 8364 = [226, 130, 172] := by decide
theorem pst_euro : pst 8364 = strOfNums [226, 130, 172] := by
  unfold pst
  rw [if_pos euro, enc_euro]
theorem pe_euro : pe 8364 = 0 := by
  unfold pe
  rw [if_pos euro]
set_option maxRecDepth 100000 in
set_option maxHeartbeats 4000000 in
theorem works_at {w : World} (ht : Tab w) : Calls Tryd.prog 16 #[] w fun e w' => e = .returned (.bool true) ∧ Below w.heap.size w w' := by
  have T1 := put_at 8364 w
  rw [pst_euro, pe_euro] at T1
  replace T1 := Lib.hid T1
  obtain ⟨c, w0, hcv, a0, b0⟩ := conv_str (l := [226, 130, 172]) (by intro x hx; simp at hx; omega) (by decide) w
  have hch : chr ([226, 130, 172] : List Int) = some (8364, 3) := by decide
  obtain ⟨g1, g2, g3⟩ := g_some (l := [226, 130, 172]) (k := 0) (by decide) hch
  have T2 := get_at a0 (by intro x hx; simp at hx; omega) (by decide) (ht.below b0) 0
  rw [show ((0 : Nat) : Int) = 0 from rfl] at g1 g2 g3
  rw [g1, g2, g3] at T2
  have i1 : isC 97 = true := by decide
  have i2 : isC 55296 = false := by decide
  have e3 : ([226, 130, 172] : List Int).length = 3 := rfl
  rw [e3] at hcv T2
  replace T2 := Lib.hid T2
  clear e3
  have hs : strOfNums [226, 130, 172] = { data := #[226, 130, 172] } := rfl
  rw [hs] at T1 hcv
  have H0 := Lib.hid b0
  clear a0 b0 hch g1 g2 g3 hs ht
  go_enter Tryd.func16, Tryd.ntmps16
  go_wp2_with (first
    | (go_at_call 10; refine T1.out.mono ?_; rintro e w' ⟨rfl, rfl⟩)
    | (go_at_call 12; refine T2.out.mono ?_; rintro e w1 ⟨rfl, hb⟩; replace hb := Lib.hid hb)
    | (go_at_call 14; refine (is_at _ _).mono ?_; rintro e w' ⟨rfl, rfl⟩))
  go_ret
  exact ⟨rfl, H0.out.trans (hb.out.mono H0.out.size)⟩

set_option maxRecDepth 100000 in
set_option maxHeartbeats 8000000 in
theorem chars_any {w : World} {p : Option Addr} {cap : Nat} {l : List Int} (c k : Int) (a : Arg .u8 w p cap l) (hb : Byts l) (ht : Tab w) :
    Calls Tryd.prog 3 #[.int .i64 c, .slice p l.length cap, .int .i64 k] w fun e w' => e = .returned (.bool true) ∧ Below w.heap.size w w' := by
  have T1 := Lib.hid (cut_at a)
  obtain ⟨m, hm⟩ : ∃ m, m = l.take 2000 := ⟨_, rfl⟩
  have hml : m.length ≤ 2000 := by rw [hm, List.length_take]; omega
  have H0 := Lib.hid (And.intro (hm ▸ a.take 2000) (And.intro (hm ▸ hb.take 2000) ht))
  rw [← hm] at T1
  have hle := a.le
  have hmx := a.max
  have HM := Lib.hid hml
  clear hm hml a hb ht
  go_enter Tryd.func3, Tryd.ntmps3
  go_wp2_with fail
  refine T1.out.mono ?_
  rintro e w' ⟨rfl, rfl⟩
  go_wp2_with fail
  refine (put_at c w).mono ?_
  rintro e w' ⟨rfl, rfl⟩
  go_wp2_with fail
  refine (rput_at c w).mono ?_
  rintro e w1 ⟨rfl, b1⟩
  replace b1 := Lib.hid b1
  go_wp2_with fail
  refine (get_at (H0.out.1.below b1.out) H0.out.2.1 (by have := HM.out; omega) (H0.out.2.2.below b1.out) k).mono ?_
  rintro e w2 ⟨rfl, b2⟩
  replace b2 := Lib.hid (b1.out.trans (b2.mono b1.out.size))
  go_wp2_with fail
  refine (rget_at (H0.out.1.below b2.out) H0.out.2.1 (by have := HM.out; omega) k).mono ?_
  rintro e w3 ⟨rfl, b3⟩
  replace b3 := Lib.hid (b2.out.trans (b3.mono b2.out.size))
  go_wp2_with (first
    | (go_at_call 14; refine (is_at _ _).mono ?_; rintro e w' ⟨rfl, rfl⟩)
    | (go_at_call 15; refine (ris_at _ _).mono ?_; rintro e w' ⟨rfl, rfl⟩)
    | (go_at_call 16; refine (works_at (H0.out.2.2.below b3.out)).mono ?_; rintro e w4 ⟨rfl, b4⟩; replace b4 := Lib.hid (b3.out.trans (b4.mono b3.out.size))))
  all_goals go_ret
  all_goals exact ⟨rfl, b4.out⟩
end Go.Proofs.YtbfikbojhmfdpaaDoor
