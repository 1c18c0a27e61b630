/- Contracts: chars. Conditions: none. -/
import Derived.Test.YtgnnkfdpfmlajaaDoorLxBg
namespace Go.Proofs.YtgnnkfdpfmlajaaDoor
open Go.RowKit Bg Lx
set_option linter.unusedVariables false
set_option linter.unusedSimpArgs false

/-- The char that a char and a run behind it stand for. -/
def charO (c : Int) (r : List Int) : Option Int :=
  if r = [] then some c
  else if enc c ++ r = [115, 112, 97, 99, 101] then some 32
  else if enc c ++ r = [110, 101, 119, 108, 105, 110, 101] then some 10
  else if enc c ++ r = [116, 97, 98] then some 9
  else if c = 120 then hexO r else none
theorem chl_none {R : List Int} (h : chr R = none) : chl R = none := by unfold chl; simp only [h]
theorem chl_some {R : List Int} (hb : Byts R) {c : Int} {n : Nat} (h : chr R = some (c, n)) : chl R = (charO c (run (R.drop n))).map fun v => (v, n + (run (R.drop n)).length) := by
  obtain ⟨h1, h2, h3⟩ := chr_some hb h
  obtain ⟨r, hr⟩ : ∃ r, r = run (R.drop n) := ⟨_, rfl⟩
  have ht : R.take (n + r.length) = enc c ++ r := by
    have e : r = (R.drop n).take r.length := by rw [hr]; exact run_is _
    conv => rhs; rw [e]
    conv => lhs; rw [← h3]
    rw [h2, List.take_append, List.take_of_length_le (by omega)]
    rw [show (enc c).length + r.length - (enc c).length = r.length by omega]
  unfold chl charO
  simp only [h, ← hr, ht]
  by_cases a0 : r = []
  · rw [if_pos a0, if_pos a0, a0]; rfl
  rw [if_neg a0, if_neg a0]
  by_cases a1 : enc c ++ r = [115, 112, 97, 99, 101]
  · rw [if_pos a1, if_pos a1]; rfl
  rw [if_neg a1, if_neg a1]
  by_cases a2 : enc c ++ r = [110, 101, 119, 108, 105, 110, 101]
  · rw [if_pos a2, if_pos a2]; rfl
  rw [if_neg a2, if_neg a2]
  by_cases a3 : enc c ++ r = [116, 97, 98]
  · rw [if_pos a3, if_pos a3]; rfl
  rw [if_neg a3, if_neg a3]
  unfold hexO
  by_cases a4 : c = 120
  · rw [if_pos a4]
    by_cases a5 : 0 ≤ hexL r
    · rw [if_pos ⟨a4, a5⟩, if_pos a5]; rfl
    · rw [if_neg (fun x => a5 x.2), if_neg a5]; rfl
  · rw [if_neg (fun x => a4 x.1), if_neg a4]; rfl
set_option maxRecDepth 100000 in
set_option maxHeartbeats 8000000 in
theorem charOf_at {w : World} {q : Option Addr} {c' : Nat} {c : Int} {r : List Int} (a : Arg .u8 w q c' r) (hb : Byts r) (hl : r.length ≤ 1000000) (hc : isC c = true) :
    Calls Tryd.prog 61 #[.int .i32 c, .slice q r.length c'] w fun e w' => HexIs (charO c r) e ∧ w = w' := by
  have T := phex_at a hb hl
  have hcv := conv_arg a
  have hI := isC_iff.1 hc
  have hsz := str_size r
  have hE := utf_enc hc
  have hA : Byts (enc c ++ r) := (Byts.enc c).app hb
  have t1 := lit_eq (B := [115, 112, 97, 99, 101]) hA [115, 112, 97, 99, 101] rfl
  have t2 := lit_eq (B := [110, 101, 119, 108, 105, 110, 101]) hA [110, 101, 119, 108, 105, 110, 101] rfl
  have t3 := lit_eq (B := [116, 97, 98]) hA [116, 97, 98] rfl
  rw [← str_app, ← hE] at t1 t2 t3
  have hel := enc_len c
  have hez : (Utf8.encode c).size = (enc c).length := by rw [hE]; exact str_size _
  obtain ⟨E, hEE⟩ : ∃ E, E = Utf8.encode c := ⟨_, rfl⟩
  by_cases h0 : r = []
  · have hv : charO c r = some c := by unfold charO; rw [if_pos h0]
    rw [hv, h0]
    clear T hcv hsz hE t1 t2 t3 hez hEE
    go_enter Tryd.func61, Tryd.ntmps61
    go_wp2_with fail
    go_ret2
    exact ⟨hexIs_yes rfl, rfl⟩
  have hp := List.length_pos_iff.2 h0
  have g0 : ((r.length : Int) == 0) = false := by rw [beq_eq_false_iff_ne]; omega
  have g1 : ¬ (r.length : Int) = 0 := by omega
  obtain ⟨V, hV⟩ : ∃ V, V = charO c r := ⟨_, rfl⟩
  rw [← hV]
  unfold charO at hV
  rw [if_neg h0] at hV
  have g2 : ¬ 9223372036854775807 < (Utf8.encode c).size + (strOfNums r).size := by omega
  have HV := Lib.hid hV
  clear hE hez hsz hA hEE hV
  obtain ⟨S, hS⟩ : ∃ S, S = strOfNums r := ⟨_, rfl⟩
  rw [← hS] at t1 t2 t3 hcv g2
  clear hS
  by_cases h1 : enc c ++ r = [115, 112, 97, 99, 101]
  · rw [decide_eq_true h1] at t1
    have hv := HV.out
    rw [if_pos h1] at hv
    clear h1 T
    go_enter Tryd.func61, Tryd.ntmps61
    go_wp2_with fail
    go_ret2
    exact ⟨hexIs_yes hv, rfl⟩
  rw [decide_eq_false h1] at t1
  by_cases h2 : enc c ++ r = [110, 101, 119, 108, 105, 110, 101]
  · rw [decide_eq_true h2] at t2
    have hv := HV.out
    rw [if_neg h1, if_pos h2] at hv
    clear h1 h2 T
    go_enter Tryd.func61, Tryd.ntmps61
    go_wp2_with fail
    go_ret2
    exact ⟨hexIs_yes hv, rfl⟩
  rw [decide_eq_false h2] at t2
  by_cases h3 : enc c ++ r = [116, 97, 98]
  · rw [decide_eq_true h3] at t3
    have hv := HV.out
    rw [if_neg h1, if_neg h2, if_pos h3] at hv
    clear h1 h2 h3 T
    go_enter Tryd.func61, Tryd.ntmps61
    go_wp2_with fail
    go_ret2
    exact ⟨hexIs_yes hv, rfl⟩
  rw [decide_eq_false h3] at t3
  have hv := HV.out
  rw [if_neg h1, if_neg h2, if_neg h3] at hv
  by_cases h4 : c = 120
  · subst h4
    rw [if_pos rfl] at hv
    rw [← hv] at T
    replace T := Lib.hid T
    clear h1 h2 h3 hv HV
    go_enter Tryd.func61, Tryd.ntmps61
    go_wp2_with fail
    refine T.out.mono ?_
    rintro e w' ⟨he, rfl⟩
    cases V with
    | none =>
      obtain ⟨x, rfl⟩ := he
      go_wp2_with fail
      go_ret2
      exact ⟨hexIs_no rfl, rfl⟩
    | some v =>
      have he' : e = .returned (.tuple #[.int .i32 v, .bool true]) := he
      subst he'
      go_wp2_with fail
      go_ret2
      exact ⟨hexIs_yes rfl, rfl⟩
  · rw [if_neg h4] at hv
    have g4 : (c == 120) = false := by rw [beq_eq_false_iff_ne]; exact h4
    have g5 : (c != 120) = true := by rw [bne, g4]; rfl
    have Hv := Lib.hid hv
    clear h1 h2 h3 hv HV T
    go_enter Tryd.func61, Tryd.ntmps61
    go_wp2_with fail
    go_ret2
    exact ⟨hexIs_no Hv.out, rfl⟩
end Go.Proofs.YtgnnkfdpfmlajaaDoor
