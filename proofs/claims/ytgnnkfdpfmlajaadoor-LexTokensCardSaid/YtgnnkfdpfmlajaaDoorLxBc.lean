/- Contracts: a char of a string. Conditions: none. -/
import Derived.Test.YtgnnkfdpfmlajaaDoorLxBb
import Derived.Test.YtgnnkfdpfmlajaaDoorLxY
namespace Go.Proofs.YtgnnkfdpfmlajaaDoor
open Go.RowKit Bg Lx
set_option linter.unusedVariables false
set_option linter.unusedSimpArgs false

theorem drop_getD (l : List Int) (k j : Nat) : (l.drop k).getD j 0 = l.getD (k + j) 0 := by
  rw [List.getD_eq_getElem?_getD, List.getD_eq_getElem?_getD, List.getElem?_drop]
set_option maxRecDepth 100000 in
set_option maxHeartbeats 8000000 in
theorem tchar_at {s : Sit} {k0 : Nat} {ts : List Tk} {w : World} (h : St s k0 ts w) {k : Nat} (hk : k < s.l.length) (h92 : s.l.getD k 0 = 92 → k + 1 < s.l.length) :
    Calls Tryd.prog 48 #[.pointer (some ⟨s.b, 0, none⟩), .int .i64 (k : Int)] w fun e w' => EscIs (tch (s.l.drop k)) e ∧ Below w.heap.size w w' := by
  have c0 := h.cell.1
  have hlen := h.len
  have a := h.src
  have hle := a.le
  obtain ⟨b, off, hp, hcell⟩ := a.at (by omega)
  have hg := hcell k hk
  rw [hp] at c0 a
  have f1 : (k : Int) < (s.l.length : Int) := by omega
  have f2 : (k : Int) ≤ (s.l.length : Int) := by omega
  have f5 : ¬ s.c = k := by omega
  have hd0 : (s.l.drop k).getD 0 0 = s.l.getD k 0 := drop_head _ _
  unfold tch
  rw [hd0]
  obtain ⟨x, hx⟩ : ∃ x, x = s.l.getD k 0 := ⟨_, rfl⟩
  rw [← hx] at hg h92 ⊢
  by_cases x92 : x = 92
  · have h1 := h92 x92
    rw [if_pos x92]
    have a2 := a.drop (n := k) (by omega)
    have e : (Option.map (fun x : Addr => x.add k) (some ⟨b, off, none⟩)) = some ⟨b, off + k, none⟩ := congrArg some (add_at b off k)
    rw [e] at a2
    have T := pesc_at a2 (h.byts.drop k) (by rw [List.length_drop]; omega) (by rw [List.length_drop]; omega)
    rw [List.length_drop] at T
    obtain ⟨o, ho⟩ : ∃ o, o = escO (s.l.drop k) := ⟨_, rfl⟩
    rw [← ho] at T ⊢
    subst x92
    replace T := Lib.hid T
    clear a a2 e h hp hcell hx hd0 ho h92
    go_enter Tryd.func48, Tryd.ntmps48
    go_wp2_with fail
    refine T.out.mono ?_
    rintro e w' ⟨he, rfl⟩
    cases o with
    | none =>
      have he' : e = .returned (.tuple #[.int .i32 0, .int .i64 0]) := he
      subst he'
      go_wp2_with fail
      go_ret2
      exact ⟨escIs_no rfl, Below.refl _ _⟩
    | some v =>
      obtain ⟨v, n⟩ := v
      have he' : e = .returned (.tuple #[.int .i32 v, .int .i64 n]) := he
      subst he'
      go_wp2_with fail
      go_ret2
      exact ⟨escIs_yes rfl rfl, Below.refl _ _⟩
  · rw [if_neg x92]
    have y1 : (x == 92) = false := by rw [beq_eq_false_iff_ne]; exact x92
    have T := get_at h.src h.byts (by omega) h.tabs (k : Int)
    rw [hp] at T
    cases hc : chr (s.l.drop k) with
    | none =>
      obtain ⟨e1, e2, e3⟩ := g_none hk hc
      rw [e1, e2, e3] at T
      replace T := Lib.hid T
      clear a h hp hcell hx hd0 hc e1 e2 e3 h92
      go_enter Tryd.func48, Tryd.ntmps48
      go_wp2_with (go_at_call 58; refine T.out.mono ?_; rintro e w' ⟨rfl, BB⟩; replace BB := Lib.hid BB)
      go_ret2
      exact ⟨escIs_no rfl, BB.out⟩
    | some v =>
      obtain ⟨ch, n⟩ := v
      obtain ⟨e1, e2, e3⟩ := g_some hk hc
      have hi := isC_iff.1 (chr_some (h.byts.drop k) hc).1
      have hw := wrap32_id (c := ch) (by omega)
      rw [e1, e2, e3] at T
      replace T := Lib.hid T
      clear a h hp hcell hx hd0 hc e1 e2 e3 h92
      go_enter Tryd.func48, Tryd.ntmps48
      go_wp2_with (go_at_call 58; refine T.out.mono ?_; rintro e w' ⟨rfl, BB⟩; replace BB := Lib.hid BB)
      go_ret2
      exact ⟨escIs_yes rfl rfl, BB.out⟩
end Go.Proofs.YtgnnkfdpfmlajaaDoor
