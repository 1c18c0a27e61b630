/- Contracts: the halves of a row added up. Conditions: the row lies as told. -/
import Derived.Test.YtihgefllmkicaaaDoorBgG
import Derived.Lib.AppendZeros
namespace Go.Proofs.YtihgefllmkicaaaDoor
open Go.RowKit Bg
set_option linter.unusedVariables false
set_option linter.unusedSimpArgs false


set_option maxRecDepth 100000 in
set_option maxHeartbeats 2000000 in
theorem folded_at {w : World} {p : Option Addr} {c h : Nat} {l : List Int} (ha : Arg .u64 w p c l) (hd : Dig M64 l) (hn : l.length ≤ 10000000) (hh : l.length ≤ 2 * h) (hl : h < l.length) (h0 : 0 < h) :
    Calls Tryd.prog 85 #[.slice p l.length c, .int .i64 h] w fun e w' => ∃ v f, e = .returned v ∧ Own 66 .u64 w.heap.size w' v f ∧ f.length = h ∧ Dig M64 f ∧ Eqm (cf f) (fun k => cf (l.take h) k + cf (l.drop h) k) ∧ Below w.heap.size w w' := by
  have hle := ha.le
  have hmx := ha.max
  have hlt : (l.take h).length = h := by rw [List.length_take]; omega
  obtain ⟨b, off, rfl, -⟩ := ha.at (by omega)
  have hat := ha.take h
  obtain ⟨v, w1, hr, ho, -, hb⟩ := app_row kt64 (Own.nil 66 .u64 w.heap.size w) hat (by rw [hlt]; simp; omega) (Nat.le_refl _)
  rw [hlt] at hr
  rw [List.nil_append] at ho
  obtain ⟨g, cap, rfl, hg1, hg2, hg3, hg4⟩ := ho.at (by omega)
  rw [hlt] at ho hg3 hr
  have had := ha.drop (Nat.le_of_lt hl)
  have hdl : (l.drop h).length = l.length - h := List.length_drop
  have e0 : (some (⟨b, off, none⟩ : Addr)).map (fun a => a.add h) = some ⟨b, off + h, none⟩ := congrArg some (add_at b off h)
  rw [e0] at had
  have hbl : b < w.heap.size := by
    obtain ⟨b', off', hp, hc⟩ := ha.cell 0 (by omega)
    cases hp
    exact World.block_lt_of_cell? w _ hc
  have hadd := addTimes_at ho (had.below hb) (off := 0) (m := h) (cp := cap) (x := 1) (fun b' o' he => by cases he; intro e; cases e; omega) (hd.take h) (hd.drop h) (by unfold M64; decide) (by rw [hlt, hdl]; omega) (by rw [hdl]; omega) hg4 (by rw [hlt]; omega)
  have hsum := addL_eqm (S := l.take h) (A := l.drop h) (off := 0) (n := 1) (by rw [hlt, hdl]; omega)
  have hlen := addL_len (l.take h) 0 (l.drop h) 1
  have hdg := addL_dig (A := l.drop h) (off := 0) (n := 1) (hd.take h)
  rw [hdl] at hadd
  obtain ⟨F, hF⟩ : ∃ F, F = addL (l.take h) 0 (l.drop h) 1 := ⟨_, rfl⟩
  rw [← hF] at hadd hsum hlen hdg
  have HA := Lib.hid hadd
  have HS := Lib.hid (And.intro hsum (And.intro hlen (And.intro hdg (And.intro hb (And.intro hg1 hlt)))))
  clear hadd hsum hlen hdg hF had hat ha ho hb hd hdl hlt e0
  have HR := Lib.hid hr
  clear hr
  have f1 : (h : Int) ≤ c := by omega
  have f4 : ¬ c = h := by omega
  have f2 : (h : Int) ≤ (l.length : Int) := by omega
  have f3 : ((l.length : Int) - h).toNat = l.length - h := by omega
  go_enter Tryd.func85, Tryd.ntmps85
  go_wp2_with (first
    | (at_builtin; refine Lib.wpList_append_run _ rfl _ _ 71 71 rfl (.slice none 0 0) (.slice (some ⟨b, off, none⟩) h c) rfl rfl (.slice (some ⟨g, 0, none⟩) h cap) w1 HR.out ?_)
    | (go_at_call 78; refine HA.out.mono ?_; rintro e w' ⟨rfl, h1, h2⟩))
  go_ret
  have hg : w.heap.size ≤ g := HS.out.2.2.2.2.1
  have hsum : Eqm (cf F) (fun k => cf (l.take h) k + cf (l.drop h) k) := HS.out.1.trans (Eqm.of_eq fun k => by show cf (l.take h) k + 1 * sh 0 (cf (l.drop h)) k = cf (l.take h) k + cf (l.drop h) k; rw [sh_zero]; omega)
  exact ⟨_, F, rfl, h1, by rw [HS.out.2.1]; exact HS.out.2.2.2.2.2, HS.out.2.2.1, hsum, HS.out.2.2.2.1.grown h2 HS.out.2.2.2.1.size (fun q hq => by cases hq; exact hg)⟩
end Go.Proofs.YtihgefllmkicaaaDoor
