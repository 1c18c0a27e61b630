/- Contracts: the number that a text names. Conditions: the text names one. -/
import Derived.Test.YtihgefllmkicaaaDoorBaD
namespace Go.Proofs.YtihgefllmkicaaaDoor
open Go.RowKit Bg
set_option linter.unusedVariables false
set_option linter.unusedSimpArgs false


def pVal (s : ByteArray) : Int := if pNeg s = true then - decv (byL (pBody s)) else decv (byL (pBody s))
set_option maxRecDepth 100000 in
set_option maxHeartbeats 4000000 in
theorem num_at (s : ByteArray) (hs : s.size ≤ 300) (hd : isDec (pBody s) = true) (w : World) : Calls Tryd.prog 34 #[.string s] w fun e w' => ∃ v, e = .returned v ∧ IsNum w.heap.size w' v (pVal s) ∧ Below w.heap.size w w' := by
  obtain ⟨W, hW⟩ : ∃ W, W = w.alloc (.cells #[.bool false, .slice none 0 0] 24) := ⟨_, rfl⟩
  have hB : Below w.heap.size w W := by rw [hW]; exact (Below.refl _ _).alloc (Nat.le_refl _) _
  have hx : Box W w.heap.size (.bool false) (.slice none 0 0) := by rw [hW]; exact Box.fresh _ _ _ rfl
  have hS : W.heap.size = w.heap.size + 1 := by rw [hW]; simp
  have HH := Lib.hid (And.intro hB (And.intro hx (And.intro hS hd)))
  clear hB hx hS hd
  go_enter Tryd.func34, Tryd.ntmps34
  go_wp2_with fail
  rw [← hW]
  clear hW
  refine (parse_at s hs W).mono ?_
  rintro e w2 ⟨h, B2⟩
  rcases h with ⟨-, v, rfl, hn⟩ | ⟨h, -⟩
  · obtain ⟨sg, sv, D, rfl, oD, cD, vD⟩ := hn
    obtain ⟨p, c, rfl, -, -⟩ := oD.arg
    have hx2 := HH.out.2.1.below B2
    have hy := Box.fresh w2 (.bool false) (.slice none 0 0) (n := w2.heap.size) rfl
    have hy1 := Box.fresh w2 (.bool sg) (.slice none 0 0) (n := w2.heap.size) rfl
    have hne : w.heap.size ≠ w2.heap.size := by have := B2.size; have := HH.out.2.2.1; omega
    have hf0 := hy.f0
    have hf1 := hy1.f1
    have hc0 := hy.c0
    have hc1 := hy1.c1
    have hx4 : Box (w2.alloc (.cells #[.bool sg, .slice p D.length c] 24)) w.heap.size (.bool false) (.slice none 0 0) := hx2.alloc _
    have hB4 : Below w2.heap.size w2 (w2.alloc (.cells #[.bool sg, .slice p D.length c] 24)) := (Below.refl _ _).alloc (Nat.le_refl _) _
    have gf0 := hx4.f0
    have gf1 := hx4.f1
    have gc0 := hx4.c0
    have gc1 := hx4.c1
    have k7 := hx4.first (.bool sg)
    have k6 := (hx4.store (.bool sg) (.slice p D.length c)).2
    have H4 := Lib.hid (And.intro oD (And.intro cD (And.intro vD (And.intro B2 (And.intro hne hB4)))))
    clear hx2 hy hy1 oD cD vD B2 hne hB4 hx4
    go_wp2_with fail
    refine bodyPost_ret (v := .agg #[.bool sg, .slice p D.length c]) (by simp [results, Tryd.results34, go_sem, k6, k7]) rfl ⟨_, rfl, ?_, ?_⟩
    · obtain ⟨oD, cD, vD, B2, hne, hB4⟩ := H4.out
      have hS := HH.out.2.2.1
      have hn4 : ∀ e, Value.ownBlock (.slice p D.length c) = some e → e ≠ w.heap.size := fun e he h => by have := (World.ownsRow.lt oD _ he).1; omega
      exact ⟨sg, _, D, rfl, (((oD.below hB4).other (a := ⟨w.heap.size, 0, none⟩) _ (fun h => hn4 _ h rfl)).other (a := ⟨w.heap.size, 1, none⟩) _ (fun h => hn4 _ h rfl)).base (by omega), cD, vD⟩
    · have h2 := HH.out.1.trans (H4.out.2.2.2.1.mono HH.out.1.size)
      have h3 := h2.trans (H4.out.2.2.2.2.2.mono h2.size)
      exact (h3.setCell (p := ⟨w.heap.size, 0, none⟩) (Nat.le_refl _) _).setCell (p := ⟨w.heap.size, 1, none⟩) (Nat.le_refl _) _
  · have := HH.out.2.2.2; rw [h] at this; cases this
end Go.Proofs.YtihgefllmkicaaaDoor
