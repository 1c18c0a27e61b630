/- Contracts: differences of numbers. Conditions: the digits lie as told. -/
import Derived.Test.YtihgefllmkicaaaDoorBgS
namespace Go.Proofs.YtihgefllmkicaaaDoor
open Go.RowKit Bg
set_option linter.unusedVariables false
set_option linter.unusedSimpArgs false


theorem nv_neg (B : Int) (s : Bool) (l : List Int) : nv B (!s) l = -nv B s l := by
  unfold nv
  cases s <;> simp
set_option maxRecDepth 100000 in
set_option maxHeartbeats 4000000 in
theorem sub_at {w : World} {p p' : Option Addr} {c c' : Nat} {l l' : List Int} {s s' : Bool} (a1 : Arg .u16 w p c l) (a2 : Arg .u16 w p' c' l') (d1 : Dig 65536 l) (d2 : Dig 65536 l') (n1 : l.length ≤ 100000) (n2 : l'.length ≤ 100000) :
    Calls Tryd.prog 25 #[.agg #[.bool s, .slice p l.length c], .agg #[.bool s', .slice p' l'.length c']] w fun e w' => ∃ v, e = .returned v ∧ IsNum w.heap.size w' v (nv 65536 s l - nv 65536 s' l') ∧ Below w.heap.size w w' := by
  obtain ⟨W, hW, hB, hS, h0, h1, h2⟩ := three_boxes w (.bool s) (.slice p l.length c) (.bool s') (.slice p' l'.length c') (.bool false) (.slice none 0 0)
  have T1 := Lib.hid (bigAdd_at (s := s) (s' := !s') (a1.below hB) (a2.below hB) d1 d2 n1 n2)
  have HX := Lib.hid (And.intro (Box.of h2) (And.intro hB hS))
  clear a1 a2 d1 d2 n1 n2 hB hS h0 h1 h2
  go_enter Tryd.func25, Tryd.ntmps25
  go_wp2_with fail
  rw [← hW]
  refine T1.out.mono ?_
  rintro e w1 ⟨v, rfl, hv, B1⟩
  obtain ⟨sg, sv, D, rfl, oD, cD, vD⟩ := hv
  obtain ⟨p3, c3, rfl, -, -⟩ := oD.arg
  have hx := HX.out.1.below B1
  have k7 := Box.first hx (.bool sg)
  have k6 := (hx.store (.bool sg) (.slice p3 D.length c3)).2
  obtain ⟨r0, r1, r2, r3⟩ := hx
  have HH := Lib.hid (And.intro oD (And.intro cD (And.intro vD B1)))
  clear oD cD vD B1 hW
  go_wp2_with fail
  refine bodyPost_ret (v := .agg #[.bool sg, .slice p3 D.length c3]) (by simp [results, Tryd.results25, go_sem, k6, k7]) rfl ⟨_, rfl, ?_, ?_⟩
  · have hz := HX.out.2.2
    have hlt : w.heap.size + 2 < W.heap.size := by omega
    have hn : (Value.slice p3 D.length c3).ownBlock ≠ some (w.heap.size + 2) := by
      intro e
      have := (World.ownsRow.lt HH.out.1 _ e).1
      omega
    refine ⟨sg, _, D, rfl, ((HH.out.1.other (a := ⟨w.heap.size + 2, 0, none⟩) _ hn).other (a := ⟨w.heap.size + 2, 1, none⟩) _ hn).base (by omega), HH.out.2.1, ?_⟩
    rw [HH.out.2.2.1, nv_neg]
    omega
  · have h2 := HX.out.2.1.trans (HH.out.2.2.2.mono HX.out.2.1.size)
    have hb2 : w.heap.size ≤ w.heap.size + 2 := by omega
    exact (h2.setCell (p := ⟨w.heap.size + 2, 0, none⟩) hb2 _).setCell (p := ⟨w.heap.size + 2, 1, none⟩) hb2 _
end Go.Proofs.YtihgefllmkicaaaDoor
