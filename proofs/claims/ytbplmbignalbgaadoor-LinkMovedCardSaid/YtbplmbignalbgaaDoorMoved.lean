/- An object that names no others' labels stands in the image as it would alone: LinkMoved, for any two lists of items and every base. Conditions: the row's own. -/
import Derived.Test.YtbplmbignalbgaaDoorAsCa
import Derived.Test.YtbplmbignalbgaaDoorAsCb
import Derived.Test.YtbplmbignalbgaaDoorLiSz
import Derived.Test.YtbplmbignalbgaaDoorLiZ
import Derived.Test.YtbplmbignalbgaaDoorCards
import Derived.Test.YtbplmbignalbgaaDoorTie
import Derived.SevenTiedAt
namespace Go.Proofs.YtbplmbignalbgaaDoor
open Go.ChangeShapes Go.WideShapes Go.ChangeAt Go.RowKit
open Go.ChangeMaps (open_string shut_string)

set_option maxRecDepth 100000 in
theorem moved_lifted (os : Os) (started : os.Started) (H : Type) (enc : TypeId × Value → H) :
    ReturnsInHanded {} Tryd.checked os 5 .any (fun w args => (Rows.linkMovedSpec.pre enc Tryd.prog Tryd.f5 [] false w args ∧ laidMetH Tryd.prog laidAll w) ∧ sizedMet enc Tryd.prog Tryd.f5 (OpenSpec.ofChange Rows.linkMovedSpec) false w args)
      (Rows.linkMovedSpec.post enc Tryd.prog Tryd.f5 false true false false) := by
  refine returnsInHanded_of_calls (C := Tryd.checked) own started (by kernel_rfl)
    (ChangeSpec.witness_shaped (enc := enc) (C := Tryd.checked) (os := os) (X := fun w _ => laidMetH Tryd.prog laidAll w) false (World.doorLaid Tryd.prog 99 os) #[.slice none 0 0, .slice none 0 0, .int .u16 0] 8 rfl (World.shaped_of_RefB (by kernel_rfl) (by kernel_rfl)) (by kernel_rfl) (by kernel_rfl) (by kernel_rfl) (door_met os _)) ?_
  intro w tape i _ _ _ hok hpre _
  obtain ⟨_, _, _, fn', hfn', _, _, _, _, hval0⟩ := hok
  obtain rfl : fn' = Tryd.f5 := Option.some.inj (hfn'.symm.trans Tryd.func5)
  obtain ⟨⟨⟨ds, gs, before, hW0, _⟩, hx⟩, ⟨_, ds2, gs2, before2, hS0, hw2⟩⟩ := hpre
  have hS := DataW.Whole.of_heap (w' := w.forCall tape i) (by rfl) hS0
  have hW := DataW.Whole.of_heap (w' := w.forCall tape i) (by rfl) hW0
  have hE : Env (w.forCall tape i) := env_of_laid (hx.of_heap (by rfl))
  obtain ⟨W, hWe⟩ : ∃ W, W = w.forCall tape i := ⟨_, rfl⟩
  rw [← hWe] at hW hE hval0 hS ⊢
  obtain ⟨args, hargs⟩ : ∃ args, args = i.args := ⟨_, rfl⟩
  rw [← hargs] at hW hval0 hS ⊢
  have hval : ∀ (j : Nat) t v, Tryd.f5.params[j]? = some t → args[j]? = some v → Value.okWide Tryd.prog W .any w.heap.size t v := hval0
  have hW' := hW
  obtain ⟨p, q, hA0, hV, rfl, _, _⟩ := hW
  have hA : DataW.TrodAll enc Tryd.prog W 0 (fun _ => true) true Tryd.f5.params.toList args.toList ds p := hA0
  obtain ⟨p2, q2, hS2, _, _, _, _⟩ := hS
  have hS3 : DataW.TrodAll enc Tryd.prog W 0 (fun _ => true) true Tryd.f5.params.toList args.toList ds2 p2 := hS2
  rw [Tryd.params5] at hA hval hS3 hw2
  clear hargs hWe hA0 hval0 hfn' hW0 hS0 hS2
  obtain ⟨u0, u1, u2, d0, d1, d2, p0, p1, p2, rfl, rfl, rfl, h0, h1, h2⟩ := trodAll_three hA
  obtain ⟨rfl, rfl⟩ := trodVars_none hV
  obtain ⟨v0, v1, v2, e0, e1, e2, r0, r1, r2, ha2, hd2, hp2, s0, s1, s2⟩ := trodAll_three hS3
  simp only [Array.mk.injEq, List.cons.injEq, and_true] at ha2
  obtain ⟨rfl, rfl, rfl⟩ := ha2
  subst hd2
  have hwa : ∀ m, m ∈ e0.weights Tryd.prog 25 → m ≤ reachBytes := fun m hm => by
    have := (List.all_eq_true.1 hw2) m (List.mem_append_left _ hm)
    simpa using this
  have hwb : ∀ m, m ∈ e1.weights Tryd.prog 25 → m ≤ reachBytes := fun m hm => by
    have := (List.all_eq_true.1 hw2) m (List.mem_append_right _ (List.mem_append_left _ hm))
    simpa using this
  obtain ⟨pi, na, ca, Xa, rfl, ia⟩ := items_open (hval 0 25 u0 rfl rfl) h0
  obtain ⟨pj, nb, cb, Xb, rfl, ib⟩ := items_open (hval 1 25 u1 rfl rfl) h1
  obtain ⟨n0, rfl, rfl, rfl, wn⟩ := open_int Tryd.underlying52 (hval 2 52 u2 rfl rfl) h2
  have la := items_sized s0 hwa ia
  have lb := items_sized s1 hwb ib
  simp only [List.append_nil] at hW'
  refine (moved_any ia ib la lb n0 (bounds_u16 wn) hE).mono fun e W' ⟨he, hb⟩ => ?_
  subst he
  refine ChangeSpec.post_blind ?_
  refine ⟨_, _, _, [], p0 ++ (p1 ++ []), [], hW', ?_, ?_, rfl, hb.frame _, fun h => by cases h⟩
  · exact trodAll_mk1 (shut_bool Tryd.underlying4 true)
  · exact trodAll_mk3 (Below.trod laidOut readable22 row22 h0 hb (fun x hx => by simpa using hW'.lt x (by simp [hx]))) (Below.trod laidOut readable22 row22 h1 hb (fun x hx => by simpa using hW'.lt x (by simp [hx]))) (shut_int Tryd.underlying52 wn)

theorem moved_said : Rows.LinkMovedSaid :=
  OpenClaim.holds_of_wide 5 Tryd.f5 rfl rfl rfl rfl rfl rfl rfl ⟨rfl, rfl, rfl, rfl, rfl⟩ rfl rfl rfl rfl rfl (by kernel_rfl) Tryd.func5 (by kernel_rfl)
    (of_decide_eq_true (by kernel_rfl)) (by unfold Func.isWrapper; first | (rw [if_pos (by decide +kernel)]; kernel_rfl) | (rw [if_neg (by decide +kernel)]; exact ⟨rfl, rfl⟩))
    (fun os started H enc _ => moved_lifted os started H enc)

/-- The row, tied to the program's text. -/
theorem moved_card : Rows.LinkMovedCardSaid :=
  Claim7.holds_tied_plain_at .later [] [.data] true (true, "8541fa7dd50b458fce19d5d5b08e9a1807afd56540cdbc28dab96fee6cc60d97") false
    moved_said (fun _ h => by cases h) (by kernel_rfl) (fun _ h => by cases h) linkMoved_row_tie rfl ⟨rfl, rfl⟩ (by kernel_rfl) rfl
    (fun f fn hf hfn => by
      obtain rfl : f = 5 := Option.some.inj ((show Tryd.prog.funcNamed "pennant/pennantlaw04.LinkMoved" = some 5 by kernel_rfl).symm.trans hf) |>.symm
      obtain rfl : fn = Tryd.f5 := (Option.some.inj (Tryd.func5.symm.trans hfn)).symm
      exact ⟨by kernel_rfl, fun j t ht => by
        rw [Tryd.params5] at ht
        have hm : t ∈ [25, 25, 52] := by simpa using Array.mem_of_getElem? ht
        have hall : ([25, 25, 52].all fun u => !Tryd.prog.wantsStandIn u) = true := by kernel_rfl
        exact (show Tryd.prog.wantsStandIn t = false by simpa using List.all_eq_true.1 hall t hm)⟩)
    (by kernel_rfl)
end Go.Proofs.YtbplmbignalbgaaDoor
