/- The tokens of any source, or the fault and its place, are the document's: LexTokens. Conditions: the row's own. -/
import Derived.Test.YtgnnkfdpfmlajaaDoorUtP
import Derived.Test.YtgnnkfdpfmlajaaDoorLxCy
import Derived.Test.YtgnnkfdpfmlajaaDoorLxCz
import Derived.Test.YtgnnkfdpfmlajaaDoorCards
import Derived.Test.YtgnnkfdpfmlajaaDoorTie
import Derived.SevenTiedAt
namespace Go.Proofs.YtgnnkfdpfmlajaaDoor
open Go.ChangeShapes Go.WideShapes Go.ChangeAt Go.RowKit Bg
open Go.ChangeMaps (open_string shut_string)

set_option maxRecDepth 100000 in
theorem lextokens_lifted (os : Os) (started : os.Started) (H : Type) (enc : TypeId × Value → H) :
    ReturnsInHanded {} Tryd.checked os 3 .any (fun w args => (Rows.lexTokensSpec.pre enc Tryd.prog Tryd.f3 [] false w args ∧ laidMetH Tryd.prog laidAll w) ∧ sizedMet enc Tryd.prog Tryd.f3 (OpenSpec.ofChange Rows.lexTokensSpec) false w args)
      (Rows.lexTokensSpec.post enc Tryd.prog Tryd.f3 false true false false) := by
  refine returnsInHanded_of_calls (C := Tryd.checked) own started (by kernel_rfl)
    (ChangeSpec.witness_shaped (enc := enc) (C := Tryd.checked) (os := os) (X := fun w _ => laidMetH Tryd.prog laidAll w) false (World.laidAll Tryd.prog os laidAll) #[.slice none 0 0] 8 (World.laidAll_os _ _ _) (World.shaped_of_ZipB (by kernel_rfl) (by kernel_rfl)) (by kernel_rfl) (by kernel_rfl) (by kernel_rfl) (met_laid os _)) ?_
  intro w tape i _ _ _ hok hpre _
  obtain ⟨_, _, _, fn', hfn', _, _, _, _, hval0⟩ := hok
  obtain rfl : fn' = Tryd.f3 := Option.some.inj (hfn'.symm.trans Tryd.func3)
  obtain ⟨⟨⟨ds, gs, before, hW0, _⟩, hx⟩, ⟨_, ds2, gs2, before2, hS0, hw2⟩⟩ := hpre
  have hS := DataW.Whole.of_heap (w' := w.forCall tape i) (by rfl) hS0
  have hW := DataW.Whole.of_heap (w' := w.forCall tape i) (by rfl) hW0
  have hE : Tab (w.forCall tape i) := tab_of_laid (hx.of_heap (by rfl))
  obtain ⟨W, hWe⟩ : ∃ W, W = w.forCall tape i := ⟨_, rfl⟩
  rw [← hWe] at hW hE hval0 hS ⊢
  obtain ⟨args, hargs⟩ : ∃ args, args = i.args := ⟨_, rfl⟩
  rw [← hargs] at hW hval0 hS ⊢
  have hval : ∀ (j : Nat) t v, Tryd.f3.params[j]? = some t → args[j]? = some v → Value.okWide Tryd.prog W .any w.heap.size t v := hval0
  have hW' := hW
  obtain ⟨p, q, hA0, hV, rfl, _, _⟩ := hW
  have hA : DataW.TrodAll enc Tryd.prog W 0 (fun _ => true) true Tryd.f3.params.toList args.toList ds p := hA0
  obtain ⟨p2, q2, hS2, _, _, _, _⟩ := hS
  have hS3 : DataW.TrodAll enc Tryd.prog W 0 (fun _ => true) true Tryd.f3.params.toList args.toList ds2 p2 := hS2
  rw [Tryd.params3] at hA hval hS3 hw2
  clear hargs hWe hA0 hval0 hfn' hW0 hS0 hS2
  obtain ⟨u0, d0, rfl, rfl, h0⟩ := trodAll_one hA
  obtain ⟨rfl, rfl⟩ := trodVars_none hV
  obtain ⟨v0, e0, ha2, hd2, s0⟩ := trodAll_one hS3
  simp only [Array.mk.injEq, List.cons.injEq, and_true] at ha2
  obtain rfl := ha2
  subst hd2
  have hwa : ∀ m, m ∈ e0.weights Tryd.prog 22 → m ≤ reachBytes := fun m hm => by
    have := (List.all_eq_true.1 hw2) m (List.mem_append_left _ hm)
    simpa using this
  obtain ⟨q0, c0, l0, rfl, n0, y0⟩ := bytes_open (hval 0 22 u0 rfl rfl) h0
  have HR := bytes_sized s0 hwa
  simp only [List.append_nil] at hW'
  refine (lextokens_any n0 y0 hE HR).mono fun e W' ⟨he, hb⟩ => ?_
  subst he
  refine ChangeSpec.post_blind ?_
  refine ⟨_, _, _, [], p, [], hW', ?_, ?_, rfl, hb.frame _, fun h => by cases h⟩
  · exact trodAll_mk1 (shut_bool Tryd.underlying4 true)
  · exact trodAll_mk1 (Below.trod laidOut readable22 row22 h0 hb (fun x hx => hW'.lt x hx))

theorem lextokens_said : Rows.LexTokensSaid :=
  OpenClaim.holds_of_wide 3 Tryd.f3 rfl rfl rfl rfl rfl rfl rfl ⟨rfl, rfl, rfl, rfl, rfl⟩ rfl rfl rfl rfl rfl (by kernel_rfl) Tryd.func3 (by kernel_rfl)
    (of_decide_eq_true (by kernel_rfl)) (by unfold Func.isWrapper; first | (rw [if_pos (by decide +kernel)]; kernel_rfl) | (rw [if_neg (by decide +kernel)]; exact ⟨rfl, rfl⟩))
    (fun os started H enc _ => lextokens_lifted os started H enc)

/-- The row, tied to the program's text. -/
theorem lextokens_card : Rows.LexTokensCardSaid :=
  Claim7.holds_tied_plain_at .later [] [.data, .pinned] true (true, "6f27083ce51ad1c88df9c6c1a18aa758e6e0daa059284e41b12db40ec37427ee") false
    lextokens_said (fun _ h => by cases h) (by kernel_rfl) (fun _ h => by cases h) lexTokens_row_tie rfl ⟨rfl, rfl⟩ (by kernel_rfl) rfl
    (fun f fn hf hfn => by
      obtain rfl : f = 3 := Option.some.inj ((show Tryd.prog.funcNamed "pennant/pennantlaw07.LexTokens" = some 3 by kernel_rfl).symm.trans hf) |>.symm
      obtain rfl : fn = Tryd.f3 := (Option.some.inj (Tryd.func3.symm.trans hfn)).symm
      exact ⟨by kernel_rfl, fun j t ht => by
        rw [Tryd.params3] at ht
        have hm : t ∈ [22] := by simpa using Array.mem_of_getElem? ht
        have hall : ([22].all fun u => !Tryd.prog.wantsStandIn u) = true := by kernel_rfl
        exact (show Tryd.prog.wantsStandIn t = false by simpa using List.all_eq_true.1 hall t hm)⟩)
    (by kernel_rfl)
end Go.Proofs.YtgnnkfdpfmlajaaDoor
