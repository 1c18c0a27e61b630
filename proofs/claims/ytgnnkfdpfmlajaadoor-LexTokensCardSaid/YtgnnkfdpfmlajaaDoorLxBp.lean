/- Contracts: the statements' small functions. Conditions: none. -/
import Derived.Test.YtgnnkfdpfmlajaaDoorLxBn
import Derived.Test.YtgnnkfdpfmlajaaDoorLxBo
namespace Go.Proofs.YtgnnkfdpfmlajaaDoor
open Go.RowKit Bg Lx
set_option linter.unusedVariables false
set_option linter.unusedSimpArgs false

def TokIs (w : World) (l : List Int) (e : Ending) (w' : World) : Prop := ∃ v, e = .returned v ∧ TR w.heap.size w' v (lex 0 l).1
theorem TR.shape {B : Nat} {w : World} {v : Value} {ts : List Tk} (h : TR B w v ts) : ∃ p c, v = .slice p ts.length c ∧ (p = none ∨ ∃ g, p = some ⟨g, 0, none⟩) := by
  rcases h.2 with ⟨rfl, h0⟩ | ⟨g, cap, cur, rfl, -⟩
  · exact ⟨none, 0, by rw [h0], Or.inl rfl⟩
  · exact ⟨_, cap, rfl, Or.inr ⟨g, rfl⟩⟩
set_option maxRecDepth 100000 in
set_option maxHeartbeats 8000000 in
theorem tokens_at {w : World} {l : List Int} (hb : Byts l) (hl : l.length ≤ 100000) (ht : Tab w) :
    Calls Tryd.prog 12 #[.string (strOfNums l)] w fun e w' => TokIs w l e w' ∧ Below w.heap.size w w' := by
  obtain ⟨c, w1, hcv, a1, b1⟩ := conv_str hb (by omega) w
  have T := plex_at a1 hb hl (ht.below b1)
  have hnorm := lex_norm 0 l
  obtain ⟨S, hS⟩ : ∃ S, S = strOfNums l := ⟨_, rfl⟩
  rw [← hS] at hcv ⊢
  unfold LexIs at T
  unfold TokIs
  obtain ⟨ts, hts⟩ : ∃ ts, ts = (lex 0 l).1 := ⟨_, rfl⟩
  obtain ⟨x, hx⟩ : ∃ x, x = (lex 0 l).2.1 := ⟨_, rfl⟩
  obtain ⟨y, hy⟩ : ∃ y, y = (lex 0 l).2.2 := ⟨_, rfl⟩
  rw [← hts, ← hx, ← hy] at T
  rw [← hx, ← hy, ← hts] at hnorm
  rw [← hts]
  have HB := Lib.hid b1
  replace T := Lib.hid T
  clear a1 hS hts hy b1
  by_cases h0 : x = 0
  · have hy0 := hnorm.1 h0
    subst h0
    subst hy0
    clear hnorm hx
    go_enter Tryd.func12, Tryd.ntmps12
    go_wp2_with fail
    refine T.out.mono ?_
    rintro e w2 ⟨⟨v, rfl, hr⟩, hb2⟩
    obtain ⟨p, c2, rfl, -⟩ := hr.shape
    have HR := Lib.hid (And.intro (hr.base HB.out.size) (HB.out.trans (hb2.mono HB.out.size)))
    clear hr hb2
    go_wp2_with fail
    go_ret
    refine ⟨⟨_, rfl, ?_⟩, ?_⟩
    · exact HR.out.1.below ((Below.refl _ _).alloc (Nat.le_refl _) _)
    · exact HR.out.2.alloc HR.out.2.size _
  · have hts0 := hnorm.2 h0
    have g1 : (x == 0) = false := by rw [beq_eq_false_iff_ne]; exact h0
    subst hts0
    clear hnorm hx
    go_enter Tryd.func12, Tryd.ntmps12
    go_wp2_with fail
    refine T.out.mono ?_
    rintro e w2 ⟨⟨v, rfl, hr⟩, hb2⟩
    obtain ⟨p, c2, rfl, -⟩ := hr.shape
    have HR := Lib.hid (HB.out.trans (hb2.mono HB.out.size))
    clear hr hb2
    go_wp2_with fail
    go_ret
    refine ⟨⟨_, rfl, TR.nil _ _⟩, ?_⟩
    exact HR.out.alloc HR.out.size _
end Go.Proofs.YtgnnkfdpfmlajaaDoor
