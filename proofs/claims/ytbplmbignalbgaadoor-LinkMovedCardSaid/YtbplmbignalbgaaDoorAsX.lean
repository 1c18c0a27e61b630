/- Contracts: Assemble and Forms. Conditions: the items lie as told; the forms' table is as laid. -/
import Derived.Test.YtbplmbignalbgaaDoorAsW
namespace Go.Proofs.YtbplmbignalbgaaDoor
open Go.RowKit Asm
set_option linter.unusedVariables false
set_option linter.unusedSimpArgs false

theorem bad_zero {X : Nat → It} : ∀ {n : Nat}, bad X n = 0 → ∀ i, i < n → citem (X i) = 0
  | 0, _, i, hi => by omega
  | n + 1, h, i, hi => by
    have e : bad X (n + 1) = if bad X n = 0 then citem (X n) else bad X n := rfl
    by_cases hb : bad X n = 0
    · rw [e, if_pos hb] at h
      by_cases he : i = n
      · rw [he]; exact h
      · exact bad_zero hb i (by omega)
    · rw [e, if_neg hb] at h
      exact absurd h hb
theorem check_parts {X : Nat → It} {n : Nat} {base : Int} (h : check X n base = 0) : (0 ≤ base ∧ base ≤ 67108864) ∧ bad X n = 0 ∧ twice X n = false ∧ lost X n n = false := by
  have hr := check_range h
  have hnr : ¬ (base < 0 ∨ 67108864 < base) := by omega
  by_cases hb : bad X n = 0
  · cases ht : twice X n
    · cases hl : lost X n n
      · exact ⟨hr, hb, rfl, rfl⟩
      · rw [ck_lost hnr hb ht hl] at h; cases h
    · rw [ck_twice hnr hb ht] at h; cases h
  · rw [ck_bad hnr hb] at h
    exact absurd h hb
theorem kind_of {X : Nat → It} {n : Nat} {base : Int} (h : check X n base = 0) : ∀ i, i < n → 1 ≤ (X i).kind ∧ (X i).kind ≤ 8 := by
  intro i hi
  have hc := bad_zero (check_parts h).2.1 i hi
  unfold citem at hc
  split at hc
  · cases hc
  · omega
theorem Words.base {w : World} {B B' O len cap : Nat} {xs : List Int} (h : Words w B O len cap xs) (hb : B' ≤ B) : Words w B' O len cap xs := by
  refine ⟨h.1, h.2.imp id ?_⟩
  rintro ⟨g, cap', cur, e, hb', hg, rest⟩
  exact ⟨g, cap', cur, e, Nat.le_trans hb hb', hg, rest⟩
theorem own_base {w : World} {B B' e m n : Nat} {v : Value} {xs : List Value} (h : w.ownsRow B e m v n xs) (hb : B' ≤ B) : w.ownsRow B' e m v n xs := by
  refine ⟨h.1, h.2.imp id ?_⟩
  rintro ⟨g, cap', cur, e, hb', hg, rest⟩
  exact ⟨g, cap', cur, e, Nat.le_trans hb hb', hg, rest⟩
theorem own_below {w w' : World} {B e m n : Nat} {v : Value} {xs : List Value} (h : w.ownsRow B e m v n xs) (hb : Below w.heap.size w w') : w'.ownsRow B e m v n xs := by
  refine ⟨h.1, h.2.imp id ?_⟩
  rintro ⟨g, cap', cur, e, hb', hg, rest⟩
  exact ⟨g, cap', cur, e, hb', (hb.block _ (lt_of_block hg)).trans hg, rest⟩
/-- What Assemble and Forms tell: a fault, or the least forms. -/
def Outcome (X : Nat → It) (n : Nat) (base : Int) (fault : Int → Prop) (good : (Nat → Nat) → Prop) : Prop :=
  (check X n base ≠ 0 ∧ fault (check X n base)) ∨ (check X n base = 0 ∧ ∃ f, Least X n base f ∧ ((67108864 < ad X base f n ∧ fault 3) ∨ (ad X base f n ≤ 67108864 ∧ good f)))
def Assembled (W w' : World) (X : Nat → It) (n : Nat) (base : Int) (e : Ending) : Prop :=
  Outcome X n base (fun c => e = .returned (.tuple #[.slice none 0 0, .slice none 0 0, .int .i64 c]))
    (fun f => ∃ O vp, e = .returned (.tuple #[.slice (some ⟨O, 0, none⟩) (wordsL X n base f n).length (wordsL X n base f n).length, vp, .int .i64 0]) ∧
      Words w' W.heap.size O (wordsL X n base f n).length (wordsL X n base f n).length (wordsL X n base f n) ∧ w'.ownsRow W.heap.size 47 2 vp (placesL X (ad X base f) n).length (rowP (placesL X (ad X base f) n)))
def FormsIs (W w' : World) (X : Nat → It) (n : Nat) (base : Int) (e : Ending) : Prop :=
  Outcome X n base (fun c => e = .returned (.tuple #[.slice none 0 0, .int .i64 c]))
    (fun f => ∃ F, e = .returned (.tuple #[.slice (some ⟨F, 0, none⟩) n n, .int .i64 0]) ∧ w'.heap[F]? = some (.cells (cellsF n (forms f)) 3 (0, 0)) ∧ W.heap.size ≤ F)

set_option maxRecDepth 100000 in
set_option maxHeartbeats 2000000 in
theorem assemble_at {w : World} {p : Option Addr} {n c : Nat} {X : Nat → It} (h : Items w p n c X) (hE : Env w) (hn : n ≤ 480) (base : Int) :
    Calls Tryd.prog 18 #[.slice p n c, .int .i64 base] w fun e w' => Assembled w w' X n base e ∧ Below w.heap.size w w' := by
  have har := arrange_at h hE hn base
  have HE := Lib.hid hE
  clear h hE
  go_enter Tryd.func18, Tryd.ntmps18
  go_wp2_with fail
  refine har.mono ?_
  rintro e w1 ⟨ha, hb⟩
  have HB := Lib.hid hb
  clear hb har
  rcases ha with ⟨hc, rfl⟩ | ⟨hc, f, hl, ⟨hlong, rfl⟩ | ⟨hlong, l, tot, due, rfl, hcore, rfl, rfl, rfl, hF⟩⟩
  · have dz : (check X n base != 0) = true := by simp [hc]
    have HC := Lib.hid hc
    clear hc
    go_wp2_with fail
    go_ret3
    exact ⟨Or.inl ⟨HC.out, rfl⟩, HB.out⟩
  · have HC := Lib.hid (And.intro hc (And.intro hl hlong))
    clear hc hl hlong
    go_wp2_with fail
    go_ret3
    exact ⟨Or.inr ⟨HC.out.1, f, HC.out.2.1, Or.inl ⟨HC.out.2.2, rfl⟩⟩, HB.out⟩
  · have hwd := words_at hcore (HE.out.below HB.out) (kind_of hc) hlong
    have HC := Lib.hid (And.intro hc (And.intro hl (And.intro hlong hcore)))
    clear hc hl hlong hcore hF
    go_wp2_with fail
    refine hwd.mono ?_
    rintro e2 w2 ⟨O, rfl, hw2, hb2⟩
    have hpl := places_at (HC.out.2.2.2.below hb2)
    have H2 := Lib.hid (And.intro hw2 hb2)
    clear hw2 hb2 hwd
    go_wp2_with fail
    refine hpl.mono ?_
    rintro e3 w3 ⟨vp, rfl, hp3, hb3⟩
    have H3 := Lib.hid (And.intro hp3 hb3)
    clear hp3 hb3 hpl
    go_wp2_with fail
    go_ret3
    have hbs := HB.out.size
    have hbs2 := H2.out.2.size
    refine ⟨Or.inr ⟨HC.out.1, f, HC.out.2.1, Or.inr ⟨HC.out.2.2.1, O, vp, rfl, ?_, own_base H3.out.1 (by omega)⟩⟩, ?_⟩
    · exact (H2.out.1.keep (H3.out.2.block _ H2.out.1.lt.2)).base hbs
    · exact (HB.out.trans (H2.out.2.mono hbs)).trans (H3.out.2.mono (by omega))
end Go.Proofs.YtbplmbignalbgaaDoor
