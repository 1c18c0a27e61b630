/- Contracts: items are arranged. Conditions: the items lie as told; the forms' table is as laid. -/
import Derived.Test.YtbplmbignalbgaaDoorAsQ
namespace Go.Proofs.YtbplmbignalbgaaDoor
open Go.RowKit Asm
set_option linter.unusedVariables false
set_option linter.unusedSimpArgs false

theorem check_range {X : Nat → It} {n : Nat} {base : Int} (h : check X n base = 0) : 0 ≤ base ∧ base ≤ 67108864 := by
  by_cases hr : base < 0 ∨ 67108864 < base
  · rw [ck_base hr] at h; cases h
  · omega
/-- What arrange returns. -/
def Arranged (w0 : World) (p : Option Addr) (n c : Nat) (X : Nat → It) (base : Int) (e : Ending) (w' : World) : Prop :=
  (check X n base ≠ 0 ∧ e = .returned (.tuple #[.pointer none, .int .i64 (check X n base)])) ∨
  (check X n base = 0 ∧ ∃ f, Least X n base f ∧ ((67108864 < ad X base f n ∧ e = .returned (.tuple #[.pointer none, .int .i64 3])) ∨
    (ad X base f n ≤ 67108864 ∧ ∃ (l : LL) (tot : Int) (due : Nat → Int), e = .returned (.tuple #[.pointer (some ⟨l.L, 0, none⟩), .int .i64 0]) ∧ LCore w' l X base ⟨f, ad X base f, fun _ => 0, tot, due⟩ ∧ l.p = p ∧ l.n = n ∧ l.c = c ∧ w0.heap.size ≤ l.F)))

set_option maxRecDepth 100000 in
set_option maxHeartbeats 2000000 in
theorem arrange_at {w : World} {p : Option Addr} {n c : Nat} {X : Nat → It} (h : Items w p n c X) (hE : Env w) (hn : n ≤ 480) (base : Int) :
    Calls Tryd.prog 23 #[.slice p n c, .int .i64 base] w fun e w' => Arranged w p n c X base e w' ∧ Below w.heap.size w w' := by
  have hck := check_at h hE hn base
  have H := Lib.hid (And.intro h hE)
  clear h hE
  go_enter Tryd.func23, Tryd.ntmps23
  go_wp2_with fail
  refine hck.mono ?_
  rintro e w1 ⟨hc | hc, hb⟩
  · obtain ⟨hc, rfl⟩ := hc
    have dz : (check X n base != 0) = true := by simp [hc]
    have HC := Lib.hid (And.intro hc hb)
    clear hc hb hck
    go_wp2_with fail
    go_ret2
    exact ⟨Or.inl ⟨HC.out.1, rfl⟩, HC.out.2⟩
  · obtain ⟨hc, B, rfl, hB, hM⟩ := hc
    have hr := check_range hc
    have hI := H.out.1.below hb
    have hnl := newLayout_at hI hM hn base hr w.heap.size hB (fun hn0 a ha => H.out.1.lt hn0 ha)
    have HC := Lib.hid (And.intro hc (And.intro hb hr))
    clear hc hb hck hB hM hI hr
    go_wp2_with fail
    refine hnl.mono ?_
    rintro e w2 ⟨l, s, rfl, hL, rfl, rfl, rfl, hu, hb2⟩
    have hg := grow_at hL hu
    have HL := Lib.hid (And.intro hL hb2)
    clear hL hu hb2 hnl
    go_wp2_with fail
    refine hg.mono ?_
    rintro e w3 ⟨rfl, s3, hL3, hle, hC3⟩
    have hpre : Pre w3 l X s3.f (arr l.A (l.n + 1)) (arr l.T (l.n + 1)) s3.tot := ⟨hL3.n60, hL3.items, hL3.lay, hL3.frm, fun hn0 a ha => by
      have h1 := hL3.pb hn0 a ha
      have h2 := hL3.lb.1
      omega, fun i hi => by have := hL3.f_lt hi; omega⟩
    have hst := settle_at hpre base HC.out.2.2
    have H3 := Lib.hid (And.intro hL3 (And.intro hle hC3))
    clear hL3 hle hC3 hg hpre
    go_wp2_with fail
    refine hst.mono ?_
    rintro e w4 ⟨rfl, A, T, hL4, hA4, hT4, hAT, hwA, hwT, hC4⟩
    obtain ⟨hL3, hle, hC3⟩ := H3.out
    have hcore : LCore w4 ⟨l.L, l.F, A, T, l.U, l.B, l.p, l.n, l.c⟩ X base ⟨s3.f, ad X base s3.f, fun _ => 0, s3.tot, s3.due⟩ := by
      refine ⟨hL3.n60, hL3.b0r, hL3.items.same fun hn0 a ha => hC4.block _ (hL3.items.lt hn0 ha) ?_, hL4, hL3.map.kept (hC4.block _ hL3.map.lt ?_), hC4.same hL3.frm (ne_kind hL3.frm hL3.lay (by decide)), hA4, hT4, hL3.valid, fun _ => ⟨Int.le_refl _, show (0 : Int) ≤ 3 by decide⟩, fun i _ => ?_⟩
      · have h1 := hL3.pb hn0 a ha
        have h2 := hL3.lb.1
        omega
      · intro e
        obtain ⟨D, ⟨es, clock, hB, -⟩, -⟩ := hL3.map
        rw [e, hL3.lay] at hB
        cases hB
      · show ad X base s3.f i + psum (fun _ => 0) i = ad X base s3.f i
        rw [psum_zero]
        omega
    have hbw : Below w.heap.size w w4 := by
      have hb2 := HL.out.2
      have hlt := fun k (hk : l.all k) => hL3.lb
      have t3 : Below w.heap.size w2 w3 := hC3.below (by have := HC.out.2.1.size; have := HL.out.2.size; omega) (fun i hi => by
        have hlb := hL3.lb
        rcases hi with rfl | rfl | rfl | rfl <;> omega)
      have t4 : Below w.heap.size w3 w4 := hC4.below (by have := HC.out.2.1.size; have := HL.out.2.size; have := hC3.size; omega) (fun i hi => by have hlb := hL3.lb; omega)
      exact ((HC.out.2.1.trans (HL.out.2.mono HC.out.2.1.size)).trans t3).trans t4
    have hFle : w.heap.size ≤ l.F := hL3.lb.2.1
    have c0 := hcore.c0
    have c3 := hcore.c3
    have ca := hcore.ca (Nat.le_refl _)
    have ei : (l.n : Int) < (l.n : Int) + 1 := by omega
    obtain ⟨av, hav⟩ : ∃ av, av = ad X base s3.f l.n := ⟨_, rfl⟩
    have ca' : w4.cell? ⟨A, l.n, none⟩ = some (.int .i64 av) := by rw [hav]; exact ca
    have c3' : w4.cell? ⟨l.L, 3, none⟩ = some (.slice (some ⟨A, 0, none⟩) (l.n + 1) (l.n + 1)) := c3
    have HF := Lib.hid (And.intro hcore (And.intro hbw (And.intro hFle (And.intro hav hle))))
    clear hcore hbw hFle hav hle c0 c3 ca hL4 hA4 hT4 hAT hwA hwT hC4 hst hL3 hC3
    by_cases hlong : 67108864 < av
    · have d1 : decide (67108864 < av) = true := by simp [hlong]
      go_wp2_with fail
      go_ret2
      exact ⟨Or.inr ⟨HC.out.1, s3.f, HF.out.2.2.2.2, Or.inl ⟨by rw [← HF.out.2.2.2.1]; exact hlong, rfl⟩⟩, HF.out.2.1⟩
    · have d1 : decide (67108864 < av) = false := by simp; omega
      go_wp2_with fail
      go_ret2
      exact ⟨Or.inr ⟨HC.out.1, s3.f, HF.out.2.2.2.2, Or.inr ⟨by rw [← HF.out.2.2.2.1]; omega, ⟨l.L, l.F, A, T, l.U, l.B, l.p, l.n, l.c⟩, s3.tot, s3.due, rfl, HF.out.1, rfl, rfl, rfl, HF.out.2.2.1⟩⟩, HF.out.2.1⟩
end Go.Proofs.YtbplmbignalbgaaDoor
