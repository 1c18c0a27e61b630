/- Contracts: addresses, targets, distances. Conditions: the layout lies as told. -/
import Derived.Test.YtbplmbignalbgaaDoorAsF
namespace Go.Proofs.YtbplmbignalbgaaDoor
open Go.RowKit Asm
set_option linter.unusedVariables false
set_option linter.unusedSimpArgs false

/-- What is read of a layout. -/
structure LCore (w : World) (l : LL) (X : Nat → It) (b0 : Int) (s : LS) : Prop where
  n60 : l.n ≤ 480
  b0r : 0 ≤ b0 ∧ b0 ≤ 67108864
  items : Items w l.p l.n l.c X
  lay : w.heap[l.L]? = some (.cells (cellsF 7 (lcell l s)) 84 (0, 0))
  map : MapAt w l.B X l.n
  frm : w.heap[l.F]? = some (.cells (cellsF l.n (forms s.f)) 3 (0, 0))
  ats : w.heap[l.A]? = some (.cells (cellsF (l.n + 1) (ints s.ats)) 3 (0, 0))
  tal : w.heap[l.T]? = some (.cells (cellsF (l.n + 1) (ints (fw s.x))) 3 (0, 0))
  valid : valid X l.n s.f
  xb : ∀ k, 0 ≤ s.x k ∧ s.x k ≤ 3
  adr : ∀ i, i ≤ l.n → s.ats i + psum s.x i = ad X b0 s.f i
theorem LRep.core {base : Nat} {w : World} {l : LL} {X : Nat → It} {b0 : Int} {s : LS} (h : LRep base w l X b0 s) : LCore w l X b0 s := ⟨h.n60, h.b0r, h.items, h.lay, h.map, h.frm, h.ats, h.tal, h.valid, h.xb, h.adr⟩
namespace LCore
variable {w w' : World} {l : LL} {X : Nat → It} {b0 : Int} {s : LS}
theorem below (h : LCore w l X b0 s) (hb : Below w.heap.size w w') : LCore w' l X b0 s :=
  ⟨h.n60, h.b0r, h.items.below hb, (hb.block _ (lt_of_block h.lay)).trans h.lay, h.map.kept (hb.block _ h.map.lt), (hb.block _ (lt_of_block h.frm)).trans h.frm, (hb.block _ (lt_of_block h.ats)).trans h.ats, (hb.block _ (lt_of_block h.tal)).trans h.tal, h.valid, h.xb, h.adr⟩
theorem drewN (h : LCore w l X b0 s) (n : Nat) : LCore (w.drewN n) l X b0 s := h.below (below_drewN (Below.refl _ _) n)
theorem c0 (h : LCore w l X b0 s) : w.cell? ⟨l.L, 0, none⟩ = some (.slice l.p l.n l.c) := cellV h.lay 0 (by decide) rfl
theorem c1 (h : LCore w l X b0 s) : w.cell? ⟨l.L, 1, none⟩ = some (.map (some l.B)) := cellV h.lay 1 (by decide) rfl
theorem c2 (h : LCore w l X b0 s) : w.cell? ⟨l.L, 2, none⟩ = some (.slice (some ⟨l.F, 0, none⟩) l.n l.n) := cellV h.lay 2 (by decide) rfl
theorem c3 (h : LCore w l X b0 s) : w.cell? ⟨l.L, 3, none⟩ = some (.slice (some ⟨l.A, 0, none⟩) (l.n + 1) (l.n + 1)) := cellV h.lay 3 (by decide) rfl
theorem c4 (h : LCore w l X b0 s) : w.cell? ⟨l.L, 4, none⟩ = some (.slice (some ⟨l.T, 0, none⟩) (l.n + 1) (l.n + 1)) := cellV h.lay 4 (by decide) rfl
theorem cf (h : LCore w l X b0 s) {i : Nat} (hi : i < l.n) : w.cell? ⟨l.F, i, none⟩ = some (.int .i64 (s.f i)) := cellF h.frm i hi
theorem ca (h : LCore w l X b0 s) {i : Nat} (hi : i ≤ l.n) : w.cell? ⟨l.A, i, none⟩ = some (.int .i64 (s.ats i)) := cellF h.ats i (by omega)
theorem ads (h : LCore w l X b0 s) {i : Nat} (hi : i ≤ l.n) : 0 ≤ ad X b0 s.f i ∧ ad X b0 s.f i ≤ 3000000000000 := by
  have := ad_bounds (X := X) (b0 := b0) (f := s.f) h.items.word hi
  have := h.b0r
  have := h.n60
  omega
theorem f_lt (h : LCore w l X b0 s) {i : Nat} (hi : i < l.n) : s.f i ≤ 3 := by
  have := h.valid i hi
  split at this
  · exact this.2
  · split at this <;> omega
end LCore
theorem LRep.drewN {base : Nat} {w : World} {l : LL} {X : Nat → It} {b0 : Int} {s : LS} (h : LRep base w l X b0 s) (n : Nat) : LRep base (w.drewN n) l X b0 s := h.below (below_drewN (Below.refl _ _) n)
theorem before_q (T n cap i : Nat) (x : Nat → Int) (w : World) (h : w.heap[T]? = some (.cells (cellsF n (ints (fw x))) 3 (0, 0))) (hi : i < n) (hn : n ≤ 482) (hx : ∀ k, 0 ≤ x k ∧ x k ≤ 3) :
    Calls Tryd.prog 78 #[.slice (some ⟨T, 0, none⟩) n cap, .int .i64 i] w fun e w' => e = .returned (.int .i64 (psum x i)) ∧ w' = w := (before_at T n cap i x w h hi hn hx).mono fun _ _ ⟨he, hw⟩ => ⟨he, hw.symm⟩

set_option maxRecDepth 100000 in
set_option maxHeartbeats 1000000 in
theorem address_at {w : World} {l : LL} {X : Nat → It} {b0 : Int} {s : LS} (h : LCore w l X b0 s) (i : Nat) (hi : i ≤ l.n) :
    Calls Tryd.prog 64 #[.pointer (some ⟨l.L, 0, none⟩), .int .i64 i] w fun e w' => e = .returned (.int .i64 (ad X b0 s.f i)) ∧ ∃ m, w' = w.drewN m := by
  have c3 := h.c3
  have c4 := h.c4
  have ca := h.ca hi
  have H := Lib.hid (And.intro (h.adr i hi) (And.intro (h.ads hi) h))
  have hi2 : i < l.n + 1 := by omega
  clear h
  go_enter Tryd.func64, Tryd.ntmps64
  go_wp2_with fail
  go_quiet ((go_at_call 78; exact Calls.quiet_of_same (before_q l.T (l.n + 1) (l.n + 1) i s.x _ (H.out.2.2.drewN _).tal hi2 (by have := H.out.2.2.n60; omega) H.out.2.2.xb)))
  go_wp2_with fail
  go_ret
  refine ⟨ret_int ?_, nq, rfl⟩
  obtain ⟨h1, h2, -⟩ := H.out
  unfold wrap64
  omega

theorem lawS : Maps.Keyed Tryd.prog 9 := Maps.string_keyed Tryd.underlying9
theorem zeroI (w : World) : (zeroValue 3).run Tryd.prog w = .ok (.int .i64 0) w := by kernel_rfl
theorem MapAt.look {w : World} {B : Nat} {X : Nat → It} {k : Nat} (h : MapAt w B X k) (s : ByteArray) (hs : s.size ≤ maxLen) : (Instr.lookup 69 (.map (some B)) (.string s) false).run Tryd.prog w = .ok (.int .i64 ((st X s k).getD 0 : Nat)) w := by
  obtain ⟨D, hD, hall⟩ := h
  obtain ⟨c, hrun, hat, -⟩ := hD.lookup_int lawS Tryd.underlying69 Tryd.underlying3 (zeroI w) (WideMaps.keyOf_string_mk Tryd.underlying9 hs)
  have := (hall s hs).2
  rw [show key s = Lit.string s.data.toList from rfl] at this
  rw [this] at hat
  simp only [DataW.lit.injEq, Lit.int.injEq, true_and] at hat
  rw [hrun, hat]

set_option maxRecDepth 100000 in
set_option maxHeartbeats 1000000 in
theorem target_at {w : World} {l : LL} {X : Nat → It} {b0 : Int} {s : LS} (h : LCore w l X b0 s) (i : Nat) (hi : i < l.n) :
    Calls Tryd.prog 53 #[.pointer (some ⟨l.L, 0, none⟩), .int .i64 i] w fun e w' => e = .returned (.int .i64 (ad X b0 s.f (tgt X l.n i))) ∧ ∃ m, w' = w.drewN m := by
  have c0 := h.c0
  have c1 := h.c1
  obtain ⟨b, off, hp, -, -, -, -, -, -, c6, -⟩ := h.items.at hi
  rw [hp] at c0
  have hlook : ∀ k, (Instr.lookup 69 (.map (some l.B)) (.string (X i).lab) false).run Tryd.prog (w.drewN k) = .ok (.int .i64 (tgt X l.n i : Nat)) (w.drewN k) := fun k => (h.drewN k).map.look (X i).lab (h.items.lab i hi)
  have H := Lib.hid h
  have ht := tgt_lt (X := X) hi
  have ei : (i : Int) < l.n := by omega
  clear h hp
  go_enter Tryd.func53, Tryd.ntmps53
  go_wp2_with fail
  go_quiet ((go_at_call 64; exact Calls.quiet_of (address_at (H.out.drewN _) (tgt X l.n i) (by omega))))
  go_wp2_with fail
  go_ret
  exact ⟨rfl, nq, rfl⟩

set_option maxRecDepth 100000 in
set_option maxHeartbeats 1000000 in
theorem distance_at {w : World} {l : LL} {X : Nat → It} {b0 : Int} {s : LS} (h : LCore w l X b0 s) (i : Nat) (hi : i < l.n) :
    Calls Tryd.prog 63 #[.pointer (some ⟨l.L, 0, none⟩), .int .i64 i] w fun e w' => e = .returned (.int .i64 (dist X l.n b0 s.f i)) ∧ ∃ m, w' = w.drewN m := by
  have ht := tgt_lt (X := X) hi
  have H := Lib.hid (And.intro h (And.intro (h.ads (Nat.le_of_lt ht)) (h.ads (show i + 1 ≤ l.n by omega))))
  have n60 := h.n60
  clear h
  go_enter Tryd.func63, Tryd.ntmps63
  go_wp2_with fail
  refine (target_at H.out.1 i hi).mono ?_
  rintro e w1 ⟨rfl, m1, rfl⟩
  go_wp2_with fail
  have ha := address_at (H.out.1.drewN m1) (i + 1) (by omega)
  rw [show ((i + 1 : Nat) : Int) = (i : Int) + 1 by omega] at ha
  refine ha.mono ?_
  rintro e w2 ⟨rfl, m2, rfl⟩
  go_wp2_with fail
  go_ret
  obtain ⟨h, h1, h2⟩ := H.out
  refine ⟨ret_int ?_, m1 + m2, ?_⟩
  · unfold dist wrap64; omega
  · rfl
end Go.Proofs.YtbplmbignalbgaaDoor
