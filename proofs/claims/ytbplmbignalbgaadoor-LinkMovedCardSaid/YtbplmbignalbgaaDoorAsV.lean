/- Contracts: the words of an item are appended. Conditions: the layout lies as told; the row has room. -/
import Derived.Test.YtbplmbignalbgaaDoorAsU
namespace Go.Proofs.YtbplmbignalbgaaDoor
open Go.RowKit Asm
set_option linter.unusedVariables false
set_option linter.unusedSimpArgs false

/-- The blocks that are read. -/
def LL.rd (l : LL) (k : Nat) : Prop := k = l.L ∨ k = l.F ∨ k = l.A ∨ k = l.T ∨ k = l.B
theorem LCore.rd_lt {w : World} {l : LL} {X : Nat → It} {b0 : Int} {s : LS} (h : LCore w l X b0 s) {k : Nat} (hk : l.rd k) : k < w.heap.size := by
  rcases hk with rfl | rfl | rfl | rfl | rfl
  · exact lt_of_block h.lay
  · exact lt_of_block h.frm
  · exact lt_of_block h.ats
  · exact lt_of_block h.tal
  · exact h.map.lt
theorem LCore.chgO {w w' : World} {l : LL} {X : Nat → It} {b0 : Int} {s : LS} {O : Nat} (h : LCore w l X b0 s) (hc : Chg (fun k => k = O) w w') (hall : ∀ k, l.rd k → k < O) (hp : 0 < l.n → ∀ a, l.p = some a → a.block < O) : LCore w' l X b0 s :=
  ⟨h.n60, h.b0r, h.items.same fun hn a ha => hc.block _ (h.items.lt hn ha) (by have := hp hn a ha; omega), hc.same h.lay (by have := hall _ (Or.inl rfl); omega), h.map.kept (hc.block _ h.map.lt (by have := hall _ (Or.inr (Or.inr (Or.inr (Or.inr rfl)))); omega)),
   hc.same h.frm (by have := hall _ (Or.inr (Or.inl rfl)); omega), hc.same h.ats (by have := hall _ (Or.inr (Or.inr (Or.inl rfl))); omega), hc.same h.tal (by have := hall _ (Or.inr (Or.inr (Or.inr (Or.inl rfl)))); omega), h.valid, h.xb, h.adr⟩
/-- What is asked of appendWords. -/
structure AW (w : World) (l : LL) (X : Nat → It) (b0 : Int) (s : LS) (B O len cap : Nat) (xs : List Int) (i : Nat) : Prop where
  core : LCore w l X b0 s
  env : Env w
  words : Words w B O len cap xs
  B1 : 1 ≤ B
  lt : i < l.n
  room : len + (iw X l.n b0 s.f i).length ≤ cap
  cap : cap ≤ 1000000000
def Appended (w : World) (X : Nat → It) (n : Nat) (b0 : Int) (f : Nat → Nat) (B O len cap : Nat) (xs : List Int) (i : Nat) (e : Ending) (w' : World) : Prop :=
  e = .returned (.slice (some ⟨O, 0, none⟩) (len + (iw X n b0 f i).length) cap) ∧ Words w' B O (len + (iw X n b0 f i).length) cap (xs ++ iw X n b0 f i) ∧ Chg (fun k => k = O) w w'
/-- The item has been copied. -/
structure AV (w w1 : World) (l : LL) (X : Nat → It) (b0 : Int) (s : LS) (B O len cap N : Nat) (xs : List Int) (i : Nat) : Prop where
  below : Below w.heap.size w w1
  item : w1.heap[N]? = some (.cells #[.int .i64 (X i).kind, .int .i64 (X i).op, .int .i64 (X i).d, .int .i64 (X i).a, .int .i64 (X i).b, .int .i64 (X i).imm, .string (X i).lab, .int .u32 (X i).word] 40 (0, 0))
  eq : N = w.heap.size
theorem AV.chg {w w1 w2 : World} {l : LL} {X : Nat → It} {b0 : Int} {s : LS} {B O len cap N : Nat} {xs : List Int} {i : Nat} (_h : AV w w1 l X b0 s B O len cap N xs i) (hb : Chg (fun k => k = O) w1 w2) : Chg (fun k => k = O) w w2 :=
  Chg.trans (F := fun k => k = O) (F' := fun k => k = O) (Chg.of_below _h.below) hb (fun _ h => Or.inl h)

theorem appendRow_at {w : World} {B O len cap B2 : Nat} {sv : Value} {xs : List Int} {L : List Ins} (h : Words w B O len cap xs) (hE : Env w) (hrow : w.ownsRow B2 37 5 sv L.length (rowJ L)) (h0 : 0 < L.length) (hL : L.length ≤ 4) (hO : O < B2) (hroom : len + L.length ≤ cap) (hcap : cap ≤ 1000000000) (hB : 1 ≤ B) :
    Calls Tryd.prog 49 #[.slice (some ⟨O, 0, none⟩) len cap, sv] w fun e w' => e = .returned (.slice (some ⟨O, 0, none⟩) (len + L.length) cap) ∧ Words w' B O (len + L.length) cap (xs ++ L.map insW) ∧ Chg (fun k => k = O) w w' := by
  obtain ⟨g, c2, rfl, hg⟩ := row_shape5 hrow h0
  refine appendInsts_at h hE (fun j u hu => ?_) hL (by omega) hroom hcap hB
  have := hrow.cells rfl j u hu
  rwa [show (⟨g, 0, none⟩ : Addr).add j = ⟨g, j, none⟩ by unfold Addr.add; split <;> simp_all] at this
theorem branchL_bounds {X : Nat → It} {n : Nat} {base : Int} {f : Nat → Nat} {i : Nat} (hv : valid X n f) (hi : i < n) (hk : (X i).kind = 3) : 0 < (branchL X n base f i).length ∧ (branchL X n base f i).length ≤ 4 := by
  have := hv i hi
  rw [if_pos hk] at this
  rw [branchL_len X n base f i this]
  (repeat' split) <;> omega
theorem jumpL_bounds (X : Nat → It) (n : Nat) (base : Int) (f : Nat → Nat) (i : Nat) (d : Int) (form : Nat) : 0 < (jumpL X n base f i d form).length ∧ (jumpL X n base f i d form).length ≤ 4 := by
  rw [jumpL_len]
  split <;> omega

set_option maxRecDepth 100000 in
set_option maxHeartbeats 2000000 in
theorem appendWords_2 {w : World} {l : LL} {X : Nat → It} {b0 : Int} {s : LS} {B O len cap : Nat} {xs : List Int} {i : Nat} (h : AW w l X b0 s B O len cap xs i) (hk : (X i).kind = 2) :
    Calls Tryd.prog 36 #[.pointer (some ⟨l.L, 0, none⟩), .slice (some ⟨O, 0, none⟩) len cap, .int .i64 i] w fun e w' => Appended w X l.n b0 s.f B O len cap xs i e w' := by
  obtain ⟨b, off, hp, k0, k1, k2, k3, k4, k5, k6, k7⟩ := h.core.items.at h.lt
  have c0 := h.core.c0
  rw [hp] at c0
  have ei : (i : Int) < l.n := by have := h.lt; omega
  obtain ⟨w1, hw1⟩ : ∃ w1, w1 = w.alloc (.cells #[.int .i64 (X i).kind, .int .i64 (X i).op, .int .i64 (X i).d, .int .i64 (X i).a, .int .i64 (X i).b, .int .i64 (X i).imm, .string (X i).lab, .int .u32 (X i).word] 40) := ⟨_, rfl⟩
  have hN := heap_new w (.cells #[.int .i64 (X i).kind, .int .i64 (X i).op, .int .i64 (X i).d, .int .i64 (X i).a, .int .i64 (X i).b, .int .i64 (X i).imm, .string (X i).lab, .int .u32 (X i).word] 40)
  have hb1 : Below w.heap.size w w1 := by rw [hw1]; exact (Below.refl _ _).alloc (Nat.le_refl _) _
  rw [← hw1] at hN
  obtain ⟨N, hNe⟩ : ∃ N, N = w.heap.size := ⟨_, rfl⟩
  rw [← hNe] at hN
  obtain ⟨n0, n1, n2, n3, n4, n5, n6, n7⟩ := cells8 hN
  have HV := Lib.hid (show AV w w1 l X b0 s B O len cap N xs i from ⟨hb1, hN, hNe⟩)
  have hc1 := h.core.below hb1
  have hw1' := h.words.keep (hb1.block _ h.words.lt.2)
  have hE1 := h.env.below hb1
  have H := Lib.hid (And.intro h (And.intro hc1 (And.intro hw1' hE1)))
  rw [hk] at n0
  have HK := Lib.hid hk
  clear h hN hb1 hp hc1 hw1' hE1 hk
  go_enter Tryd.func36, Tryd.ntmps36
  go_upto_region 2 with fail
  rw [← hNe, ← hw1]
  clear hNe hw1 c0 k0 k1 k2 k3 k4 k5 k6 k7
  go_wp2_with fail
  go_ret
  have e : iw X l.n b0 s.f i = [] := by unfold iw; simp [HK.out]
  unfold Appended
  rw [e]
  refine ⟨rfl, ?_, (HV.out.chg (Chg.refl _ _))⟩
  rw [List.append_nil]
  exact H.out.2.2.1
set_option maxRecDepth 100000 in
set_option maxHeartbeats 2000000 in
theorem appendWords_6 {w : World} {l : LL} {X : Nat → It} {b0 : Int} {s : LS} {B O len cap : Nat} {xs : List Int} {i : Nat} (h : AW w l X b0 s B O len cap xs i) (hk : (X i).kind = 6) :
    Calls Tryd.prog 36 #[.pointer (some ⟨l.L, 0, none⟩), .slice (some ⟨O, 0, none⟩) len cap, .int .i64 i] w fun e w' => Appended w X l.n b0 s.f B O len cap xs i e w' := by
  obtain ⟨b, off, hp, k0, k1, k2, k3, k4, k5, k6, k7⟩ := h.core.items.at h.lt
  have c0 := h.core.c0
  rw [hp] at c0
  have ei : (i : Int) < l.n := by have := h.lt; omega
  obtain ⟨w1, hw1⟩ : ∃ w1, w1 = w.alloc (.cells #[.int .i64 (X i).kind, .int .i64 (X i).op, .int .i64 (X i).d, .int .i64 (X i).a, .int .i64 (X i).b, .int .i64 (X i).imm, .string (X i).lab, .int .u32 (X i).word] 40) := ⟨_, rfl⟩
  have hN := heap_new w (.cells #[.int .i64 (X i).kind, .int .i64 (X i).op, .int .i64 (X i).d, .int .i64 (X i).a, .int .i64 (X i).b, .int .i64 (X i).imm, .string (X i).lab, .int .u32 (X i).word] 40)
  have hb1 : Below w.heap.size w w1 := by rw [hw1]; exact (Below.refl _ _).alloc (Nat.le_refl _) _
  rw [← hw1] at hN
  obtain ⟨N, hNe⟩ : ∃ N, N = w.heap.size := ⟨_, rfl⟩
  rw [← hNe] at hN
  obtain ⟨n0, n1, n2, n3, n4, n5, n6, n7⟩ := cells8 hN
  have HV := Lib.hid (show AV w w1 l X b0 s B O len cap N xs i from ⟨hb1, hN, hNe⟩)
  have hc1 := h.core.below hb1
  have hw1' := h.words.keep (hb1.block _ h.words.lt.2)
  have hE1 := h.env.below hb1
  have H := Lib.hid (And.intro h (And.intro hc1 (And.intro hw1' hE1)))
  rw [hk] at n0
  have HK := Lib.hid hk
  clear h hN hb1 hp hc1 hw1' hE1 hk
  go_enter Tryd.func36, Tryd.ntmps36
  go_upto_region 2 with fail
  rw [← hNe, ← hw1]
  clear hNe hw1 c0 k0 k1 k2 k3 k4 k5 k6 k7
  have e : iw X l.n b0 s.f i = [(X i).word] := by unfold iw; simp [HK.out]
  have hr := H.out.1.room
  rw [e] at hr
  have hrow : w1.ownsRow B 38 1 (.slice (some ⟨O, 0, none⟩) len cap) len (byW xs) := H.out.2.2.1
  obtain ⟨i0, hi, hz0, hz1, hz2⟩ := infoW_of
  go_wp2_with (first
    | (at_builtin; refine wpList_append_own_spare _ rfl _ _ 27 rfl B 38 i0 1 Tryd.underlying27 hi hz1 O len cap _ rfl (hrow.alloc _) ⟨w1.heap.size, 0, none⟩ 1 1 [.int .u32 (X i).word] rfl rfl (cell_one_new _ _ _) (one_byW [(X i).word]) hr ?_)
    | fail)
  intro w4 hw4 hg4
  have H4 := Lib.hid (And.intro hw4 hg4)
  clear hw4 hg4 hrow
  go_wp2_with fail
  go_ret
  unfold Appended
  rw [e]
  refine ⟨rfl, ?_, HV.out.chg (((Chg.refl _ _).alloc _).trans (Chg.grown1 H4.out.2) (fun _ h => Or.inl h))⟩
  unfold Words
  rw [byW_app]
  exact H4.out.1
set_option maxRecDepth 100000 in
set_option maxHeartbeats 2000000 in
theorem appendWords_8 {w : World} {l : LL} {X : Nat → It} {b0 : Int} {s : LS} {B O len cap : Nat} {xs : List Int} {i : Nat} (h : AW w l X b0 s B O len cap xs i) (hk : (X i).kind = 8) :
    Calls Tryd.prog 36 #[.pointer (some ⟨l.L, 0, none⟩), .slice (some ⟨O, 0, none⟩) len cap, .int .i64 i] w fun e w' => Appended w X l.n b0 s.f B O len cap xs i e w' := by
  obtain ⟨b, off, hp, k0, k1, k2, k3, k4, k5, k6, k7⟩ := h.core.items.at h.lt
  have c0 := h.core.c0
  rw [hp] at c0
  have ei : (i : Int) < l.n := by have := h.lt; omega
  obtain ⟨w1, hw1⟩ : ∃ w1, w1 = w.alloc (.cells #[.int .i64 (X i).kind, .int .i64 (X i).op, .int .i64 (X i).d, .int .i64 (X i).a, .int .i64 (X i).b, .int .i64 (X i).imm, .string (X i).lab, .int .u32 (X i).word] 40) := ⟨_, rfl⟩
  have hN := heap_new w (.cells #[.int .i64 (X i).kind, .int .i64 (X i).op, .int .i64 (X i).d, .int .i64 (X i).a, .int .i64 (X i).b, .int .i64 (X i).imm, .string (X i).lab, .int .u32 (X i).word] 40)
  have hb1 : Below w.heap.size w w1 := by rw [hw1]; exact (Below.refl _ _).alloc (Nat.le_refl _) _
  rw [← hw1] at hN
  obtain ⟨N, hNe⟩ : ∃ N, N = w.heap.size := ⟨_, rfl⟩
  rw [← hNe] at hN
  obtain ⟨n0, n1, n2, n3, n4, n5, n6, n7⟩ := cells8 hN
  have HV := Lib.hid (show AV w w1 l X b0 s B O len cap N xs i from ⟨hb1, hN, hNe⟩)
  have hc1 := h.core.below hb1
  have hw1' := h.words.keep (hb1.block _ h.words.lt.2)
  have hE1 := h.env.below hb1
  have H := Lib.hid (And.intro h (And.intro hc1 (And.intro hw1' hE1)))
  rw [hk] at n0
  have HK := Lib.hid hk
  clear h hN hb1 hp hc1 hw1' hE1 hk
  go_enter Tryd.func36, Tryd.ntmps36
  go_upto_region 2 with fail
  rw [← hNe, ← hw1]
  clear hNe hw1 c0 k0 k1 k2 k3 k4 k5 k6 k7
  have hwd := H.out.1.core.items.word i H.out.1.lt
  obtain ⟨k, hkk⟩ : ∃ k : Nat, (X i).word = k := ⟨(X i).word.toNat, by omega⟩
  have e : iw X l.n b0 s.f i = List.replicate k 0 := by unfold iw; simp [HK.out, hkk]
  have hr := H.out.1.room
  rw [e, List.length_replicate] at hr
  rw [hkk] at n7 hwd
  have hkl : k < 4294967296 := by omega
  have HX := Lib.hid hkk
  clear hkk
  go_wp2_with (first
    | (at_builtin; refine wpList_zeros rfl _ _ rfl rfl B O len cap k xs rfl H.out.2.2.1 rfl hkl hr ?_)
    | fail)
  intro w4 hw4 hg4
  have H4 := Lib.hid (And.intro hw4 hg4)
  clear hw4 hg4
  go_wp2_with fail
  go_ret
  unfold Appended
  rw [e, List.length_replicate]
  exact ⟨rfl, H4.out.1, HV.out.chg (Chg.grown1 H4.out.2)⟩
set_option maxRecDepth 100000 in
set_option maxHeartbeats 2000000 in
theorem appendWords_1 {w : World} {l : LL} {X : Nat → It} {b0 : Int} {s : LS} {B O len cap : Nat} {xs : List Int} {i : Nat} (h : AW w l X b0 s B O len cap xs i) (hk : (X i).kind = 1) :
    Calls Tryd.prog 36 #[.pointer (some ⟨l.L, 0, none⟩), .slice (some ⟨O, 0, none⟩) len cap, .int .i64 i] w fun e w' => Appended w X l.n b0 s.f B O len cap xs i e w' := by
  obtain ⟨b, off, hp, k0, k1, k2, k3, k4, k5, k6, k7⟩ := h.core.items.at h.lt
  have c0 := h.core.c0
  rw [hp] at c0
  have ei : (i : Int) < l.n := by have := h.lt; omega
  obtain ⟨w1, hw1⟩ : ∃ w1, w1 = w.alloc (.cells #[.int .i64 (X i).kind, .int .i64 (X i).op, .int .i64 (X i).d, .int .i64 (X i).a, .int .i64 (X i).b, .int .i64 (X i).imm, .string (X i).lab, .int .u32 (X i).word] 40) := ⟨_, rfl⟩
  have hN := heap_new w (.cells #[.int .i64 (X i).kind, .int .i64 (X i).op, .int .i64 (X i).d, .int .i64 (X i).a, .int .i64 (X i).b, .int .i64 (X i).imm, .string (X i).lab, .int .u32 (X i).word] 40)
  have hb1 : Below w.heap.size w w1 := by rw [hw1]; exact (Below.refl _ _).alloc (Nat.le_refl _) _
  rw [← hw1] at hN
  obtain ⟨N, hNe⟩ : ∃ N, N = w.heap.size := ⟨_, rfl⟩
  rw [← hNe] at hN
  obtain ⟨n0, n1, n2, n3, n4, n5, n6, n7⟩ := cells8 hN
  have HV := Lib.hid (show AV w w1 l X b0 s B O len cap N xs i from ⟨hb1, hN, hNe⟩)
  have hc1 := h.core.below hb1
  have hw1' := h.words.keep (hb1.block _ h.words.lt.2)
  have hE1 := h.env.below hb1
  have H := Lib.hid (And.intro h (And.intro hc1 (And.intro hw1' hE1)))
  rw [hk] at n0
  have HK := Lib.hid hk
  clear h hN hb1 hp hc1 hw1' hE1 hk
  go_enter Tryd.func36, Tryd.ntmps36
  go_upto_region 2 with fail
  rw [← hNe, ← hw1]
  clear hNe hw1 c0 k0 k1 k2 k3 k4 k5 k6 k7
  have e : iw X l.n b0 s.f i = [insW ⟨(X i).op, (X i).d, (X i).a, (X i).b, (X i).imm⟩] := by unfold iw; simp [HK.out]
  have hr := H.out.1.room
  rw [e] at hr
  have hr : len + 1 ≤ cap := hr
  obtain ⟨w2, hw2⟩ : ∃ w2, w2 = w1.alloc (.cells #[.int .i64 (X i).op, .int .i64 (X i).d, .int .i64 (X i).a, .int .i64 (X i).b, .int .i64 (X i).imm] 37) := ⟨_, rfl⟩
  have hb2 : Below w1.heap.size w1 w2 := by rw [hw2]; exact (Below.refl _ _).alloc (Nat.le_refl _) _
  have hrow : w2.ownsRow w1.heap.size 37 5 (.slice (some ⟨w1.heap.size, 0, none⟩) 1 1) 1 (rowJ [⟨(X i).op, (X i).d, (X i).a, (X i).b, (X i).imm⟩]) := by
    rw [hw2]
    exact World.ownsRow_lit (base := w1.heap.size) (e := 37) (size := 5) w1 _ 1 (Nat.le_refl _) (by decide) rfl
  have hwd : Words w2 B O len cap xs := H.out.2.2.1.keep (hb2.block _ H.out.2.2.1.lt.2)
  have ha := appendRow_at (L := [⟨(X i).op, (X i).d, (X i).a, (X i).b, (X i).imm⟩]) hwd (H.out.2.2.2.below hb2) hrow Nat.one_pos (show 1 ≤ 4 by decide) H.out.2.2.1.lt.2 hr H.out.1.cap H.out.1.B1
  have HB := Lib.hid (And.intro hb2 hw2)
  clear hb2 hw2 hrow hwd
  go_wp2_with fail
  rw [← HB.out.2]
  refine ha.mono ?_
  rintro e w3 ⟨rfl, hw3, hC3⟩
  have H3 := Lib.hid (And.intro hw3 hC3)
  clear hw3 hC3 ha
  go_wp2_with fail
  go_ret
  unfold Appended
  rw [e]
  exact ⟨rfl, H3.out.1, HV.out.chg (Chg.trans (F := fun k => k = O) (F' := fun k => k = O) (Chg.of_below HB.out.1) H3.out.2 (fun _ h => Or.inl h))⟩
set_option maxRecDepth 100000 in
set_option maxHeartbeats 2000000 in
theorem appendWords_3 {w : World} {l : LL} {X : Nat → It} {b0 : Int} {s : LS} {B O len cap : Nat} {xs : List Int} {i : Nat} (h : AW w l X b0 s B O len cap xs i) (hk : (X i).kind = 3) :
    Calls Tryd.prog 36 #[.pointer (some ⟨l.L, 0, none⟩), .slice (some ⟨O, 0, none⟩) len cap, .int .i64 i] w fun e w' => Appended w X l.n b0 s.f B O len cap xs i e w' := by
  obtain ⟨b, off, hp, k0, k1, k2, k3, k4, k5, k6, k7⟩ := h.core.items.at h.lt
  have c0 := h.core.c0
  rw [hp] at c0
  have ei : (i : Int) < l.n := by have := h.lt; omega
  obtain ⟨w1, hw1⟩ : ∃ w1, w1 = w.alloc (.cells #[.int .i64 (X i).kind, .int .i64 (X i).op, .int .i64 (X i).d, .int .i64 (X i).a, .int .i64 (X i).b, .int .i64 (X i).imm, .string (X i).lab, .int .u32 (X i).word] 40) := ⟨_, rfl⟩
  have hN := heap_new w (.cells #[.int .i64 (X i).kind, .int .i64 (X i).op, .int .i64 (X i).d, .int .i64 (X i).a, .int .i64 (X i).b, .int .i64 (X i).imm, .string (X i).lab, .int .u32 (X i).word] 40)
  have hb1 : Below w.heap.size w w1 := by rw [hw1]; exact (Below.refl _ _).alloc (Nat.le_refl _) _
  rw [← hw1] at hN
  obtain ⟨N, hNe⟩ : ∃ N, N = w.heap.size := ⟨_, rfl⟩
  rw [← hNe] at hN
  obtain ⟨n0, n1, n2, n3, n4, n5, n6, n7⟩ := cells8 hN
  have HV := Lib.hid (show AV w w1 l X b0 s B O len cap N xs i from ⟨hb1, hN, hNe⟩)
  have hc1 := h.core.below hb1
  have hw1' := h.words.keep (hb1.block _ h.words.lt.2)
  have hE1 := h.env.below hb1
  have H := Lib.hid (And.intro h (And.intro hc1 (And.intro hw1' hE1)))
  rw [hk] at n0
  have HK := Lib.hid hk
  clear h hN hb1 hp hc1 hw1' hE1 hk
  go_enter Tryd.func36, Tryd.ntmps36
  go_upto_region 2 with fail
  rw [← hNe, ← hw1]
  clear hNe hw1 c0 k0 k1 k2 k3 k4 k5 k6 k7
  have e : iw X l.n b0 s.f i = (branchL X l.n b0 s.f i).map insW := by unfold iw; simp [HK.out]
  have hr := H.out.1.room
  rw [e, List.length_map] at hr
  have hbl := branchL_bounds (base := b0) H.out.1.core.valid H.out.1.lt HK.out
  have hbr := branch_at H.out.2.1 i H.out.1.lt HK.out
  have HL := Lib.hid (And.intro hr hbl)
  clear hr hbl
  go_wp2_with fail
  refine hbr.mono ?_
  rintro e2 w2 ⟨sv, rfl, hrow, hb2⟩
  have hwd : Words w2 B O len cap xs := H.out.2.2.1.keep (hb2.block _ H.out.2.2.1.lt.2)
  have ha := appendRow_at (L := branchL X l.n b0 s.f i) hwd (H.out.2.2.2.below hb2) hrow HL.out.2.1 HL.out.2.2 H.out.2.2.1.lt.2 HL.out.1 H.out.1.cap H.out.1.B1
  have HB := Lib.hid hb2
  clear hb2 hrow hwd hbr
  go_wp2_with fail
  refine ha.mono ?_
  rintro e3 w3 ⟨rfl, hw3, hC3⟩
  have H3 := Lib.hid (And.intro hw3 hC3)
  clear hw3 hC3 ha
  go_wp2_with fail
  go_ret
  unfold Appended
  rw [e, List.length_map]
  exact ⟨rfl, H3.out.1, HV.out.chg (Chg.trans (F := fun k => k = O) (F' := fun k => k = O) (Chg.of_below HB.out) H3.out.2 (fun _ h => Or.inl h))⟩
set_option maxRecDepth 100000 in
set_option maxHeartbeats 2000000 in
theorem appendWords_4 {w : World} {l : LL} {X : Nat → It} {b0 : Int} {s : LS} {B O len cap : Nat} {xs : List Int} {i : Nat} (h : AW w l X b0 s B O len cap xs i) (hk : (X i).kind = 4) (hall : ∀ k, l.rd k → k < O) (hpO : 0 < l.n → ∀ a, l.p = some a → a.block < O) :
    Calls Tryd.prog 36 #[.pointer (some ⟨l.L, 0, none⟩), .slice (some ⟨O, 0, none⟩) len cap, .int .i64 i] w fun e w' => Appended w X l.n b0 s.f B O len cap xs i e w' := by
  obtain ⟨b, off, hp, k0, k1, k2, k3, k4, k5, k6, k7⟩ := h.core.items.at h.lt
  have c0 := h.core.c0
  rw [hp] at c0
  have ei : (i : Int) < l.n := by have := h.lt; omega
  obtain ⟨w1, hw1⟩ : ∃ w1, w1 = w.alloc (.cells #[.int .i64 (X i).kind, .int .i64 (X i).op, .int .i64 (X i).d, .int .i64 (X i).a, .int .i64 (X i).b, .int .i64 (X i).imm, .string (X i).lab, .int .u32 (X i).word] 40) := ⟨_, rfl⟩
  have hN := heap_new w (.cells #[.int .i64 (X i).kind, .int .i64 (X i).op, .int .i64 (X i).d, .int .i64 (X i).a, .int .i64 (X i).b, .int .i64 (X i).imm, .string (X i).lab, .int .u32 (X i).word] 40)
  have hb1 : Below w.heap.size w w1 := by rw [hw1]; exact (Below.refl _ _).alloc (Nat.le_refl _) _
  rw [← hw1] at hN
  obtain ⟨N, hNe⟩ : ∃ N, N = w.heap.size := ⟨_, rfl⟩
  rw [← hNe] at hN
  obtain ⟨n0, n1, n2, n3, n4, n5, n6, n7⟩ := cells8 hN
  have HV := Lib.hid (show AV w w1 l X b0 s B O len cap N xs i from ⟨hb1, hN, hNe⟩)
  have hc1 := h.core.below hb1
  have hw1' := h.words.keep (hb1.block _ h.words.lt.2)
  have hE1 := h.env.below hb1
  have H := Lib.hid (And.intro h (And.intro hc1 (And.intro hw1' hE1)))
  rw [hk] at n0
  have HK := Lib.hid hk
  clear h hN hb1 hp hc1 hw1' hE1 hk
  go_enter Tryd.func36, Tryd.ntmps36
  go_upto_region 2 with fail
  rw [← hNe, ← hw1]
  clear hNe hw1 c0 k0 k1 k2 k3 k4 k5 k6 k7
  have e : iw X l.n b0 s.f i = (jumpL X l.n b0 s.f i (X i).d (s.f i)).map insW := by unfold iw; simp [HK.out]
  have hr := H.out.1.room
  rw [e, List.length_map] at hr
  have hbl := jumpL_bounds X l.n b0 s.f i (X i).d (s.f i)
  have hf3 := H.out.1.core.f_lt H.out.1.lt
  have hj := jump_at (H.out.2.1.below (Below.refl _ _).drew) i H.out.1.lt (X i).d (s.f i) (by omega)
  have HL := Lib.hid (And.intro hr hbl)
  clear hr hbl
  go_wp2_with fail
  have hlO := H.out.1.words.lt.2
  have hld : ∀ w', Chg (fun k => k = O) w1 w' → w'.cell? ⟨N, 2, none⟩ = some (.int .i64 (X i).d) ∧ w'.cell? ⟨N, 7, none⟩ = some (.int .u32 (X i).word) ∧ w'.cell? ⟨l.L, 2, none⟩ = some (.slice (some ⟨l.F, 0, none⟩) l.n l.n) ∧ w'.cell? ⟨l.F, i, none⟩ = some (.int .i64 (s.f i)) := by
    intro w' hc
    have g := H.out.2.1.chgO hc hall hpO
    have gN := hc.same HV.out.item (by have := HV.out.eq; omega)
    obtain ⟨m0, m1, m2, m3, m4, m5, m6, m7⟩ := cells8 gN
    exact ⟨m2, m7, g.c2, g.cf H.out.1.lt⟩
  have HLD := Lib.hid hld
  have hs := hld w1.drew ((Chg.refl _ _).drew)
  obtain ⟨z0, z1, z2, z3⟩ := hs
  have hs0 := hld w1 (Chg.refl _ _)
  obtain ⟨r0, r1, r2, r3⟩ := hs0
  clear hld n0 n1 n2 n3 n4 n5 n6 n7
  go_region_held (fun w' => w'.cell? ⟨N, 2, none⟩ = some (.int .i64 (X i).d) ∧ w'.cell? ⟨N, 7, none⟩ = some (.int .u32 (X i).word) ∧ w'.cell? ⟨l.L, 2, none⟩ = some (.slice (some ⟨l.F, 0, none⟩) l.n l.n) ∧ w'.cell? ⟨l.F, i, none⟩ = some (.int .i64 (s.f i))) (go_keep)
    (first
      | (go_at_call 51; refine hj.mono ?_; rintro e9 w9 ⟨sv, rfl, hrow, hb9⟩; have hbb : Below w1.heap.size w1 w9 := (Below.refl _ _).drew.trans hb9; have hc9 : Chg (fun k => k = O) w1 w9 := Chg.of_below hbb; have hs9 := HLD.out w9 hc9; obtain ⟨y0, y1, y2, y3⟩ := hs9)
      | (go_at_call 49; refine (appendRow_at (L := jumpL X l.n b0 s.f i (X i).d (s.f i)) (H.out.2.2.1.keep (hbb.block _ H.out.2.2.1.lt.2)) (H.out.2.2.2.below hbb) hrow HL.out.2.1 HL.out.2.2 H.out.2.2.1.lt.2 HL.out.1 H.out.1.cap H.out.1.B1).mono ?_; rintro eA wA ⟨rfl, hwA, hCA⟩; have hcA : Chg (fun k => k = O) w1 wA := hc9.trans hCA (fun _ h => Or.inl h); have hsA := HLD.out wA hcA; obtain ⟨x0, x1, x2, x3⟩ := hsA))
  all_goals
    go_wp2_with fail
    go_ret
    unfold Appended
    rw [e, List.length_map]
    exact ⟨rfl, hwA, HV.out.chg hcA⟩
set_option maxRecDepth 100000 in
set_option maxHeartbeats 2000000 in
theorem appendWords_5 {w : World} {l : LL} {X : Nat → It} {b0 : Int} {s : LS} {B O len cap : Nat} {xs : List Int} {i : Nat} (h : AW w l X b0 s B O len cap xs i) (hk : (X i).kind = 5) (hall : ∀ k, l.rd k → k < O) (hpO : 0 < l.n → ∀ a, l.p = some a → a.block < O) :
    Calls Tryd.prog 36 #[.pointer (some ⟨l.L, 0, none⟩), .slice (some ⟨O, 0, none⟩) len cap, .int .i64 i] w fun e w' => Appended w X l.n b0 s.f B O len cap xs i e w' := by
  obtain ⟨b, off, hp, k0, k1, k2, k3, k4, k5, k6, k7⟩ := h.core.items.at h.lt
  have c0 := h.core.c0
  rw [hp] at c0
  have ei : (i : Int) < l.n := by have := h.lt; omega
  obtain ⟨w1, hw1⟩ : ∃ w1, w1 = w.alloc (.cells #[.int .i64 (X i).kind, .int .i64 (X i).op, .int .i64 (X i).d, .int .i64 (X i).a, .int .i64 (X i).b, .int .i64 (X i).imm, .string (X i).lab, .int .u32 (X i).word] 40) := ⟨_, rfl⟩
  have hN := heap_new w (.cells #[.int .i64 (X i).kind, .int .i64 (X i).op, .int .i64 (X i).d, .int .i64 (X i).a, .int .i64 (X i).b, .int .i64 (X i).imm, .string (X i).lab, .int .u32 (X i).word] 40)
  have hb1 : Below w.heap.size w w1 := by rw [hw1]; exact (Below.refl _ _).alloc (Nat.le_refl _) _
  rw [← hw1] at hN
  obtain ⟨N, hNe⟩ : ∃ N, N = w.heap.size := ⟨_, rfl⟩
  rw [← hNe] at hN
  obtain ⟨n0, n1, n2, n3, n4, n5, n6, n7⟩ := cells8 hN
  have HV := Lib.hid (show AV w w1 l X b0 s B O len cap N xs i from ⟨hb1, hN, hNe⟩)
  have hc1 := h.core.below hb1
  have hw1' := h.words.keep (hb1.block _ h.words.lt.2)
  have hE1 := h.env.below hb1
  have H := Lib.hid (And.intro h (And.intro hc1 (And.intro hw1' hE1)))
  rw [hk] at n0
  have HK := Lib.hid hk
  clear h hN hb1 hp hc1 hw1' hE1 hk
  go_enter Tryd.func36, Tryd.ntmps36
  go_upto_region 2 with fail
  rw [← hNe, ← hw1]
  clear hNe hw1 c0 k0 k1 k2 k3 k4 k5 k6 k7
  have e : iw X l.n b0 s.f i = (loadL (X i).d ((taddr X l.n b0 s.f i + (X i).word) % 4294967296)).map insW := by unfold iw; simp [HK.out]
  have hr := H.out.1.room
  rw [e, List.length_map] at hr
  have ht := target_at (H.out.2.1.below (Below.refl _ _).drew) i H.out.1.lt
  obtain ⟨t, hte⟩ : ∃ t, t = taddr X l.n b0 s.f i := ⟨_, rfl⟩
  rw [show ad X b0 s.f (tgt X l.n i) = t from hte.symm] at ht
  rw [← hte] at e hr
  have HL := Lib.hid (And.intro hr hte)
  obtain ⟨tv, htv⟩ : ∃ tv, tv = (t + (X i).word) % 4294967296 := ⟨_, rfl⟩
  rw [← htv] at e
  have hev : IntKind.u32.wrap (IntKind.u32.wrap t + (X i).word) = tv := by rw [IntKind.wrap_u32, IntKind.wrap_u32, htv]; omega
  have htr : 0 ≤ tv ∧ tv < 4294967296 := by omega
  have HE := Lib.hid hev
  have hll : (loadL (X i).d tv).length = 2 := rfl
  clear hr hte hev htv
  go_wp2_with fail
  have hlO := H.out.1.words.lt.2
  have hld : ∀ w', Chg (fun k => k = O) w1 w' → w'.cell? ⟨N, 2, none⟩ = some (.int .i64 (X i).d) ∧ w'.cell? ⟨N, 7, none⟩ = some (.int .u32 (X i).word) ∧ w'.cell? ⟨l.L, 2, none⟩ = some (.slice (some ⟨l.F, 0, none⟩) l.n l.n) ∧ w'.cell? ⟨l.F, i, none⟩ = some (.int .i64 (s.f i)) := by
    intro w' hc
    have g := H.out.2.1.chgO hc hall hpO
    have gN := hc.same HV.out.item (by have := HV.out.eq; omega)
    obtain ⟨m0, m1, m2, m3, m4, m5, m6, m7⟩ := cells8 gN
    exact ⟨m2, m7, g.c2, g.cf H.out.1.lt⟩
  have HLD := Lib.hid hld
  have hs := hld w1.drew ((Chg.refl _ _).drew)
  obtain ⟨z0, z1, z2, z3⟩ := hs
  have hs0 := hld w1 (Chg.refl _ _)
  obtain ⟨r0, r1, r2, r3⟩ := hs0
  clear hld n0 n1 n2 n3 n4 n5 n6 n7
  go_region_held (fun w' => w'.cell? ⟨N, 2, none⟩ = some (.int .i64 (X i).d) ∧ w'.cell? ⟨N, 7, none⟩ = some (.int .u32 (X i).word) ∧ w'.cell? ⟨l.L, 2, none⟩ = some (.slice (some ⟨l.F, 0, none⟩) l.n l.n) ∧ w'.cell? ⟨l.F, i, none⟩ = some (.int .i64 (s.f i))) (go_keep)
    (first
      | (go_at_call 53; refine ht.mono ?_; rintro e9 w9 ⟨rfl, m9, rfl⟩)
      | (go_at_call 52; rw [HE.out]; refine (load_any (X i).d tv _ htr.1 htr.2).mono ?_; rintro e8 w8 ⟨sv, rfl, hrow, hb8⟩; have hbb : Below w1.heap.size w1 w8 := (below_drewN (Below.refl _ _) _).trans hb8; have hc8 : Chg (fun k => k = O) w1 w8 := Chg.of_below hbb; have hs8 := HLD.out w8 hc8; obtain ⟨y0, y1, y2, y3⟩ := hs8)
      | (go_at_call 49; refine (appendRow_at (L := loadL (X i).d tv) (H.out.2.2.1.keep (hbb.block _ H.out.2.2.1.lt.2)) (H.out.2.2.2.below hbb) hrow (show 0 < 2 by decide) (show 2 ≤ 4 by decide) H.out.2.2.1.lt.2 HL.out.1 H.out.1.cap H.out.1.B1).mono ?_; rintro eA wA ⟨rfl, hwA, hCA⟩; have hcA : Chg (fun k => k = O) w1 wA := hc8.trans hCA (fun _ h => Or.inl h); have hsA := HLD.out wA hcA; obtain ⟨x0, x1, x2, x3⟩ := hsA))
  all_goals
    go_wp2_with fail
    go_ret
    unfold Appended
    rw [e, List.length_map]
    exact ⟨rfl, hwA, HV.out.chg hcA⟩
set_option maxRecDepth 100000 in
set_option maxHeartbeats 2000000 in
theorem appendWords_7 {w : World} {l : LL} {X : Nat → It} {b0 : Int} {s : LS} {B O len cap : Nat} {xs : List Int} {i : Nat} (h : AW w l X b0 s B O len cap xs i) (hk : (X i).kind = 7) (hall : ∀ k, l.rd k → k < O) (hpO : 0 < l.n → ∀ a, l.p = some a → a.block < O) :
    Calls Tryd.prog 36 #[.pointer (some ⟨l.L, 0, none⟩), .slice (some ⟨O, 0, none⟩) len cap, .int .i64 i] w fun e w' => Appended w X l.n b0 s.f B O len cap xs i e w' := by
  obtain ⟨b, off, hp, k0, k1, k2, k3, k4, k5, k6, k7⟩ := h.core.items.at h.lt
  have c0 := h.core.c0
  rw [hp] at c0
  have ei : (i : Int) < l.n := by have := h.lt; omega
  obtain ⟨w1, hw1⟩ : ∃ w1, w1 = w.alloc (.cells #[.int .i64 (X i).kind, .int .i64 (X i).op, .int .i64 (X i).d, .int .i64 (X i).a, .int .i64 (X i).b, .int .i64 (X i).imm, .string (X i).lab, .int .u32 (X i).word] 40) := ⟨_, rfl⟩
  have hN := heap_new w (.cells #[.int .i64 (X i).kind, .int .i64 (X i).op, .int .i64 (X i).d, .int .i64 (X i).a, .int .i64 (X i).b, .int .i64 (X i).imm, .string (X i).lab, .int .u32 (X i).word] 40)
  have hb1 : Below w.heap.size w w1 := by rw [hw1]; exact (Below.refl _ _).alloc (Nat.le_refl _) _
  rw [← hw1] at hN
  obtain ⟨N, hNe⟩ : ∃ N, N = w.heap.size := ⟨_, rfl⟩
  rw [← hNe] at hN
  obtain ⟨n0, n1, n2, n3, n4, n5, n6, n7⟩ := cells8 hN
  have HV := Lib.hid (show AV w w1 l X b0 s B O len cap N xs i from ⟨hb1, hN, hNe⟩)
  have hc1 := h.core.below hb1
  have hw1' := h.words.keep (hb1.block _ h.words.lt.2)
  have hE1 := h.env.below hb1
  have H := Lib.hid (And.intro h (And.intro hc1 (And.intro hw1' hE1)))
  rw [hk] at n0
  have HK := Lib.hid hk
  clear h hN hb1 hp hc1 hw1' hE1 hk
  go_enter Tryd.func36, Tryd.ntmps36
  go_upto_region 2 with fail
  rw [← hNe, ← hw1]
  clear hNe hw1 c0 k0 k1 k2 k3 k4 k5 k6 k7
  have e : iw X l.n b0 s.f i = [(4 * taddr X l.n b0 s.f i + (X i).word) % 4294967296] := by unfold iw; simp [HK.out]
  have hr := H.out.1.room
  rw [e] at hr
  have hr : len + 1 ≤ cap := hr
  have ht := target_at (H.out.2.1.below (Below.refl _ _).drew) i H.out.1.lt
  obtain ⟨t, hte⟩ : ∃ t, t = taddr X l.n b0 s.f i := ⟨_, rfl⟩
  rw [show ad X b0 s.f (tgt X l.n i) = t from hte.symm] at ht
  rw [← hte] at e
  obtain ⟨tv, htv⟩ : ∃ tv, tv = (4 * t + (X i).word) % 4294967296 := ⟨_, rfl⟩
  rw [← htv] at e
  have hev : IntKind.u32.wrap (IntKind.u32.wrap (4 * IntKind.u32.wrap t) + (X i).word) = tv := by rw [IntKind.wrap_u32, IntKind.wrap_u32, IntKind.wrap_u32, htv]; omega
  have HE := Lib.hid (And.intro hev (And.intro hte hr))
  clear hr hte hev htv
  go_wp2_with fail
  have hwk : ∀ m O1, Words ((w1.drewN m).alloc O1) B O len cap xs := fun m O1 => H.out.2.2.1.keep ((below_drewN (Below.refl w1.heap.size w1) m).alloc (Nat.le_refl _) O1 |>.block _ H.out.2.2.1.lt.2)
  have hnew : ∀ m (v : Value) j u, [v][j]? = some u → ((w1.drewN m).alloc (.cells #[v] 38)).cell? ((⟨w1.heap.size, 0, none⟩ : Addr).add j) = some u := fun m v j u hu => (cell_newL (w1.drewN m) [v] 38 j).trans hu
  have HWK := Lib.hid (And.intro hwk hnew)
  clear hwk hnew
  have hlO := H.out.1.words.lt.2
  have hld : ∀ w', Chg (fun k => k = O) w1 w' → w'.cell? ⟨N, 2, none⟩ = some (.int .i64 (X i).d) ∧ w'.cell? ⟨N, 7, none⟩ = some (.int .u32 (X i).word) ∧ w'.cell? ⟨l.L, 2, none⟩ = some (.slice (some ⟨l.F, 0, none⟩) l.n l.n) ∧ w'.cell? ⟨l.F, i, none⟩ = some (.int .i64 (s.f i)) := by
    intro w' hc
    have g := H.out.2.1.chgO hc hall hpO
    have gN := hc.same HV.out.item (by have := HV.out.eq; omega)
    obtain ⟨m0, m1, m2, m3, m4, m5, m6, m7⟩ := cells8 gN
    exact ⟨m2, m7, g.c2, g.cf H.out.1.lt⟩
  have HLD := Lib.hid hld
  have hs := hld w1.drew ((Chg.refl _ _).drew)
  obtain ⟨z0, z1, z2, z3⟩ := hs
  have hs0 := hld w1 (Chg.refl _ _)
  obtain ⟨r0, r1, r2, r3⟩ := hs0
  clear hld n0 n1 n2 n3 n4 n5 n6 n7
  go_region_held_law (fun w' => w'.cell? ⟨N, 2, none⟩ = some (.int .i64 (X i).d) ∧ w'.cell? ⟨N, 7, none⟩ = some (.int .u32 (X i).word) ∧ w'.cell? ⟨l.L, 2, none⟩ = some (.slice (some ⟨l.F, 0, none⟩) l.n l.n) ∧ w'.cell? ⟨l.F, i, none⟩ = some (.int .i64 (s.f i))) (go_keep)
    (first
      | (go_at_call 53; refine ht.mono ?_; rintro e9 w9 ⟨rfl, m9, rfl⟩)
      | (refine step_words rfl _ _ rfl B O len cap xs rfl (HWK.out.1 _ _) ⟨w1.heap.size, 0, none⟩ 1 (IntKind.u32.wrap (IntKind.u32.wrap (4 * IntKind.u32.wrap t) + (X i).word)) rfl (HWK.out.2 _ _) HE.out.2.2 ?_; intro wA hwA hgA; have hcA : Chg (fun k => k = O) w1 wA := Chg.trans (F := fun k => k = O) (F' := fun k => k = O) (Chg.of_below ((below_drewN (Below.refl w1.heap.size w1) _).alloc (Nat.le_refl _) _)) (Chg.grown1 hgA) (fun _ h => Or.inl h); have hsA := HLD.out wA hcA; obtain ⟨x0, x1, x2, x3⟩ := hsA))
  all_goals
    rw [HE.out.1] at hwA
    go_wp2_with fail
    go_ret
    unfold Appended
    rw [e]
    refine ⟨?_, hwA, HV.out.chg hcA⟩
    first | rfl | (simp; done) | (simp; rfl)
theorem appendWords_at {w : World} {l : LL} {X : Nat → It} {b0 : Int} {s : LS} {B O len cap : Nat} {xs : List Int} {i : Nat} (h : AW w l X b0 s B O len cap xs i) (hk : 1 ≤ (X i).kind ∧ (X i).kind ≤ 8) (hall : ∀ k, l.rd k → k < O) (hpO : 0 < l.n → ∀ a, l.p = some a → a.block < O) :
    Calls Tryd.prog 36 #[.pointer (some ⟨l.L, 0, none⟩), .slice (some ⟨O, 0, none⟩) len cap, .int .i64 i] w fun e w' => Appended w X l.n b0 s.f B O len cap xs i e w' := by
  rcases (show (X i).kind = 1 ∨ (X i).kind = 2 ∨ (X i).kind = 3 ∨ (X i).kind = 4 ∨ (X i).kind = 5 ∨ (X i).kind = 6 ∨ (X i).kind = 7 ∨ (X i).kind = 8 by omega) with e | e | e | e | e | e | e | e
  · exact appendWords_1 h e
  · exact appendWords_2 h e
  · exact appendWords_3 h e
  · exact appendWords_4 h e hall hpO
  · exact appendWords_5 h e hall hpO
  · exact appendWords_6 h e
  · exact appendWords_7 h e hall hpO
  · exact appendWords_8 h e
end Go.Proofs.YtbplmbignalbgaaDoor
