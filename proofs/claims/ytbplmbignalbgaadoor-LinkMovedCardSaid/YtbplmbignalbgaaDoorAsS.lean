/- Contracts: instructions of jumps and branches. Conditions: the layout lies as told. -/
import Derived.Test.YtbplmbignalbgaaDoorAsR
import Derived.Test.YtbplmbignalbgaaDoorIsaWd
namespace Go.Proofs.YtbplmbignalbgaaDoor
open Go.RowKit Asm
set_option linter.unusedVariables false
set_option linter.unusedSimpArgs false

/-- An instruction. -/
structure Ins where
  op : Int
  d : Int
  a : Int
  b : Int
  imm : Int
def insC (x : Ins) : List Value := [.int .i64 x.op, .int .i64 x.d, .int .i64 x.a, .int .i64 x.b, .int .i64 x.imm]
def rowJ (L : List Ins) : List Value := L.flatMap insC
def insW (x : Ins) : Int := Isa.enc x.op x.d x.a x.b x.imm
def loadL (d v : Int) : List Ins := [⟨23, d, 0, 0, v / 65536⟩, ⟨17, d, d, 0, v % 65536⟩]
theorem rowJ_len (L : List Ins) : (rowJ L).length = L.length * 5 := by
  unfold rowJ
  induction L with
  | nil => rfl
  | cons x r ih => rw [List.flatMap_cons, List.length_append, ih, List.length_cons]; show 5 + _ = _; omega
theorem rowJ_app (L M : List Ins) : rowJ (L ++ M) = rowJ L ++ rowJ M := by unfold rowJ; rw [List.flatMap_append]
theorem one_rowJ (L : List Ins) : ∀ u ∈ rowJ L, u.oneCell' = true := by
  intro u hu
  unfold rowJ insC at hu
  obtain ⟨x, -, hx⟩ := List.mem_flatMap.1 hu
  simp only [List.mem_cons, List.not_mem_nil, or_false] at hx
  rcases hx with rfl | rfl | rfl | rfl | rfl <;> rfl
theorem infoJ : (Tryd.prog.info? 37).map (fun i => (i.zero, i.size, i.bytes)) = some (some (.agg #[.int .i64 0, .int .i64 0, .int .i64 0, .int .i64 0, .int .i64 0]), 5, 40) := by kernel_rfl
theorem infoJ_of : ∃ i, Tryd.prog.info? 37 = some i ∧ i.zero = some (.agg #[.int .i64 0, .int .i64 0, .int .i64 0, .int .i64 0, .int .i64 0]) ∧ i.size = 5 ∧ i.bytes = 40 := by
  obtain ⟨i, hi, hx⟩ := Option.map_eq_some_iff.1 infoJ
  simp only [Prod.mk.injEq] at hx
  exact ⟨i, hi, hx⟩
theorem and16 {v : Int} (h0 : 0 ≤ v) (h1 : v < 4294967296) : bits .and .u32 v 65535 = v % 65536 := by
  have := Isa.mask v 16 (by decide)
  rw [show v % 4294967296 = v by omega] at this
  exact this

set_option maxRecDepth 100000 in
set_option maxHeartbeats 2000000 in
theorem load_any (d v : Int) (w : World) (h0 : 0 ≤ v) (h1 : v < 4294967296) :
    Calls Tryd.prog 52 #[.int .i64 d, .int .u32 v] w fun e w' => ∃ sv, e = .returned sv ∧ w'.ownsRow w.heap.size 37 5 sv 2 (rowJ (loadL d v)) ∧ Below w.heap.size w w' := by
  have ha := and16 h0 h1
  go_enter Tryd.func52, Tryd.ntmps52
  go_wp2_with fail
  go_ret
  exact ⟨_, rfl, World.ownsRow_lit (base := w.heap.size) (e := 37) (size := 5) w _ 2 (Nat.le_refl _) (by decide) rfl, (Below.refl _ _).alloc (Nat.le_refl _) _⟩

def jumpL (X : Nat → It) (n : Nat) (base : Int) (f : Nat → Nat) (i : Nat) (d : Int) (form : Nat) : List Ins :=
  if form = 1 then [⟨32, d, 0, 0, dist X n base f i⟩] else loadL 25 (ad X base f (tgt X n i) % 4294967296) ++ [⟨33, d, 25, 0, 0⟩]
def branchL (X : Nat → It) (n : Nat) (base : Int) (f : Nat → Nat) (i : Nat) : List Ins :=
  if f i = 1 then [⟨(X i).op, 0, (X i).a, (X i).b, dist X n base f i⟩] else ⟨turned (X i).op, 0, (X i).a, (X i).b, (jumpL X n base f i 0 (f i - 1)).length⟩ :: jumpL X n base f i 0 (f i - 1)
theorem jumpL_len (X : Nat → It) (n : Nat) (base : Int) (f : Nat → Nat) (i : Nat) (d : Int) (form : Nat) : (jumpL X n base f i d form).length = if form = 1 then 1 else 3 := by
  unfold jumpL
  split
  · rfl
  · rfl
theorem cell_newL (w : World) (L : List Value) (t j : Nat) : (w.alloc (.cells L.toArray t)).cell? ((⟨w.heap.size, 0, none⟩ : Addr).add j) = L[j]? := by
  have h := heap_new w (.cells L.toArray t)
  have e : (⟨w.heap.size, 0, none⟩ : Addr).add j = ⟨w.heap.size, j, none⟩ := by unfold Addr.add; split <;> simp_all
  rw [e, cell_of_block h]
  simp
theorem row_shape5 {w : World} {base m n : Nat} {v : Value} {xs : List Value} (h : w.ownsRow base 37 m v n xs) (hn : 0 < n) : ∃ g cap, v = .slice (some ⟨g, 0, none⟩) n cap ∧ base ≤ g := by
  rcases h.2 with ⟨-, h0⟩ | ⟨g, cap, cur, rfl, hb, -⟩
  · omega
  · exact ⟨g, cap, rfl, hb⟩

set_option maxRecDepth 100000 in
set_option maxHeartbeats 2000000 in
theorem jump_at {w : World} {l : LL} {X : Nat → It} {b0 : Int} {s : LS} (h : LCore w l X b0 s) (i : Nat) (hi : i < l.n) (d : Int) (form : Nat) (hf : form < 100) :
    Calls Tryd.prog 51 #[.pointer (some ⟨l.L, 0, none⟩), .int .i64 i, .int .i64 d, .int .i64 form] w fun e w' => ∃ sv, e = .returned sv ∧ w'.ownsRow w.heap.size 37 5 sv (jumpL X l.n b0 s.f i d form).length (rowJ (jumpL X l.n b0 s.f i d form)) ∧ Below w.heap.size w w' := by
  have H := Lib.hid h
  clear h
  by_cases h1 : form = 1
  · subst h1
    go_enter Tryd.func51, Tryd.ntmps51
    go_wp2_with fail
    refine (distance_at H.out i hi).mono ?_
    rintro e w1 ⟨rfl, m1, rfl⟩
    go_wp2_with fail
    go_ret
    refine ⟨_, rfl, ?_, (below_drewN (Below.refl _ _) m1).alloc (Nat.le_refl _) _⟩
    exact World.ownsRow_lit (base := w.heap.size) (e := 37) (size := 5) (w.drewN m1) _ 1 (Nat.le_refl _) (by decide) rfl
  · have d1 : ((form : Int) == 1) = false := by simp; omega
    have HF := Lib.hid h1
    clear h1
    obtain ⟨i0, hi0, hz0, hz1, hz2⟩ := infoJ_of
    go_enter Tryd.func51, Tryd.ntmps51
    go_wp2_with fail
    refine (target_at H.out i hi).mono ?_
    rintro e w1 ⟨rfl, m1, rfl⟩
    obtain ⟨t, ht⟩ : ∃ t, t = ad X b0 s.f (tgt X l.n i) := ⟨_, rfl⟩
    rw [← ht]
    have HT := Lib.hid ht
    clear ht
    have h32 : 0 ≤ t % 4294967296 ∧ t % 4294967296 < 4294967296 := by omega
    go_wp2_with fail
    refine (load_any 25 (t % 4294967296) (w.drewN m1) h32.1 h32.2).mono ?_
    rintro e w2 ⟨sv, rfl, ho, hb⟩
    have hb2 : Below w.heap.size w w2 := (below_drewN (Below.refl _ _) m1).trans hb
    have ho2 : w2.ownsRow w.heap.size 37 5 sv 2 (rowJ (loadL 25 (t % 4294967296))) := ho
    have HB := Lib.hid hb2
    clear hb hb2 ho
    go_wp2_with (first
      | (at_builtin; refine wpList_append_own _ rfl _ _ 95 rfl w.heap.size 37 i0 (.agg #[.int .i64 0, .int .i64 0, .int .i64 0, .int .i64 0, .int .i64 0]) 5 40 Tryd.underlying95 hi0 hz0 hz1 hz2 rfl (by decide) _ _ _ rfl (ho2.alloc _) ⟨w2.heap.size, 0, none⟩ 1 1 (insC ⟨33, d, 25, 0, 0⟩) rfl rfl ?c0 ?c1 ?c3 ?c4 ?c5 ?_)
      | fail)
    case c0 => intro j u hu; exact (cell_newL w2 (insC ⟨33, d, 25, 0, 0⟩) 37 j).trans hu
    case c1 => exact one_rowJ [⟨33, d, 25, 0, 0⟩]
    case c3 => unfold maxLen; omega
    case c4 => omega
    case c5 => have := HB.out.size; simp; omega
    intro v' w3 ho3 hg3 _
    have hb3 : Below w.heap.size w w3 := (HB.out.alloc HB.out.size _).grown hg3 (by have := HB.out.size; simp; omega) (fun k hk => (ho2.lt k hk).1)
    have H3 := Lib.hid (And.intro ho3 hb3)
    clear ho3 hg3 hb3 ho2
    go_wp2_with fail
    go_ret
    refine ⟨_, rfl, ?_, H3.out.2⟩
    have e : jumpL X l.n b0 s.f i d form = loadL 25 (t % 4294967296) ++ [⟨33, d, 25, 0, 0⟩] := by
      unfold jumpL
      rw [if_neg HF.out, ← HT.out]
    rw [e, rowJ_app]
    exact H3.out.1
set_option maxRecDepth 100000 in
set_option maxHeartbeats 2000000 in
theorem branch_at {w : World} {l : LL} {X : Nat → It} {b0 : Int} {s : LS} (h : LCore w l X b0 s) (i : Nat) (hi : i < l.n) (hk : (X i).kind = 3) :
    Calls Tryd.prog 50 #[.pointer (some ⟨l.L, 0, none⟩), .int .i64 i] w fun e w' => ∃ sv, e = .returned sv ∧ w'.ownsRow w.heap.size 37 5 sv (branchL X l.n b0 s.f i).length (rowJ (branchL X l.n b0 s.f i)) ∧ Below w.heap.size w w' := by
  have hv := h.valid i hi
  rw [if_pos hk] at hv
  obtain ⟨b, off, hp, hld⟩ := held_of hi h.lay h.items (h.cf hi)
  have H := Lib.hid (And.intro h hld)
  have c0 := h.c0
  have c2 := h.c2
  have cf := h.cf hi
  rw [hp] at c0
  have ei : (i : Int) < l.n := by omega
  obtain ⟨-, -, -, k0, k1, k2, k3, k4, k5, k6, k7⟩ := hld w (Below.refl _ _)
  clear h hp hld hk
  obtain ⟨w1, hw1⟩ : ∃ w1, w1 = w.alloc (.cells #[.int .i64 (X i).op, .int .i64 (X i).d, .int .i64 (X i).a, .int .i64 (X i).b, .int .i64 (X i).imm] 37) := ⟨_, rfl⟩
  have hb1 : Below w.heap.size w w1 := by rw [hw1]; exact (Below.refl _ _).alloc (Nat.le_refl _) _
  have hN := heap_new w (.cells #[.int .i64 (X i).op, .int .i64 (X i).d, .int .i64 (X i).a, .int .i64 (X i).b, .int .i64 (X i).imm] 37)
  rw [← hw1] at hN
  obtain ⟨N, hNe⟩ : ∃ N, N = w.heap.size := ⟨_, rfl⟩
  rw [← hNe] at hN
  obtain ⟨n0, n1, n2, n3, n4⟩ := cells5 hN
  have HN := Lib.hid (And.intro hN hNe)
  have h1 := H.out.1.below hb1
  have c2' := h1.c2
  have cf' := h1.cf hi
  have HB := Lib.hid (And.intro hb1 h1)
  clear hb1 h1 hN
  go_enter Tryd.func50, Tryd.ntmps50
  go_upto_region 2 with fail
  rw [← hNe, ← hw1]
  clear hw1 hNe c0 c2 cf k0 k1 k2 k3 k4 k5 k6 k7
  by_cases h1 : s.f i = 1
  · have d1 : ((s.f i : Int) == 1) = true := by simp [h1]
    have HF := Lib.hid h1
    clear h1
    go_wp2_with fail
    have HW := Lib.hid (HB.out.2.below (Below.refl _ _).drew)
    go_region_held (fun w' => w'.cell? ⟨N, 0, none⟩ = some (.int .i64 (X i).op) ∧ w'.cell? ⟨N, 2, none⟩ = some (.int .i64 (X i).a) ∧ w'.cell? ⟨N, 3, none⟩ = some (.int .i64 (X i).b)) (go_keep)
      (first | (go_at_call 63; refine (distance_at HW.out i hi).mono ?_; rintro e w9 ⟨rfl, m9, rfl⟩))
    all_goals
      go_wp2_with fail
      go_ret
      have hbb : Below w.heap.size w (w1.drewN (1 + m9)) := below_drewN HB.out.1 _
      have e : branchL X l.n b0 s.f i = [⟨(X i).op, 0, (X i).a, (X i).b, dist X l.n b0 s.f i⟩] := by unfold branchL; rw [if_pos HF.out]
      rw [e]
      refine ⟨_, rfl, ?_, hbb.alloc hbb.size _⟩
      exact World.ownsRow_lit (base := w.heap.size) (e := 37) (size := 5) _ _ 1 hbb.size (by decide) rfl
  · have d1 : ((s.f i : Int) == 1) = false := by simp; omega
    have HF := Lib.hid h1
    clear h1
    have hj := jump_at HB.out.2 i hi 0 (s.f i - 1) (by omega)
    rw [show ((s.f i - 1 : Nat) : Int) = (s.f i : Int) - 1 by omega] at hj
    go_wp2_with fail
    refine hj.mono ?_
    rintro e w2 ⟨sv, rfl, ho, hb⟩
    obtain ⟨J, hJ⟩ : ∃ J, J = jumpL X l.n b0 s.f i 0 (s.f i - 1) := ⟨_, rfl⟩
    rw [← hJ] at ho
    have hJl : J.length = 1 ∨ J.length = 3 := by rw [hJ, jumpL_len]; split <;> simp
    obtain ⟨g, cap, rfl, hg⟩ := row_shape5 ho (by omega)
    obtain ⟨m, hm⟩ : ∃ m, m = J.length := ⟨_, rfl⟩
    rw [← hm] at ho hJl ⊢
    have hN2 := (hb.block _ (lt_of_block HN.out.1)).trans HN.out.1
    obtain ⟨n0, n1, n2, n3, n4⟩ := cells5 hN2
    have HJ := Lib.hid (And.intro ho (And.intro hb (And.intro hg (And.intro hJ hm))))
    clear hj ho hb hg hJ hm hN2
    have q0 := World.new_ne w2 ⟨N, 0, none⟩ n0
    have q1 := World.new_ne w2 ⟨N, 2, none⟩ n2
    have q2 := World.new_ne w2 ⟨N, 3, none⟩ n3
    go_wp2_with fail
    go_region_held (fun w' => w'.cell? ⟨N, 0, none⟩ = some (.int .i64 (X i).op) ∧ w'.cell? ⟨N, 2, none⟩ = some (.int .i64 (X i).a) ∧ w'.cell? ⟨N, 3, none⟩ = some (.int .i64 (X i).b)) (go_keep)
      (first | (go_at_call 57; refine (turned_any _ _).mono ?_; rintro e w' ⟨rfl, rfl⟩))
    all_goals
      obtain ⟨ho, hb, hg, hJ, hm⟩ := HJ.out
      have hK := (Below.refl w2.heap.size w2).alloc (Nat.le_refl _) (.cells #[.int .i64 (turned (X i).op), .int .i64 0, .int .i64 (X i).a, .int .i64 (X i).b, .int .i64 m] 37)
      have hKn := heap_new w2 (.cells #[.int .i64 (turned (X i).op), .int .i64 0, .int .i64 (X i).a, .int .i64 (X i).b, .int .i64 m] 37)
      obtain ⟨w3, hw3⟩ : ∃ w3, w3 = (w2.alloc (.cells #[.int .i64 (turned (X i).op), .int .i64 0, .int .i64 (X i).a, .int .i64 (X i).b, .int .i64 m] 37)).drew := ⟨_, rfl⟩
      have hb3 : Below w2.heap.size w2 w3 := by rw [hw3]; exact hK.drew
      have hK3 : w3.heap[w2.heap.size]? = some (.cells #[.int .i64 (turned (X i).op), .int .i64 0, .int .i64 (X i).a, .int .i64 (X i).b, .int .i64 m] 37 (0, 0)) := by rw [hw3]; exact hKn
      rw [← hw3]
      clear hw3 hK hKn n0 n1 n2 n3 n4 q0 q1 q2
      obtain ⟨n0, n1, n2, n3, n4⟩ := cells5 hK3
      have hbw : Below w.heap.size w w3 := (HB.out.1.trans (hb.mono HB.out.1.size)).trans (hb3.mono (Nat.le_trans HB.out.1.size hb.size))
      have hcells : ∀ j u, (rowJ J)[j]? = some u → w3.cell? ((⟨g, 0, none⟩ : Addr).add j) = some u := fun j u hu => by
        have h1 := ho.cells rfl j u hu
        exact (hb3.cell (World.block_lt_of_cell? w2 _ h1)).trans h1
      have HC := Lib.hid (And.intro hcells (And.intro hbw (And.intro hJ hm)))
      clear hcells hbw hJ hm ho hb hg hb3 hK3
      obtain ⟨i0, hi0, hz0, hz1, hz2⟩ := infoJ_of
      have hrow := World.ownsRow_lit (base := w3.heap.size) (e := 37) (size := 5) w3 #[.int .i64 (turned (X i).op), .int .i64 0, .int .i64 (X i).a, .int .i64 (X i).b, .int .i64 m] 1 (Nat.le_refl _) (by decide) rfl
      have h00 : (rowJ J).length = m * 5 := by rw [rowJ_len, HC.out.2.2.2]
      have h0 : ∀ j u, (rowJ J)[j]? = some u → (w3.alloc (.cells #[.int .i64 (turned (X i).op), .int .i64 0, .int .i64 (X i).a, .int .i64 (X i).b, .int .i64 m] 37)).cell? ((⟨g, 0, none⟩ : Addr).add j) = some u := fun j u hu =>
        (World.cell?_alloc_lt _ _ _ (World.block_lt_of_cell? w3 _ (HC.out.1 j u hu))).trans (HC.out.1 j u hu)
      have h3 : 1 + m ≤ maxLen := by unfold maxLen; omega
      have h4 : (1 + m) * 40 ≤ 140737488355328 := by omega
      have h5 : w3.heap.size ≤ (w3.alloc (.cells #[.int .i64 (turned (X i).op), .int .i64 0, .int .i64 (X i).a, .int .i64 (X i).b, .int .i64 m] 37)).heap.size := by simp
      have HH := Lib.hid (And.intro h00 (And.intro h0 (And.intro h3 (And.intro h4 h5))))
      clear h00 h0 h3 h4 h5
      go_wp2_with (first
        | (at_builtin; refine wpList_append_own _ rfl _ _ 95 rfl w3.heap.size 37 i0 (.agg #[.int .i64 0, .int .i64 0, .int .i64 0, .int .i64 0, .int .i64 0]) 5 40 Tryd.underlying95 hi0 hz0 hz1 hz2 rfl (by decide) _ _ _ rfl hrow ⟨g, 0, none⟩ m cap (rowJ J) rfl HH.out.1 HH.out.2.1 (one_rowJ J) HH.out.2.2.1 HH.out.2.2.2.1 HH.out.2.2.2.2 ?_)
        | fail)
      intro v' w4 ho4 hg4 _
      have hb4 : Below w.heap.size w w4 := (HC.out.2.1.alloc HC.out.2.1.size _).grown hg4 (by have := HC.out.2.1.size; simp; omega) (fun k hk => Nat.le_trans HC.out.2.1.size (hrow.lt k hk).1)
      have H4 := Lib.hid (And.intro ho4 hb4)
      clear ho4 hg4 hb4 hrow
      go_wp2_with fail
      go_ret
      obtain ⟨-, -, hJ, hm⟩ := HC.out
      have e : branchL X l.n b0 s.f i = ⟨turned (X i).op, 0, (X i).a, (X i).b, m⟩ :: J := by
        unfold branchL
        rw [if_neg HF.out, ← hJ, ← hm]
      rw [e]
      refine ⟨_, rfl, ?_, H4.out.2⟩
      have e2 : rowJ (⟨turned (X i).op, 0, (X i).a, (X i).b, m⟩ :: J) = #[Value.int .i64 (turned (X i).op), .int .i64 0, .int .i64 (X i).a, .int .i64 (X i).b, .int .i64 m].toList ++ rowJ J := by
        unfold rowJ
        rw [List.flatMap_cons]
        rfl
      rw [e2, List.length_cons, ← hm, Nat.add_comm m 1]
      refine ⟨H4.out.1.1, H4.out.1.2.imp id ?_⟩
      rintro ⟨g2, cap2, cur2, rfl, hb2, rest⟩
      exact ⟨g2, cap2, cur2, rfl, Nat.le_trans HC.out.2.1.size hb2, rest⟩
end Go.Proofs.YtbplmbignalbgaaDoor
