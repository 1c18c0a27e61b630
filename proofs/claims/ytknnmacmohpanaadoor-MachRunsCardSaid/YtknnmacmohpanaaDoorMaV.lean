/- How the document's machine lies in memory; contracts: its New. Conditions: words and input read as told; the memory has 1024 words at most. -/
import Derived.Test.YtknnmacmohpanaaDoorMaU
import Derived.Laws.MakeOwn
namespace Go.Proofs.YtknnmacmohpanaaDoor
open Go.RowKit
set_option linter.unusedVariables false
set_option linter.unusedSimpArgs false

/-- Where the document's machine lies: itself, its memory, its input, its output. -/
structure QL where
  Q : Nat
  B : Nat
  vi : Value
  vo : Value
def qcell (l : QL) (m : MS) (i : Nat) : Value :=
  if i < 32 then .int .u32 (m.regs i) else if i = 32 then .slice (some ⟨l.B, 0, none⟩) m.size m.size else if i = 33 then .int .u32 m.place else if i = 34 then l.vi else if i = 35 then l.vo
  else if i = 36 then .int .i64 m.state else if i = 37 then .int .u32 m.code else if i = 38 then .int .i64 m.trap else .int .i64 m.steps
def qmem (m : MS) (i : Nat) : Value := .int .u32 (m.mem i)
def QL.fp (l : QL) (k : Nat) : Prop := k = l.Q ∨ k = l.B ∨ inB l.vi = some k ∨ l.vo.ownBlock = some k
structure QRep (base : Nat) (w : World) (l : QL) (m : MS) : Prop where
  ok : MOk m
  mac : w.heap[l.Q]? = some (.cells (cellsF 40 (qcell l m)) 43 (0, 0))
  mem : w.heap[l.B]? = some (.cells (cellsF m.size (qmem m)) 38 (0, 0))
  inp : InRep w l.vi m.inp
  out : w.ownsRow base 5 1 l.vo m.out.length (byL m.out)
  ne : inB l.vi = none ∨ inB l.vi ≠ l.vo.ownBlock
  lb : ∀ k, l.fp k → base ≤ k
namespace QRep
variable {base : Nat} {w w' : World} {l : QL} {m : MS}
theorem lt (h : QRep base w l m) {k : Nat} (hk : l.fp k) : k < w.heap.size := by
  rcases hk with rfl | rfl | hk | hk
  · exact lt_of_block h.mac
  · exact lt_of_block h.mem
  · obtain ⟨cs, hg⟩ := h.inp.block hk; exact lt_of_block hg
  · exact (h.out.lt k hk).2
theorem frame (h : QRep base w l m) (hb : ∀ k, l.fp k → w'.heap[k]? = w.heap[k]?) : QRep base w' l m where
  ok := h.ok
  mac := (hb _ (Or.inl rfl)).trans h.mac
  mem := (hb _ (Or.inr (Or.inl rfl))).trans h.mem
  inp := h.inp.kept fun k hk => hb _ (Or.inr (Or.inr (Or.inl hk)))
  out := own_kept h.out fun k hk => hb _ (Or.inr (Or.inr (Or.inr hk)))
  ne := h.ne
  lb := h.lb
theorem chg (h : QRep base w l m) {F : Nat → Prop} (hc : Chg F w w') (hF : ∀ k, l.fp k → ¬ F k) : QRep base w' l m := h.frame fun k hk => hc.block k (h.lt hk) (hF k hk)
theorem below (h : QRep base w l m) (hb : Below w.heap.size w w') : QRep base w' l m := h.frame fun k hk => hb.block k (h.lt hk)
theorem drew (h : QRep base w l m) : QRep base w.drew l m := h.below (Below.refl _ _).drew
end QRep

theorem WRead.plain {w : World} {v : Value} {ws : List Int} (h : WRead w v ws) : ∃ p c, v = .slice p ws.length c ∧ (ws ≠ [] → ∃ b off, p = some ⟨b, off, none⟩ ∧ ws.length ≤ c ∧ c ≤ 9223372036854775807 ∧ ∀ j, j < ws.length → w.cell? ⟨b, off + j, none⟩ = some (.int .u32 (ws.getD j 0))) := by
  rcases h with ⟨rfl, p, c, rfl⟩ | ⟨hne, ad, c, rfl, hc, hm, hr⟩
  · exact ⟨p, c, rfl, fun h => absurd rfl h⟩
  · refine ⟨some ad, c, rfl, fun _ => ?_⟩
    obtain ⟨b, off, spot⟩ := ad
    have hg : ∀ j, j < ws.length → (byW ws)[j]? = some (.int .u32 (ws.getD j 0)) := fun j hj => by
      unfold byW
      rw [List.getElem?_map, List.getElem?_eq_getElem hj]
      simp [List.getD, List.getElem?_eq_getElem hj]
    have h0 := hr 0 _ (hg 0 (List.length_pos_iff.2 hne))
    have hspot : spot = none := by simpa [Addr.add] using World.cell?_spot h0
    subst hspot
    refine ⟨b, off, rfl, hc, hm, fun j hj => ?_⟩
    have := hr j _ (hg j hj)
    rwa [Addr.add_mid] at this

theorem info38 : (Tryd.prog.info? 38).map (fun i => (i.zero, i.size, i.bytes)) = some (some (.int .u32 0), 1, 4) := by kernel_rfl
theorem info38_of : ∃ i, Tryd.prog.info? 38 = some i ∧ i.zero = some (.int .u32 0) ∧ i.size = 1 ∧ i.bytes = 4 := by
  have h := info38
  cases hq : Tryd.prog.info? 38 with
  | none => rw [hq] at h; simp at h
  | some i => rw [hq] at h; simp at h; exact ⟨i, rfl, h.1, h.2.1, h.2.2⟩
theorem made_zero (n : Nat) : madeCells (Value.int .u32 0).cells (n * 1) = cellsF n (fun _ => .int .u32 0) := by
  unfold madeCells cellsF
  apply Array.ext
  · simp
  · intro i h1 h2
    simp [Value.cells, Nat.mod_one]
theorem mkN (n : Nat) (w : World) (hn : n ≤ 1024) : (Instr.makeSlice 22 (.int .i64 n) (.int .i64 n)).run Tryd.prog w = .ok (.slice (some ⟨w.heap.size, 0, none⟩) n n) (w.alloc (.cells (cellsF n (fun _ => .int .u32 0)) 38)) := by
  obtain ⟨i, hi, hz, hs, hb⟩ := info38_of
  have h := run_make (P := Tryd.prog) w 22 38 i _ Tryd.underlying22 hi hz .i64 .i64 n n (by omega) (Int.le_refl _) (by rw [hb]; omega) (by omega)
  simp only [Int.toNat_natCast, hs, made_zero] at h
  exact h

theorem rnew_bad (p : Option Addr) (k c : Nat) (n : Int) (vb : Value) (w : World) (hn : n < 1 ∨ 335544320 < n ∨ n < k) :
    Calls Tryd.prog 31 #[.slice p k c, .int .i64 n, vb] w fun e w' => e = .returned (.tuple #[.pointer none, .int .i64 2]) ∧ w = w' := by
  go_enter Tryd.func31, Tryd.ntmps31
  by_cases h1 : n < 1
  · have d1 : decide (n < 1) = true := by simpa using h1
    clear hn h1
    go_wp2_with fail
    go_ret2
    exact ⟨rfl, rfl⟩
  · have d1 : decide (n < 1) = false := by simpa using h1
    by_cases h2 : 335544320 < n
    · have d2 : decide (335544320 < n) = true := by simpa using h2
      clear hn h1 h2
      go_wp2_with fail
      go_ret2
      exact ⟨rfl, rfl⟩
    · have d2 : decide (335544320 < n) = false := by simpa using h2
      have d3 : decide (n < (k : Int)) = true := by simp; omega
      clear hn h1 h2
      go_wp2_with fail
      go_ret2
      exact ⟨rfl, rfl⟩

/-- Between two rounds of New. -/
structure RNew (W : World) (Q B n : Nat) (ws : List Int) (k : Nat) (w : World) : Prop where
  below : Below W.heap.size W w
  mac : w.heap[Q]? = some (.cells #[.int .u32 0, .int .u32 0, .int .u32 0, .int .u32 0, .int .u32 0, .int .u32 0, .int .u32 0, .int .u32 0, .int .u32 0, .int .u32 0, .int .u32 0, .int .u32 0, .int .u32 0, .int .u32 0, .int .u32 0, .int .u32 0, .int .u32 0, .int .u32 0, .int .u32 0, .int .u32 0, .int .u32 0, .int .u32 0, .int .u32 0, .int .u32 0, .int .u32 0, .int .u32 0, .int .u32 0, .int .u32 0, .int .u32 0, .int .u32 0, .int .u32 0, .int .u32 0, .slice (some ⟨B, 0, none⟩) n n, .int .u32 0, .slice none 0 0, .slice none 0 0, .int .i64 0, .int .u32 0, .int .i64 0, .int .i64 0] 43 (0, 0))
  mem : w.heap[B]? = some (.cells (cellsF n (fun i => .int .u32 (if i < k then ws.getD i 0 else 0))) 38 (0, 0))
  leQ : W.heap.size ≤ Q
  leB : W.heap.size ≤ B
  size : w.heap.size = W.heap.size + 2

theorem RNew.store {W w : World} {Q B n k : Nat} {ws : List Int} (r : RNew W Q B n ws k w) (hk : k < n) (hQB : Q ≠ B) : RNew W Q B n ws (k + 1) (w.setCell ⟨B, k, none⟩ (.int .u32 (ws[k]?.getD 0))).drew where
  below := (r.below.setCell (p := ⟨B, k, none⟩) r.leB _).drew
  mac := (Below.heap_setCell _ _ _ _ hQB).trans r.mac
  mem := set_blockF r.mem hk (fun j _ => by
    unfold updF
    split
    · subst j; rw [if_pos (by omega), List.getD_eq_getElem?_getD]
    · rename_i hj
      show Value.int .u32 (if j < k then ws.getD j 0 else 0) = _
      by_cases h : j < k
      · rw [if_pos h, if_pos (by omega)]
      · rw [if_neg h, if_neg (by omega)])
  leQ := r.leQ
  leB := r.leB
  size := by show (w.heap.modify _ _).size = _; simpa using r.size
theorem app_nn (w : World) : (Builtin.append_ #[23, 23] 23 #[.slice none 0 0, .slice none 0 0]).run Tryd.prog w = .ok (.slice none 0 0) w := by
  obtain ⟨i, hi, hz, hs, hb⟩ := infoB_of
  simp [Builtin.append_, run_underlying Tryd.underlying23, sizeOf, typeInfo, zeroValue, hi, hz, Builtin.lenOf, run_firstCells_none]
theorem cells40 (l : QL) (m : MS) (hr : ∀ i, m.regs i = 0) : cellsF 40 (qcell l m) = #[.int .u32 0, .int .u32 0, .int .u32 0, .int .u32 0, .int .u32 0, .int .u32 0, .int .u32 0, .int .u32 0, .int .u32 0, .int .u32 0, .int .u32 0, .int .u32 0, .int .u32 0, .int .u32 0, .int .u32 0, .int .u32 0, .int .u32 0, .int .u32 0, .int .u32 0, .int .u32 0, .int .u32 0, .int .u32 0, .int .u32 0, .int .u32 0, .int .u32 0, .int .u32 0, .int .u32 0, .int .u32 0, .int .u32 0, .int .u32 0, .int .u32 0, .int .u32 0, .slice (some ⟨l.B, 0, none⟩) m.size m.size, .int .u32 m.place, l.vi, l.vo, .int .i64 m.state, .int .u32 m.code, .int .i64 m.trap, .int .i64 m.steps] := by
  apply Array.ext_getElem?
  intro i
  by_cases hi : i < 40
  · rw [cellsF_get hi]
    by_cases h32 : i < 32
    · unfold qcell
      rw [if_pos h32, hr]
      have : ∀ j : Fin 32, some (Value.int .u32 0) = ((List.replicate 32 (Value.int .u32 0)).toArray ++ #[.slice (some ⟨l.B, 0, none⟩) m.size m.size, .int .u32 m.place, l.vi, l.vo, .int .i64 m.state, .int .u32 m.code, .int .i64 m.trap, .int .i64 m.steps])[j.val]? := by
        intro j
        rw [Array.getElem?_append_left (by simp), List.getElem?_toArray, List.getElem?_replicate, if_pos j.isLt]
      exact this ⟨i, h32⟩
    · obtain ⟨j, rfl⟩ : ∃ j, i = 32 + j := ⟨i - 32, by omega⟩
      have hj : j < 8 := by omega
      match j, hj with
      | 0, _ => rfl
      | 1, _ => rfl
      | 2, _ => rfl
      | 3, _ => rfl
      | 4, _ => rfl
      | 5, _ => rfl
      | 6, _ => rfl
      | 7, _ => rfl
  · rw [Array.getElem?_eq_none (by rw [cellsF_size]; omega), Array.getElem?_eq_none (by simp; omega)]
/-- Behind New. -/
theorem rnew_end {W w w2 : World} {Q n : Nat} {ws bs : List Int} {vi : Value} (hn : n ≤ 1024) (h1 : 1 ≤ n) (hkn : ws.length ≤ n) (hl : bs.length ≤ 1000) (hws : ∀ x ∈ ws, 0 ≤ x ∧ x < 4294967296) (hbs : ∀ x ∈ bs, 0 ≤ x ∧ x < 256)
    (hQ : Q = W.heap.size + 1) (r : RNew W Q W.heap.size n ws ws.length w) (hb : Below w.heap.size w w2) (hO : w2.ownsRow w.heap.size 5 1 vi bs.length (byL bs)) :
    QRep W.heap.size (w2.setCell ⟨Q, 34, none⟩ vi) ⟨Q, W.heap.size, vi, .slice none 0 0⟩ (MS.new ws n bs) ∧ Below W.heap.size W (w2.setCell ⟨Q, 34, none⟩ vi) := by
  have hI := InRep.of_own (by omega) hO
  have hQw : Q < w.heap.size := lt_of_block r.mac
  have hBw : W.heap.size < w.heap.size := lt_of_block r.mem
  have mQ : w2.heap[Q]? = _ := (hb.block _ hQw).trans r.mac
  have mB := (hb.block _ hBw).trans r.mem
  refine ⟨⟨⟨fun _ => ⟨Int.le_refl _, show (0 : Int) < 4294967296 by decide⟩, rfl, ⟨h1, hn⟩, fun i => ?_, ⟨Int.le_refl _, show (0 : Int) < 4294967296 by decide⟩, ⟨Int.le_refl _, show (0 : Int) ≤ 2 by decide⟩, ⟨Int.le_refl _, show (0 : Int) < 4294967296 by decide⟩, ⟨Int.le_refl _, show (0 : Int) ≤ 4 by decide⟩, Int.le_refl _, hbs, by show bs.length ≤ 1024; omega, fun x hx => by cases hx⟩, ?_, ?_, ?_, ?_, ?_, ?_⟩, ?_⟩
  · show 0 ≤ ws.getD i 0 ∧ ws.getD i 0 < 4294967296
    by_cases hi : i < ws.length
    · have e : ws.getD i 0 = ws[i] := by simp [List.getD, List.getElem?_eq_getElem hi]
      rw [e]
      exact hws _ (List.getElem_mem ..)
    · have e : ws.getD i 0 = 0 := by simp [List.getD, List.getElem?_eq_none (show ws.length ≤ i by omega)]
      rw [e]
      decide
  · rw [cells40 _ _ (fun _ => rfl)]
    exact set_block mQ (by simp)
  · rw [Below.heap_setCell _ _ _ _ (by show W.heap.size ≠ Q; omega), mB]
    refine congrArg (fun c => some (Obj.cells c 38 (0, 0))) (cellsF_congr fun i hi => ?_)
    show _ = Value.int .u32 (ws.getD i 0)
    by_cases h : i < ws.length
    · rw [if_pos h]
    · rw [if_neg h]; simp [List.getD, List.getElem?_eq_none (show ws.length ≤ i by omega)]
  · exact hI.1.kept fun k hk => Below.heap_setCell _ _ _ _ (fun e => by have e' : k = Q := e; have := (hI.2 k hk).1; omega)
  · exact World.ownsRow_nil _ _ _ _
  · show inB vi = none ∨ inB vi ≠ none
    exact Classical.em _
  · intro k hk
    rcases hk with e | e | e | e
    · have e' : k = Q := e; omega
    · have e' : k = W.heap.size := e; omega
    · have := (hI.2 k e).1; omega
    · cases e
  · exact (r.below.trans (hb.mono (Nat.le_of_lt hBw))).setCell (p := ⟨Q, 34, none⟩) (by show _ ≤ Q; omega) _

set_option maxRecDepth 100000 in
set_option maxHeartbeats 1000000 in
theorem rnew_ok (vw vb : Value) (n : Nat) (ws bs : List Int) (w : World) (hw : WRead w vw ws) (hb : BRead w vb bs) (hkn : ws.length ≤ n) (hn : n ≤ 1024) (h1 : 1 ≤ n) (hl : bs.length ≤ 1000) (hws : ∀ x ∈ ws, 0 ≤ x ∧ x < 4294967296) (hbs : ∀ x ∈ bs, 0 ≤ x ∧ x < 256) :
    Calls Tryd.prog 31 #[vw, .int .i64 n, vb] w fun e w' => ∃ l, e = .returned (.tuple #[.pointer (some ⟨l.Q, 0, none⟩), .int .i64 0]) ∧ QRep w.heap.size w' l (MS.new ws n bs) ∧ Below w.heap.size w w' := by
  obtain ⟨p, c, rfl, hp⟩ := hw.plain
  have HP := Lib.hid (And.intro hp (And.intro hb (And.intro hws hbs)))
  have hd1 : decide ((n : Int) < 1) = false := by simp; omega
  have hd2 : decide ((n : Int) < (ws.length : Int)) = false := by simp; omega
  have hmk := fun w => mkN n w hn
  obtain ⟨L, hL⟩ : ∃ L, L = ws.length := ⟨_, rfl⟩
  rw [← hL] at hkn hd2 ⊢
  have HL := Lib.hid hL
  clear hw hp hb hL hws hbs
  have d2 : decide (335544320 < (n : Int)) = false := by simp; omega
  have hd3 : decide (n < L) = false := by simp; omega
  go_enter Tryd.func31, Tryd.ntmps31
  go_wp2_with fail
  obtain ⟨w0, hw0⟩ : ∃ w0, w0 = (w.alloc (.cells (cellsF n (fun _ => .int .u32 0)) 38)).alloc (.cells #[.int .u32 0, .int .u32 0, .int .u32 0, .int .u32 0, .int .u32 0, .int .u32 0, .int .u32 0, .int .u32 0, .int .u32 0, .int .u32 0, .int .u32 0, .int .u32 0, .int .u32 0, .int .u32 0, .int .u32 0, .int .u32 0, .int .u32 0, .int .u32 0, .int .u32 0, .int .u32 0, .int .u32 0, .int .u32 0, .int .u32 0, .int .u32 0, .int .u32 0, .int .u32 0, .int .u32 0, .int .u32 0, .int .u32 0, .int .u32 0, .int .u32 0, .int .u32 0, .slice (some ⟨w.heap.size, 0, none⟩) n n, .int .u32 0, .slice none 0 0, .slice none 0 0, .int .i64 0, .int .u32 0, .int .i64 0, .int .i64 0] 43) := ⟨_, rfl⟩
  have R0 : RNew w (w.heap.size + 1) w.heap.size n ws 0 w0 := by
    rw [hw0]
    refine ⟨((Below.refl _ _).alloc (Nat.le_refl _) _).alloc (by simp) _, ?_, ?_, Nat.le_succ _, Nat.le_refl _, by simp⟩
    · have := heap_new (w.alloc (.cells (cellsF n (fun _ => .int .u32 0)) 38)) (.cells #[.int .u32 0, .int .u32 0, .int .u32 0, .int .u32 0, .int .u32 0, .int .u32 0, .int .u32 0, .int .u32 0, .int .u32 0, .int .u32 0, .int .u32 0, .int .u32 0, .int .u32 0, .int .u32 0, .int .u32 0, .int .u32 0, .int .u32 0, .int .u32 0, .int .u32 0, .int .u32 0, .int .u32 0, .int .u32 0, .int .u32 0, .int .u32 0, .int .u32 0, .int .u32 0, .int .u32 0, .int .u32 0, .int .u32 0, .int .u32 0, .int .u32 0, .int .u32 0, .slice (some ⟨w.heap.size, 0, none⟩) n n, .int .u32 0, .slice none 0 0, .slice none 0 0, .int .i64 0, .int .u32 0, .int .i64 0, .int .i64 0] 43)
      rwa [World.size_alloc] at this
    · rw [Below.heap_alloc _ _ _ (by simp), heap_new]
      refine congrArg some ?_
      rw [cellsF_congr (g := fun i => .int .u32 (if i < 0 then ws.getD i 0 else 0)) (fun i _ => by rw [if_neg (Nat.not_lt_zero i)])]
  rw [← hw0]
  clear hw0
  obtain ⟨Q, hQ⟩ : ∃ Q, Q = w.heap.size + 1 := ⟨_, rfl⟩
  rw [← hQ] at R0
  rw [← hQ]
  have HQ := Lib.hid hQ
  have HR0 := Lib.hid R0
  clear R0 hQ
  go_loopw [9] (fun f wr => ∃ k : Nat, k ≤ L ∧ f = .int .i64 k ∧ RNew w Q w.heap.size n ws k wr) (fun f _ => L - (intOf f).toNat)
  case atStart => exact ⟨0, Nat.zero_le _, rfl, HR0.out⟩
  case round =>
    obtain ⟨k, hk, rfl, r⟩ := hrel
    by_cases hlt : k < L
    · have hd : decide ((k : Int) < (L : Int)) = true := by simp; omega
      have hl0 := HL.out
      have hne : ws ≠ [] := by intro h; rw [h] at hl0; simp at hl0; omega
      obtain ⟨b, off, rfl, hc1, hc2, hcell⟩ := HP.out.1 hne
      have x := hcell k (by omega)
      have x1 := (r.below.cell (p := ⟨b, off + k, none⟩) (World.block_lt_of_cell? w _ x)).trans x
      have y1 : wr.cell? ⟨Q, 32, none⟩ = some (.slice (some ⟨w.heap.size, 0, none⟩) n n) := by rw [cell_of_block r.mac]; rfl
      have hkn' : k < n := by omega
      have z1 := cellF r.mem k hkn'
      have z2 := freeF r.mem k
      have R := Lib.hid r
      clear hcell r x hne hl0
      go_upto_region 7 with fail
      go_region
      go_wp2_with fail
      go_roundw
      case rel => exact ⟨k + 1, by omega, by go_num, R.out.store hkn' (by have := HQ.out; omega)⟩
      case measure => simp [intOf]; omega
    · have he : k = L := by omega
      subst he
      have hd : decide ((k : Int) < (k : Int)) = false := by simp
      have y1 : wr.cell? ⟨Q, 34, none⟩ = some (.slice none 0 0) := by rw [cell_of_block r.mac]; rfl
      have f1 := freeF r.mac 34
      have hLe := HL.out
      subst hLe
      have R := Lib.hid r
      clear r
      rcases HP.out.2.1 with ⟨hbn, rfl⟩ | ⟨ad, cb, rfl, hcell⟩
      · have hap := app_nn
        go_wp2_with fail
        go_ret2
        have h := rnew_end (vi := .slice none 0 0) hn h1 hkn hl HP.out.2.2.1 HP.out.2.2.2 HQ.out R.out (Below.refl _ _) (by rw [hbn]; exact World.ownsRow_nil _ _ _ _)
        rw [hbn] at h
        exact ⟨_, rfl, h⟩
      · obtain ⟨i0, hi, hz0, hz1, hz2⟩ := infoB_of
        have HC := Lib.hid hcell
        clear hcell
        go_wp2_with (first
          | (at_builtin; refine wpList_append_own _ rfl _ _ 23 rfl wr.heap.size 5 i0 (.int .u8 0) 1 1 Tryd.underlying23 hi hz0 hz1 hz2 rfl (by decide) _ 0 [] rfl (World.ownsRow_nil _ _ _ _) ad bs.length cb (byL bs) rfl ?c0 ?c1 (one_byL bs) ?c3 ?c4 ?c5 ?_)
          | fail)
        case c0 => exact byL_len bs
        case c1 =>
          intro j u hj
          have := HC.out j u hj
          exact (R.out.below.cell (World.block_lt_of_cell? w _ this)).trans this
        case c3 => unfold maxLen; omega
        case c4 => omega
        · intro v' w1 hown' hgrow _
          obtain ⟨va, vk, vc, rfl⟩ : ∃ a k c, v' = .slice a k c := by rcases hown'.2 with ⟨h, -⟩ | ⟨g, cap, cur, h, -⟩ <;> exact ⟨_, _, _, h⟩
          have hb : Below wr.heap.size wr w1 := (Below.refl _ _).grown hgrow (by simp) (fun k hk => by cases hk)
          have y2 : w1.cell? ⟨Q, 34, none⟩ = some (.slice none 0 0) := (hb.cell (p := ⟨Q, 34, none⟩) (lt_of_block R.out.mac)).trans y1
          have f2 : w1.frozen? ⟨Q, 34, none⟩ = false := (hb.frozen (p := ⟨Q, 34, none⟩) (lt_of_block R.out.mac)).trans f1
          have H1 := Lib.hid (And.intro hown' hb)
          clear hown' hgrow hb y1 f1
          go_wp2_with fail
          go_ret2
          have h := rnew_end hn h1 hkn hl HP.out.2.2.1 HP.out.2.2.2 HQ.out R.out H1.out.2 H1.out.1
          exact ⟨_, rfl, h⟩
end Go.Proofs.YtknnmacmohpanaaDoor
