/- Plain: append of bytes onto a row of one's own, whatever is appended. Conditions: the row is the call's own. -/
import Derived.Deep.RegionLaw
import Derived.Test.YtknnmacmohpanaaDoorMaV
namespace Go.Proofs.YtknnmacmohpanaaDoor
open Go.RowKit
set_option linter.unusedVariables false
set_option linter.unusedSimpArgs false

/-- Nothing is appended. -/
theorem app_none (w : World) (p : Option Addr) (n c : Nat) (h : n ≤ c) : (Builtin.append_ #[23, 23] 23 #[.slice p n c, .slice none 0 0]).run Tryd.prog w = .ok (.slice p n c) w := by
  obtain ⟨i, hi, hz, hs, hb⟩ := infoB_of
  cases p with
  | none => simp [Builtin.append_, run_underlying Tryd.underlying23, sizeOf, typeInfo, zeroValue, hi, hz, Builtin.lenOf, run_firstCells_none, h]
  | some a => simp [Builtin.append_, run_underlying Tryd.underlying23, sizeOf, typeInfo, zeroValue, hi, hz, Builtin.lenOf, run_firstCells_none, h, storeCells]
theorem app_any (w : World) (base : Nat) (v : Value) (n : Nat) (xs : List Int) (hown : w.ownsRow base 5 1 v n (byL xs)) (vb : Value) (bs : List Int) (hb : BRead w vb bs) (h63 : n + bs.length ≤ 1000) (hbase : base ≤ w.heap.size) :
    ∃ p c w', (Builtin.append_ #[23, 23] 23 #[v, vb]).run Tryd.prog w = .ok (.slice p (n + bs.length) c) w' ∧ w'.ownsRow base 5 1 (.slice p (n + bs.length) c) (n + bs.length) (byL (xs ++ bs)) ∧ Below base w w' := by
  rcases hb with ⟨rfl, rfl⟩ | ⟨ad, cb, rfl, hcell⟩
  · have hown' := hown
    rcases hown.2 with ⟨rfl, rfl⟩ | ⟨g, cap, cur, rfl, hbg, hg, hnc, hcm, hcs, htake⟩
    · exact ⟨none, 0, w, app_none w _ 0 0 (Nat.le_refl _), by simpa using hown', Below.refl _ _⟩
    · exact ⟨some ⟨g, 0, none⟩, cap, w, app_none w _ _ _ hnc, by simpa using hown', Below.refl _ _⟩
  · obtain ⟨i0, hi, hz0, hz1, hz2⟩ := infoB_of
    obtain ⟨v', w', hr, h2, h3, -⟩ := run_append_own (P := Tryd.prog) w base 23 23 5 i0 (.int .u8 0) 1 1 Tryd.underlying23 hi hz0 hz1 hz2 rfl (by decide) v n (byL xs) hown ad bs.length cb (byL bs) (by rw [byL_len, Nat.mul_one]) hcell (one_byL bs) (by unfold maxLen; omega) (by omega) hbase
    have he : byL xs ++ byL bs = byL (xs ++ bs) := by unfold byL; rw [List.map_append]
    rw [he] at h2
    have hbl : Below base w w' := (Below.refl _ _).grown (h3) hbase (fun k hk => by
      have := hown.lt k hk; omega)
    rcases h2.2 with ⟨hv, h0⟩ | ⟨g, cap, cur, hv, -⟩
    · rw [hv] at hr h2
      have e0 : (Value.slice none 0 0) = .slice none (n + bs.length) 0 := by rw [h0]
      exact ⟨none, 0, w', by rw [← e0]; exact hr, by rw [← e0]; exact h2, hbl⟩
    · rw [hv] at hr h2
      exact ⟨_, _, w', hr, h2, hbl⟩
/-- As a step of a region that draws. -/
theorem step_app {ops : Array Oper} {o : Oper} {a : Act} {w : World} {K : Act → World → Prop} {Q : Exit → Act → World → Prop} {E : Prop} (hgd : o.guard = none) (s x : Operand)
    (ho : o.op = .call { callee := .builtin .append, args := #[s, x], argTypes := #[23, 23] }) (hty : o.type = 23) (base : Nat) (v : Value) (n N : Nat) (xs : List Int) (hs : a.eval s = v) (hown : w.ownsRow base 5 1 v n (byL xs))
    (vb : Value) (bs : List Int) (hx : a.eval x = vb) (hb : BRead w vb bs) (hN : n + bs.length = N) (h63 : N ≤ 1000) (hbase : base ≤ w.heap.size)
    (h : ∀ p c w', w'.ownsRow base 5 1 (.slice p N c) N (byL (xs ++ bs)) → Below base w w' → K (a.put o.dst (.slice p N c)) w') :
    if Region.wanted o (yielded ops a.tmps) = true then Oper.wp Tryd.prog o a w K Q else E := by
  have hw : Region.wanted o (yielded ops a.tmps) = true := by simp [Region.wanted, hgd]
  rw [if_pos hw]
  subst hN
  obtain ⟨p, c, w', hr, h2, h3⟩ := app_any w base v n xs hown vb bs hb h63 hbase
  unfold Oper.wp execOp
  simp only [ho, hty, resolve, invoke, builtin, Sem.run_bind, Sem.run_pure, Result.andThen_ok, List.map_toArray, List.map_cons, List.map_nil, hs, hx, hr]
  exact h p c w' h2 h3
/-- An empty row. -/
theorem own_empty (w : World) (base : Nat) (hb : base ≤ w.heap.size) : (w.alloc (.cells #[] 5)).ownsRow base 5 1 (.slice (some ⟨w.heap.size, 0, none⟩) 0 0) 0 (byL []) :=
  ⟨rfl, Or.inr ⟨w.heap.size, 0, #[], rfl, hb, heap_new w _, Nat.le_refl _, Nat.zero_le _, rfl, rfl⟩⟩
end Go.Proofs.YtknnmacmohpanaaDoor
