/- Contracts: what is wrong with objects' names. Conditions: the objects lie as told. -/
import Derived.Test.YtbplmbignalbgaaDoorLiC
import Derived.Test.YtbplmbignalbgaaDoorAsQ
import Derived.Deep.AppendLies
namespace Go.Proofs.YtbplmbignalbgaaDoor
open Go.RowKit Asm
set_option linter.unusedVariables false
set_option linter.unusedSimpArgs false

/-- A map that tells how often a name has occurred. -/
def CntAt (w : World) (B : Nat) (L : List Ob) (k : Nat) : Prop :=
  ∃ D : DU, w.ownsMap Tryd.prog 9 (plainElem Tryd.prog 3) B k D ∧ ∀ s : ByteArray, s.size ≤ maxLen → D.atKey (key s) (.lit (.int .i64 0)) = .lit (.int .i64 (cnt L s k : Nat))
theorem CntAt.start (w : World) (L : List Ob) : CntAt (w.alloc (.map #[] 0)) w.heap.size L 0 :=
  ⟨.map [], World.ownsMap_made _ _ _ _, fun s _ => rfl⟩
theorem CntAt.kept {w w' : World} {B : Nat} {L : List Ob} {k : Nat} (h : CntAt w B L k) (hb : w'.heap[B]? = w.heap[B]?) : CntAt w' B L k := by
  obtain ⟨D, ⟨es, clock, hB, r⟩, hD⟩ := h
  exact ⟨D, ⟨es, clock, hb.trans hB, r⟩, hD⟩
theorem CntAt.lt {w : World} {B : Nat} {L : List Ob} {k : Nat} (h : CntAt w B L k) : B < w.heap.size := by
  obtain ⟨D, hD, -⟩ := h
  exact hD.lt
theorem CntAt.below {w w' : World} {B : Nat} {L : List Ob} {k : Nat} (h : CntAt w B L k) (hb : Below w.heap.size w w') : CntAt w' B L k := h.kept (hb.block _ h.lt)
theorem CntAt.look {w : World} {B : Nat} {L : List Ob} {k : Nat} (h : CntAt w B L k) (s : ByteArray) (hs : s.size ≤ maxLen) : (Instr.lookup 69 (.map (some B)) (.string s) false).run Tryd.prog w = .ok (.int .i64 (cnt L s k : Nat)) w := by
  obtain ⟨D, hD, hall⟩ := h
  obtain ⟨c, hrun, hat, -⟩ := hD.lookup_int lawS Tryd.underlying69 Tryd.underlying3 (zeroI w) (WideMaps.keyOf_string_mk Tryd.underlying9 hs)
  have := hall s hs
  rw [show key s = Lit.string s.data.toList from rfl] at this
  rw [this] at hat
  simp only [DataW.lit.injEq, Lit.int.injEq, true_and] at hat
  rw [hrun, hat]
theorem CntAt.new {w : World} {B : Nat} {L : List Ob} {k : Nat} {D0 : DU} {z : Int} (hall : ∀ s : ByteArray, s.size ≤ maxLen → D0.atKey (key s) (.lit (.int .i64 0)) = .lit (.int .i64 (cnt L s k : Nat))) (him : Maps.IsMap D0)
    (hD : w.ownsMap Tryd.prog 9 (plainElem Tryd.prog 3) B (k + 1) (D0.put (key (ob L k).name) (.lit (.int .i64 z)))) (hz : z = (cnt L (ob L k).name k : Nat) + 1) : CntAt w B L (k + 1) := by
  refine ⟨_, hD, fun s hs => ?_⟩
  by_cases he : s = (ob L k).name
  · subst he
    rw [Maps.atKey_put_same him (show WideAt.IsKeyLit (key (ob L k).name) by unfold key; trivial), hz]
    have : cnt L (ob L k).name (k + 1) = cnt L (ob L k).name k + 1 := by
      show cnt L (ob L k).name k + _ = _
      rw [if_pos rfl]
    rw [this]; rfl
  · have hne : key s ≠ key (ob L k).name := fun e => he (key_inj e)
    have : cnt L s (k + 1) = cnt L s k := by
      show cnt L s k + _ = _
      rw [if_neg (fun e => he e.symm)]; rfl
    rw [Maps.atKey_put_other hne, this]
    exact hall s hs
theorem toList_nil (s : ByteArray) : s.toList = [] ↔ s.size = 0 := by
  rw [Lib.toList_data, Lib.size_eq, List.length_eq_zero_iff]
theorem cells2 {w : World} {b t : Nat} {x y : Value} {fr : Nat × Nat} (h : w.heap[b]? = some (.cells #[x, y] t fr)) : w.cell? ⟨b, 0, none⟩ = some x ∧ w.cell? ⟨b, 1, none⟩ = some y :=
  ⟨cell_of_row w b 0 _ t fr h, cell_of_row w b 1 _ t fr h⟩
set_option maxRecDepth 100000 in
set_option maxHeartbeats 4000000 in
theorem names_at {w : World} {p : Option Addr} {c : Nat} {L : List Ob} (h : Objs w p c L) (hn : L.length ≤ 1000) :
    Calls Tryd.prog 20 #[.slice p L.length c] w fun e w' => e = .returned (.int .i64 (lcheck L)) ∧ Below w.heap.size w w' := by
  have hmm := @run_makeMap Tryd.prog
  have H := Lib.hid h
  clear h
  go_enter Tryd.func20, Tryd.ntmps20
  go_wp2_with fail
  have hms := CntAt.start w L
  have hbm := (Below.refl w.heap.size w).alloc (Nat.le_refl _) (.map #[] 0)
  have hBs : w.heap.size ≤ w.heap.size := Nat.le_refl _
  obtain ⟨w1, hw1⟩ : ∃ w1, w1 = w.alloc (.map #[] 0) := ⟨_, rfl⟩
  obtain ⟨B, hB⟩ : ∃ B, B = w.heap.size := ⟨_, rfl⟩
  rw [← hw1] at hms hbm
  rw [← hw1, ← hB]
  rw [show CntAt w1 w.heap.size L 0 = CntAt w1 B L 0 by rw [hB]] at hms
  have HM := Lib.hid (And.intro hms (And.intro hbm (show w.heap.size ≤ B by omega)))
  clear hms hbm hBs hw1 hmm hB
  go_loopw [11] (fun i wr => ∃ k : Nat, i = .int .i64 k ∧ k ≤ L.length ∧ dup L k = false ∧ CntAt wr B L k ∧ Below w.heap.size w wr) (fun i _ => L.length - (intOf i).toNat)
  case atStart => exact ⟨0, rfl, Nat.zero_le _, rfl, HM.out.1, HM.out.2.1⟩
  case round =>
    obtain ⟨k, rfl, hk, hdup, hmap, hb⟩ := hrel
    by_cases hlt : k < L.length
    · as_aux_lemma =>
        have d1 : decide ((k : Int) < (L.length : Int)) = true := decide_eq_true (by omega)
        have ek : (k : Int) < (L.length : Int) := by omega
        obtain ⟨b, off, q, m, rfl, k0, k1, -⟩ := (H.out.below hb).at hlt
        have hnm := H.out.name k hlt
        obtain ⟨nm, hnm2⟩ : ∃ nm, nm = (ob L k).name := ⟨_, rfl⟩
        obtain ⟨n, hn2⟩ : ∃ n, n = (ob L k).items.length := ⟨_, rfl⟩
        rw [← hnm2] at k0 hnm
        rw [← hn2] at k1
        have HN := Lib.hid hnm2
        clear hnm2 hn2
        have hal := (Below.refl wr.heap.size wr).alloc (Nat.le_refl _) (.cells #[.string nm, .slice q n m] 49)
        have hN := cells2 (heap_new wr (.cells #[.string nm, .slice q n m] 49))
        have hmap2 := hmap.below hal
        have hb2 := hb.trans (hal.mono hb.size)
        obtain ⟨w2, hw2⟩ : ∃ w2, w2 = wr.alloc (.cells #[.string nm, .slice q n m] 49) := ⟨_, rfl⟩
        obtain ⟨Q, hQ⟩ : ∃ Q, Q = wr.heap.size := ⟨_, rfl⟩
        rw [← hw2] at hN hmap2 hb2
        rw [← hQ] at hN
        have hQB : Q ≠ B := by have := hmap.lt; omega
        have HB := Lib.hid (And.intro hb2 (And.intro hdup hmap2))
        clear hb hdup hmap hal hb2 hmap2
        go_upto_region 5 with fail
        rw [← hw2, ← hQ]
        clear hw2 hQ k0 k1
        obtain ⟨n0, n1⟩ := hN
        have hl1 := HB.out.2.2.look nm hnm
        have hcl := cnt_le L nm k
        obtain ⟨cn, hcn⟩ : ∃ cn, cn = cnt L nm k := ⟨_, rfl⟩
        rw [← hcn] at hl1 hcl
        obtain ⟨D, hD, hall⟩ := HB.out.2.2
        have hkey : keyOf Tryd.prog 9 (.string nm) = some (key nm) := WideMaps.keyOf_string_mk Tryd.underlying9 hnm
        have HA := Lib.hid (And.intro hall (And.intro hcn hD.isMap))
        clear hall hcn
        go_wp2_with (first
          | (at_mapUpdate; refine wpList_mapUpdate_own _ rfl _ _ _ 69 rfl 9 3 lawS Tryd.underlying69 _ B k _ rfl hD ?c1 _ _ _ rfl rfl hkey _ [] (plainElem_int Tryd.underlying3 (WalkArith.wf_i64 ?c2)) ?_)
          | fail)
        case c1 => unfold maxLen; omega
        case c2 => omega
        intro w3 hD3 hg3
        have hm3 : CntAt w3 B L (k + 1) := CntAt.new HA.out.1 HA.out.2.2 (by rw [← HN.out]; exact hD3) (by rw [← HN.out, ← HA.out.2.1])
        have hb3 : Below w.heap.size w w3 := HB.out.1.grown hg3 HB.out.1.size (fun j hj => by cases hj; exact HM.out.2.2)
        have n3 : w3.cell? ⟨Q, 0, none⟩ = some (.string nm) := (hg3.cell_far ⟨Q, 0, none⟩ (World.block_lt_of_cell? w2 _ n0) (by simpa using hQB)).trans n0
        have hl3 := hm3.look nm hnm
        have hc3 : cnt L nm (k + 1) = cn + 1 := by
          show cnt L nm k + _ = _
          rw [if_pos HN.out.symm, HA.out.2.1]
        rw [hc3] at hl3
        have H3 := Lib.hid (And.intro hm3 hb3)
        clear hm3 hb3 hD3 hg3 hD hkey hl1 n0 n1
        by_cases hz : 0 < cn
        · as_aux_lemma =>
            have d2 : decide (1 < ((cn + 1 : Nat) : Int)) = true := decide_eq_true (by omega)
            go_wp2_with fail
            go_ret
            refine ⟨?_, H3.out.2⟩
            rw [lc_dup (dup_stays (dup_hit (k := k) (by rw [← HN.out, ← HA.out.2.1]; exact hz)) L.length hlt)]
            rfl
        · as_aux_lemma =>
            have d2 : decide (1 < ((cn + 1 : Nat) : Int)) = false := decide_eq_false (by omega)
            go_wp2_with fail
            go_roundw
            case rel => exact ⟨k + 1, by go_num, hlt, dup_step HB.out.2.1 (by rw [← HN.out, ← HA.out.2.1]; omega), H3.out⟩
            case measure => simp [intOf]; omega
    · as_aux_lemma =>
        have hz : k = L.length := by omega
        subst hz
        have d1 : decide ((L.length : Int) < (L.length : Int)) = false := by simp
        have HY := Lib.hid (And.intro hdup hb)
        clear hdup hmap hb
        go_wp2_with fail
        go_loopw [28] (fun i wr => ∃ k : Nat, i = .int .i64 k ∧ k ≤ L.length ∧ badn L k = false ∧ Below w.heap.size w wr) (fun i _ => L.length - (intOf i).toNat)
        case atStart => exact ⟨0, rfl, Nat.zero_le _, rfl, HY.out.2⟩
        case round =>
          obtain ⟨k, rfl, hk, hbad, hb⟩ := hrel
          by_cases hlt : k < L.length
          · as_aux_lemma =>
              have d1 : decide ((k : Int) < (L.length : Int)) = true := decide_eq_true (by omega)
              have ek : (k : Int) < (L.length : Int) := by omega
              obtain ⟨b, off, q, m, rfl, k0, k1, -⟩ := (H.out.below hb).at hlt
              obtain ⟨nm, hnm2⟩ : ∃ nm, nm = (ob L k).name := ⟨_, rfl⟩
              obtain ⟨n, hn2⟩ : ∃ n, n = (ob L k).items.length := ⟨_, rfl⟩
              rw [← hnm2] at k0
              rw [← hn2] at k1
              have HN := Lib.hid hnm2
              clear hnm2 hn2
              have hal := (Below.refl wr.heap.size wr).alloc (Nat.le_refl _) (.cells #[.string nm, .slice q n m] 49)
              have HB := Lib.hid (And.intro (hb.trans (hal.mono hb.size)) hbad)
              clear hb hbad hal
              by_cases hsz : nm.size = 0
              · have ht := (toList_nil nm).2 hsz
                go_wp2_with (first | (go_at_call 26; refine (prefix_at _ _).mono ?_; rintro e w' ⟨rfl, rfl⟩) | fail)
                go_ret
                refine ⟨?_, HB.out.1⟩
                rw [lc_badn HY.out.1 (badn_stays (badn_hit (k := k) (by rw [← HN.out]; unfold noName; simp [hsz])) L.length hlt)]
                rfl
              have ht : ¬ nm.toList = [] := fun h => hsz ((toList_nil nm).1 h)
              have hti : nm.toList.isEmpty = false := by simpa using ht
              cases hloc : isLoc nm with
              | true =>
                go_wp2_with (first | (go_at_call 26; refine (prefix_at _ _).mono ?_; rintro e w' ⟨rfl, rfl⟩; rw [hloc]) | fail)
                go_ret
                refine ⟨?_, HB.out.1⟩
                rw [lc_badn HY.out.1 (badn_stays (badn_hit (k := k) (by rw [← HN.out]; unfold noName; simp [hloc])) L.length hlt)]
                rfl
              | false =>
                go_wp2_with (first | (go_at_call 26; refine (prefix_at _ _).mono ?_; rintro e w' ⟨rfl, rfl⟩; rw [hloc]) | fail)
                go_roundw
                case rel => exact ⟨k + 1, by go_num, hlt, badn_step HB.out.2 (by rw [← HN.out]; unfold noName; simp [hloc, hsz]), HB.out.1⟩
                case measure => simp [intOf]; omega
          · as_aux_lemma =>
              have hz : k = L.length := by omega
              subst hz
              have d1 : decide ((L.length : Int) < (L.length : Int)) = false := by simp
              have HB := Lib.hid (And.intro hbad hb)
              clear hbad hb
              go_wp2_with fail
              go_ret
              exact ⟨by rw [lc_good HY.out.1 HB.out.1]; rfl, HB.out.2⟩
end Go.Proofs.YtbplmbignalbgaaDoor
