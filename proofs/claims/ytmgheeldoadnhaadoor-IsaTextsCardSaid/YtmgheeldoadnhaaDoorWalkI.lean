/- Contracts: the closure of Parse. Conditions: the tables are as laid, the text is short. -/
import Derived.Test.YtmgheeldoadnhaaDoorWalkG
import Derived.Test.YtmgheeldoadnhaaDoorShelf
import Derived.OneCell
namespace Go.Proofs.YtmgheeldoadnhaaDoor
open Go.RowKit

/-- One block of one cell was written; new blocks; all else is as it was. -/
structure Upd (b : Nat) (x : Value) (t : Nat) (w w' : World) : Prop where
  os : w'.os = w.os
  tape : w'.tape = w.tape
  output : w'.output = w.output
  size : w.heap.size ≤ w'.heap.size
  at_ : w'.heap[b]? = some (.cells #[x] t (0, 0))
  other : ∀ k, k < w.heap.size → k ≠ b → w'.heap[k]? = w.heap[k]?
theorem Upd.below {b B t : Nat} {x : Value} {w w' : World} (h : Upd b x t w w') (hb : B ≤ b) (hB : B ≤ w.heap.size) : Below B w w' :=
  ⟨h.os, h.tape, h.output, h.size, fun k hk => h.other k (by omega) (by omega)⟩

theorem Env.low {W w1 : World} (h : Env W) (hb : Below 8 W w1) : Env w1 :=
  ⟨fun i hi => (hb.cell (p := ⟨0, i, none⟩) (by show 0 < 8; decide)).trans (h.names i hi), fun f j hf hj => (hb.cell (p := ⟨1, _, none⟩) (by show 1 < 8; decide)).trans (h.shapes f j hf hj), Nat.le_trans h.size hb.size⟩
theorem Env2.low {W w1 : World} (h : Env2 W) (hb : Below 8 W w1) : Env2 w1 where
  toEnv := h.toEnv.low hb
  most := let ⟨m, hm⟩ := h.most; ⟨m, (hb.cell (p := ⟨2, 0, none⟩) (by decide)).trans hm⟩
  syn := let ⟨a, b, hm⟩ := h.syn; ⟨a, b, (hb.cell (p := ⟨3, 0, none⟩) (by decide)).trans hm⟩
  rng := let ⟨a, b, hm⟩ := h.rng; ⟨a, b, (hb.cell (p := ⟨4, 0, none⟩) (by decide)).trans hm⟩
  tab := var?_below hb gTab (by decide) h.tab
theorem upd_set {w : World} {b t n : Nat} {x0 x : Value} (h : w.heap[b]? = some (.cells #[x0] t (0, 0))) : Upd b x t w ((w.drewN n).setCell ⟨b, 0, none⟩ x) where
  os := (below_drewN (Below.refl 0 w) n).os
  tape := (below_drewN (Below.refl 0 w) n).tape
  output := (below_drewN (Below.refl 0 w) n).output
  size := by have := (below_drewN (Below.refl 0 w) n).size; simp [World.setCell]
  at_ := one_setCell (v := x0) (((below_drewN (Below.refl (b + 1) w) n).block b (by omega)).trans h)
  other := fun k h1 h2 => (Below.heap_setCell _ _ _ _ h2).trans ((below_drewN (Below.refl (k + 1) w) n).block k (by omega))
theorem Upd.grow {b t : Nat} {x : Value} {w w1 w2 : World} (u : Upd b x t w w1) (hb : Below w1.heap.size w1 w2) : Upd b x t w w2 where
  os := hb.os.trans u.os
  tape := hb.tape.trans u.tape
  output := hb.output.trans u.output
  size := Nat.le_trans u.size hb.size
  at_ := (hb.block b (lt_of_block u.at_)).trans u.at_
  other := fun k h1 h2 => (hb.block k (Nat.lt_of_lt_of_le h1 u.size)).trans (u.other k h1 h2)
theorem cut_len (l m : List UInt8) : (Lib.cut l m).1.length ≤ l.length ∧ (Lib.cut l m).2.1.length ≤ l.length := by
  unfold Lib.cut
  split
  · simp only [List.length_take, List.length_drop]; omega
  · simp
theorem trim_len (l m : List UInt8) : (Lib.trimPrefix l m).length ≤ l.length := by
  unfold Lib.trimPrefix
  split
  · simp only [List.length_drop]; omega
  · exact Nat.le_refl _

/-- The number that is read behind the mark, and what is left. -/
def numOf (l : List UInt8) : Int :=
  match Lib.atoiAll l with
  | .ok v => v
  | .range => Lib.atoiSat l
  | _ => 0
def nextN (l mark : List UInt8) : Int := numOf (Lib.trimPrefix (Lib.cut l [32]).1 mark)
def nextR (l : List UInt8) : List UInt8 := (Lib.cut l [32]).2.1

theorem atoi_any (s : ByteArray) (w : World) (h : Env2 w) (hs : s.size ≤ 1000) :
    Calls Tryd.prog 47 #[.string s] w fun e w' => ∃ x, e = .returned (.tuple #[.int .i64 (numOf s.data.toList), x]) ∧ Below w.heap.size w w' := by
  unfold numOf
  rcases ha : Lib.atoiAll s.data.toList with v | _ | _
  · refine (Tryd.strconv_Atoi_ok s (by omega) v ha w).mono fun e w' ⟨he, hw⟩ => ⟨_, he, ?_⟩
    rcases hw with rfl | ⟨t, rfl⟩
    · exact Below.refl _ _
    · exact Lib.bytesWorld_below _ _ _
  · obtain ⟨te, pe, hv⟩ := h.syn
    have hq : Calls Tryd.prog 47 #[.string s] w fun e w' => ∃ N, e = .returned (.tuple #[.int .i64 0, .iface 88 (.pointer (some ⟨N, 0, none⟩))]) ∧ w.heap.size ≤ N ∧ w'.heap[N]? = some (.cells #[.string ⟨#[65, 116, 111, 105]⟩, .string s, .iface te pe] 106 (0, 0)) ∧ Below w.heap.size w w' :=
      Any.strconv_Atoi_syntax Tryd.laysC172 s (by omega) ha _ w hv (Or.inr ⟨_, _, rfl⟩)
    exact hq.mono fun e w' ⟨N, he, _, _, hb⟩ => ⟨_, he, hb⟩
  · obtain ⟨te, pe, hv⟩ := h.rng
    exact (Tryd.strconv_Atoi_range s (by omega) ha _ w hv (Or.inr ⟨_, _, rfl⟩)).mono fun e w' ⟨N, he, _, _, hb⟩ => ⟨_, he, hb⟩

set_option maxRecDepth 100000 in
set_option maxHeartbeats 1000000 in
theorem next_any (s m : ByteArray) (b : Nat) (w : World) (h : Env2 w) (h8 : 8 ≤ b) (hs : s.size ≤ 1000) (hc : w.heap[b]? = some (.cells #[.string s] 9 (0, 0))) :
    Calls Tryd.prog 46 #[.string m, .pointer (some ⟨b, 0, none⟩)] w fun e w' => e = .returned (.int .i64 (nextN s.data.toList m.data.toList)) ∧
      Upd b (.string ⟨(nextR s.data.toList).toArray⟩) 9 w w' := by
  have H := Lib.hid hc
  have gc := cell_of_one hc
  have fc := free_of_one hc
  have hlt := lt_of_block hc
  obtain ⟨mm, hm⟩ := h.most
  clear hc
  go_enter Tryd.func46, Tryd.ntmps46
  go_wp2_with fail
  refine (Tryd.strings_Cut s ⟨#[32]⟩ mm _ (by omega) hm).mono ?_
  rintro e w1 ⟨rfl, n, rfl⟩
  go_wp2_with fail
  have u : Upd b (.string ⟨(nextR s.data.toList).toArray⟩) 9 w ((w.drewN n).setCell ⟨b, 0, none⟩ (.string ⟨(Lib.cut s.data.toList [32]).2.1.toArray⟩)) := upd_set H.out
  obtain ⟨w1, hw1⟩ : ∃ w1, w1 = (w.drewN n).setCell ⟨b, 0, none⟩ (.string ⟨(Lib.cut s.data.toList [32]).2.1.toArray⟩) := ⟨_, rfl⟩
  rw [← hw1] at u ⊢
  clear hw1
  have he := h.low (u.below (B := 8) h8 h.size)
  refine (Tryd.strings_TrimPrefix _ m _).mono ?_
  rintro e w2 ⟨rfl, hw2⟩
  obtain rfl := hw2
  go_wp2_with fail
  refine (atoi_any _ _ he ?_).mono ?_
  · have h1 := trim_len (Lib.cut s.data.toList [32]).1 m.data.toList
    have h2 := (cut_len s.data.toList [32]).1
    have h3 : s.data.toList.length = s.size := Array.length_toList
    have h4 : (⟨(Lib.trimPrefix (Lib.cut s.data.toList [32]).1 m.data.toList).toArray⟩ : ByteArray).size = (Lib.trimPrefix (Lib.cut s.data.toList [32]).1 m.data.toList).length := by simp [ByteArray.size]
    show (⟨(Lib.trimPrefix (Lib.cut s.data.toList [32]).1 m.data.toList).toArray⟩ : ByteArray).size ≤ 1000
    omega
  rintro e w3 ⟨x, rfl, hb⟩
  go_wp2_with fail
  go_ret
  exact ⟨rfl, u.grow hb⟩
end Go.Proofs.YtmgheeldoadnhaaDoor
