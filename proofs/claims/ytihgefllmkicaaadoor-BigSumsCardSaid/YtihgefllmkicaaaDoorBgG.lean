/- Contracts: digits as sums; a row times a number, added to another one. Conditions: the rows lie as told. -/
import Derived.Test.YtihgefllmkicaaaDoorBgF
namespace Go.Proofs.YtihgefllmkicaaaDoor
open Go.RowKit Bg
set_option linter.unusedVariables false
set_option linter.unusedSimpArgs false


theorem fill_set (l : List Int) {k : Nat} (hk : k < l.length) : (l.take k ++ List.replicate (l.length - k) 0).set k (l.getD k 0) = l.take (k + 1) ++ List.replicate (l.length - (k + 1)) 0 := by
  have e : l.length - k = (l.length - (k + 1)) + 1 := by omega
  rw [e, List.replicate_succ, List.set_append, if_neg (by rw [List.length_take]; omega)]
  rw [show k - (l.take k).length = 0 by rw [List.length_take]; omega, List.set_cons_zero, List.take_add_one, List.append_assoc]
  simp [List.getD, List.getElem?_eq_getElem hk]
theorem fill_len (l : List Int) {k : Nat} (hk : k ≤ l.length) : (l.take k ++ List.replicate (l.length - k) 0).length = l.length := by
  rw [List.length_append, List.length_take, List.length_replicate]; omega
theorem fill_end (l : List Int) : l.take l.length ++ List.replicate (l.length - l.length) 0 = l := by simp
theorem fill_start (l : List Int) : l.take 0 ++ List.replicate (l.length - 0) 0 = List.replicate l.length 0 := by simp
set_option maxRecDepth 100000 in
set_option maxHeartbeats 2000000 in
theorem widened_at {w : World} {p : Option Addr} {c : Nat} {l : List Int} (h : Arg .u16 w p c l) (hd : Dig 65536 l) (hn : l.length ≤ 10000000) :
    Calls Tryd.prog 65 #[.slice p l.length c] w fun e w' => ∃ v, e = .returned v ∧ Own 66 .u64 w.heap.size w' v l ∧ Below w.heap.size w w' := by
  have hle := h.le
  have hmx := h.max
  obtain ⟨w1, hr, ho, hb1⟩ := make_own kt64 w (B := w.heap.size) l.length (by omega) (Nat.le_refl _)
  obtain ⟨G, hG⟩ : ∃ G, G = w.heap.size := ⟨_, rfl⟩
  rw [← hG] at hr ho hb1 ⊢
  have H := Lib.hid h
  have HD := Lib.hid hd
  have HO := Lib.hid (And.intro ho (And.intro hb1 hG))
  clear h hd ho hb1 hG
  go_enter Tryd.func65, Tryd.ntmps65
  go_wp2_with fail
  go_loopw [11] (fun s wr => ∃ k : Nat, s = .int .i64 k ∧ k ≤ l.length ∧ Own 66 .u64 G wr (.slice (some ⟨G, 0, none⟩) l.length l.length) (l.take k ++ List.replicate (l.length - k) 0) ∧ Below G w wr) (fun s _ => l.length - (intOf s).toNat)
  case atStart => exact ⟨0, rfl, Nat.zero_le _, by rw [fill_start]; exact HO.out.1, HO.out.2.1⟩
  case round =>
    obtain ⟨k, rfl, hk, ho, hb⟩ := hrel
    by_cases hlt : k < l.length
    · obtain ⟨b, off, rfl, hc⟩ := H.out.at (by omega)
      have hck := hc k hlt
      have hbk : b < w.heap.size := World.block_lt_of_cell? w _ hck
      have hck' := (hb.cell (p := ⟨b, off + k, none⟩) (by rw [HO.out.2.2]; exact hbk)).trans hck
      have hdk := HD.out.getD (by decide) k
      obtain ⟨x, hx⟩ : ∃ x, x = l.getD k 0 := ⟨_, rfl⟩
      rw [← hx] at hck' hdk
      have hfl := fill_len l (k := k) (by omega)
      have g0 := ho.cell k (by rw [hfl]; exact hlt)
      have g1 := ho.free k
      have d1 : decide ((k : Int) < (l.length : Int)) = true := by rw [decide_eq_true_eq]; omega
      have f1 : (k : Int) < (l.length : Int) := by omega
      have x0 := hdk.1
      have x1 := hdk.2
      have HX := Lib.hid (And.intro hx (And.intro ho hb))
      clear hx ho hb hc hck hbk hdk hfl
      go_wp2_with fail
      go_roundw
      case rel =>
        have hs := HX.out.2.1.set k x
        rw [HX.out.1, fill_set l hlt] at hs
        refine ⟨k + 1, by go_num, by omega, by rw [HX.out.1]; exact hs, HX.out.2.2.setCell (p := ⟨G, k, none⟩) (Nat.le_refl _) _⟩
      case measure => simp [intOf]; omega
    · have hz : k = l.length := by omega
      subst hz
      have d1 : decide ((l.length : Int) < (l.length : Int)) = false := by simp
      rw [fill_end] at ho
      have HX := Lib.hid (And.intro ho hb)
      clear ho hb
      go_wp2_with fail
      go_ret
      exact ⟨_, rfl, HX.out.1, HX.out.2⟩
theorem grown_refl (w : World) (row : Option Nat) : w.grownBy w row := ⟨rfl, rfl, rfl, Nat.le_refl _, fun _ _ _ => rfl⟩
theorem grown_trans {a b c : World} {row : Option Nat} (h : a.grownBy b row) (k : b.grownBy c row) : a.grownBy c row :=
  ⟨k.os.trans h.os, k.tape.trans h.tape, k.output.trans h.output, Nat.le_trans h.size k.size, fun i hi hn => (k.block i (Nat.lt_of_lt_of_le hi h.size) hn).trans (h.block i hi hn)⟩
theorem grown_set (w : World) (g i : Nat) (u : Value) : w.grownBy (w.setCell ⟨g, i, none⟩ u) (some g) :=
  ⟨rfl, rfl, rfl, by show _ ≤ (w.heap.modify _ _).size; simp, fun k hk hn => Below.heap_setCell _ _ _ _ (fun e => hn (by rw [e]))⟩
theorem grown_drew (w : World) (row : Option Nat) : w.grownBy w.drew row := ⟨rfl, rfl, rfl, Nat.le_refl _, fun _ _ _ => rfl⟩
theorem grown_of_below {w w' : World} {row : Option Nat} (h : Below w.heap.size w w') : w.grownBy w' row := ⟨h.os, h.tape, h.output, h.size, fun k hk _ => h.block k hk⟩
theorem wrapU (x : Int) : IntKind.u64.wrap x = x % M64 := by rw [IntKind.wrap_u64]
theorem grown_drewr {a b : World} {row : Option Nat} (h : a.grownBy b row) : a.grownBy b.drew row := grown_trans h (grown_drew _ _)
theorem Arg.kept {k : IntKind} {w w' : World} {p : Option Addr} {c : Nat} {l : List Int} {row : Option Nat} (h : Arg k w p c l) (hg : w.grownBy w' row) (hp : ∀ b o, p = some ⟨b, o, none⟩ → some b ≠ row) : Arg k w' p c l :=
  ⟨h.nil, h.le, h.max, fun i hi => by
    obtain ⟨b, off, he, hc⟩ := h.cell i hi
    exact ⟨b, off, he, (World.cell?_of_block (w := w) (hg.block b (World.block_lt_of_cell? w _ hc) (hp b off he))).trans hc⟩⟩
set_option maxRecDepth 100000 in
set_option maxHeartbeats 2000000 in
theorem addTimes_at {w : World} {B g n cap off m cp : Nat} {p : Option Addr} {c : Nat} {S A : List Int} {x : Int} (ho : Own 66 .u64 B w (.slice (some ⟨g, 0, none⟩) n cap) S) (h : Arg .u64 w p c A) (hp : ∀ b o, p = some ⟨b, o, none⟩ → some b ≠ some g)
    (hS : Dig M64 S) (hA : Dig M64 A) (hx : 0 ≤ x ∧ x < M64) (ho1 : off + A.length ≤ S.length) (hm : A.length ≤ cp) (hcp : cp ≤ 9223372036854775807) (hn : S.length ≤ 100000000) :
    Calls Tryd.prog 78 #[.slice (some ⟨g, off, none⟩) m cp, .slice p A.length c, .int .u64 x] w fun e w' => e = .returned (.tuple #[]) ∧ Own 66 .u64 B w' (.slice (some ⟨g, 0, none⟩) n cap) (addL S off A x) ∧ w.grownBy w' (some g) := by
  have hle := h.le
  have hmx := h.max
  have H := Lib.hid (And.intro h hp)
  have HO := Lib.hid ho
  have HD := Lib.hid (And.intro hS (And.intro hA hx))
  clear h hp hS hA ho hx
  go_enter Tryd.func78, Tryd.ntmps78
  go_wp2_with fail
  go_loopw [13] (fun s wr => ∃ k : Nat, s = .int .i64 k ∧ k ≤ A.length ∧ Own 66 .u64 B wr (.slice (some ⟨g, 0, none⟩) n cap) (addL S off (A.take k) x) ∧ w.grownBy wr (some g)) (fun s _ => A.length - (intOf s).toNat)
  case atStart => exact ⟨0, rfl, Nat.zero_le _, by rw [List.take_zero, addL_nil]; exact HO.out, grown_refl _ _⟩
  case round =>
    obtain ⟨k, rfl, hk, ho, hb⟩ := hrel
    have ha := H.out.1.kept hb H.out.2
    by_cases hlt : k < A.length
    · obtain ⟨b, o, rfl, hc⟩ := ha.at (by omega)
      have hck := hc k hlt
      have hdk := HD.out.2.1.getD (by decide) k
      have hll : (addL S off (A.take k) x).length = S.length := addL_len _ _ _ _
      have g0 := ho.cell (off + k) (by rw [hll]; omega)
      have g1 := ho.free (off + k)
      have hds := (addL_dig HD.out.1 (A := A.take k) (off := off) (n := x)).getD (by decide) (off + k)
      obtain ⟨y, hy⟩ : ∃ y, y = A.getD k 0 := ⟨_, rfl⟩
      obtain ⟨s, hs⟩ : ∃ s, s = (addL S off (A.take k) x).getD (off + k) 0 := ⟨_, rfl⟩
      rw [← hy] at hck hdk
      rw [← hs] at g0 hds
      have d1 : decide ((k : Int) < (A.length : Int)) = true := by rw [decide_eq_true_eq]; omega
      have f1 : (k : Int) < (A.length : Int) := by omega
      have HX := Lib.hid (And.intro hy (And.intro hs (And.intro ho (And.intro hb (And.intro hdk hds)))))
      clear hy hs ho hb ha hc hdk hds hll
      go_wp2_with fail
      go_region
      all_goals
        go_wp2_with fail
        go_roundw
      case rel =>
        have hs := HX.out.2.2.1.set (off + k) ((s + x * y % M64) % M64)
        have e1 : IntKind.u64.wrap (s + IntKind.u64.wrap (x * y)) = (s + x * y % M64) % M64 := by rw [wrapU, wrapU]
        rw [e1]
        have e2 := addL_step (S := S) (A := A) (off := off) (n := x) hlt ho1
        unfold cf at e2
        rw [← HX.out.2.1, ← HX.out.1] at e2
        rw [e2] at hs
        exact ⟨k + 1, by go_num, hlt, hs.drew, grown_drewr (grown_trans HX.out.2.2.2.1 (grown_set _ _ _ _))⟩
      case measure => simp [intOf]; omega
    · have hz : k = A.length := by omega
      subst hz
      have d1 : decide ((A.length : Int) < (A.length : Int)) = false := by simp
      rw [List.take_length] at ho
      have HX := Lib.hid (And.intro ho hb)
      clear ho hb ha
      go_wp2_with fail
      go_returns
      exact ⟨rfl, HX.out.1, HX.out.2⟩
end Go.Proofs.YtihgefllmkicaaaDoor
