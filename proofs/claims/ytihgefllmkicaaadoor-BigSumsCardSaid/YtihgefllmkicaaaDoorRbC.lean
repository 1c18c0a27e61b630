/- Contracts: the document's digits to the base 65536. Conditions: the digits lie as told. -/
import Derived.Test.YtihgefllmkicaaaDoorRbA
import Derived.Test.YtihgefllmkicaaaDoorBgP
import Derived.Test.YtihgefllmkicaaaDoorBgE
namespace Go.Proofs.YtihgefllmkicaaaDoor
open Go.RowKit Bg
set_option linter.unusedVariables false
set_option linter.unusedSimpArgs false


structure Halv (l : List Int) (k : Nat) (rest : Int) (L : List Int) : Prop where
  len : L.length = l.length
  dig : Dig 10 L
  bound : 0 ≤ rest ∧ rest < 65536
  val : Bg.val 10 (l.drop k) = 65536 * Bg.val 10 (L.drop k) + rest
theorem drop_set_eq {L : List Int} {i : Nat} (h : i < L.length) (q : Int) : (L.set i q).drop i = q :: L.drop (i + 1) := by
  rw [List.drop_set, if_neg (by omega), Nat.sub_self, List.drop_eq_getElem_cons h]
  rfl
theorem dig_set {B : Int} {l : List Int} (h : Dig B l) (i : Nat) {q : Int} (hq : 0 ≤ q ∧ q < B) : Dig B (l.set i q) := by
  intro d hd
  rcases List.mem_or_eq_of_mem_set hd with h1 | h1
  · exact h d h1
  · rw [h1]; exact hq
theorem Halv.next {l : List Int} {k : Nat} {rest : Int} {L : List Int} (h : Halv l (k + 1) rest L) (hk : k < l.length) (hl : Dig 10 l) :
    Halv l k ((10 * rest + l.getD k 0) % 65536) (L.set k ((10 * rest + l.getD k 0) / 65536)) := by
  have hd := hl.getD (by decide) k
  have hs := horner_step (V := Bg.val 10 (L.drop (k + 1))) (show (0 : Int) < 10 by decide) (show (0 : Int) < 65536 by decide) h.bound hd
  refine ⟨by rw [List.length_set]; exact h.len, dig_set h.dig k ⟨hs.1.2, hs.1.1⟩, hs.2.1, ?_⟩
  rw [val_drop l hk, h.val, drop_set_eq (by rw [h.len]; exact hk)]
  show _ = 65536 * (_ + 10 * Bg.val 10 (L.drop (k + 1))) + _
  have := hs.2.2
  rw [Int.mul_comm 65536 (Bg.val 10 (L.drop (k + 1))), this, Int.mul_comm]
theorem Own.asArg {E : TypeId} {k : IntKind} {B : Nat} {w : World} {p : Option Addr} {n c : Nat} {l : List Int} (h : Own E k B w (.slice p n c) l) : Arg k w p c l := by
  obtain ⟨p', c', e, a, -⟩ := h.arg
  simp only [Value.slice.injEq] at e
  obtain ⟨rfl, -, rfl⟩ := e
  exact a
theorem dig_zeros (n : Nat) : Dig 10 (List.replicate n 0) := by
  intro d hd
  rw [(List.mem_replicate.1 hd).2]
  decide
set_option maxRecDepth 100000 in
set_option maxHeartbeats 4000000 in
theorem rhalves_at {w : World} {p : Option Addr} {c : Nat} {l : List Int} (h : Arg .i64 w p c l) (hl : Dig 10 l) (hn : l.length ≤ 10000000) :
    Calls Tryd.prog 61 #[.slice p l.length c] w fun e w' => ∃ v L r, e = .returned (.tuple #[v, .int .i64 r]) ∧ Own 3 .i64 w.heap.size w' v L ∧ Dig 10 L ∧ Tidy L ∧ (0 ≤ r ∧ r < 65536) ∧ val 10 l = 65536 * val 10 L + r ∧ Below w.heap.size w w' := by
  have hle := h.le
  have hmx := h.max
  obtain ⟨w1, hr1, ho1, hB1⟩ := make_own ktI w (B := w.heap.size) l.length (by omega) (Nat.le_refl _)
  have H := Lib.hid (And.intro h hl)
  have HR := Lib.hid (And.intro ho1 hB1)
  obtain ⟨g, hg⟩ : ∃ g, g = w.heap.size := ⟨_, rfl⟩
  have HG := Lib.hid hg
  clear h hl ho1 hB1
  go_enter Tryd.func61, Tryd.ntmps61
  go_wp2_with fail
  go_loopw [5, 6] (fun s5 s6 wr => ∃ (k : Nat) (rest : Int) (L : List Int), s6 = .int .i64 ((k : Int) - 1) ∧ s5 = .int .i64 rest ∧ k ≤ l.length ∧ Hid (Halv l k rest L ∧ Own 3 .i64 w.heap.size wr (.slice (some ⟨w.heap.size, 0, none⟩) l.length l.length) L ∧ Below w.heap.size w wr)) (fun _ s _ => (intOf s + 1).toNat)
  case atStart => exact ⟨l.length, 0, List.replicate l.length 0, rfl, rfl, Nat.le_refl _, ⟨by simp, dig_zeros _, by decide, by rw [List.drop_eq_nil_of_le (Nat.le_refl _), List.drop_eq_nil_of_le (by simp)]; rfl⟩, HR.out.1, HR.out.2⟩
  case round =>
    obtain ⟨k, rest, L, rfl, rfl, hk, hS⟩ := hrel
    cases k with
    | zero =>
      have d1 : decide (((0 : Nat) : Int) - 1 ≥ 0) = false := by decide
      have T := Lib.hid (rtrim_at hS.out.2.1.asArg)
      have hLl := hS.out.1.len
      rw [hLl] at T
      have hh := hS.out.1.val
      rw [List.drop_zero, List.drop_zero] at hh
      have HV := Lib.hid hh
      clear hh hk
      go_wp2_with fail
      refine T.out.mono ?_
      rintro e w5 ⟨rfl, rfl⟩
      have hT := Lib.hid hLl
      have htr := trimN_le L L.length
      clear hLl
      go_wp2_with fail
      refine bodyPost_ret (v := .tuple #[.slice (some ⟨w.heap.size, 0, none⟩) (trimN L l.length) l.length, .int .i64 rest]) (by simp [results, Tryd.results61, go_sem]) rfl ⟨_, L.take (trimN L L.length), rest, rfl, ?_, ?_, ?_, hS.out.1.bound, ?_, hS.out.2.2⟩
      · have := hS.out.2.1.take (m := trimN L l.length) (by rw [← hT.out]; exact htr)
        rw [hT.out]
        exact this
      · exact hS.out.1.dig.take _
      · exact trim_tidy _ (Nat.le_refl _)
      · rw [HV.out, trim_val, List.take_length]
    | succ k =>
      obtain ⟨b, off, rfl, hc⟩ := H.out.1.at (by omega)
      have ck := (H.out.1.below hS.out.2.2).some_at k (by omega)
      have hnx := hS.out.1.next (by omega) H.out.2
      have hd := H.out.2.getD (by decide) k
      have hrs := hS.out.1.bound
      obtain ⟨d, hde⟩ : ∃ d, d = l.getD k 0 := ⟨_, rfl⟩
      rw [← hde] at ck hnx hd
      obtain ⟨z, hz⟩ : ∃ z, z = 10 * rest + d := ⟨_, rfl⟩
      rw [← hz] at hnx
      have z0 : 0 ≤ z := by omega
      have z1 : z < 1000000 := by omega
      have e1 : wrap64 (10 * rest) = 10 * rest := by unfold wrap64; omega
      have e2 : wrap64 (10 * rest + d) = z := by rw [hz]; unfold wrap64; omega
      have e3 : z.tdiv 65536 = z / 65536 := Int.tdiv_eq_ediv_of_nonneg z0
      have e4 : z.tmod 65536 = z % 65536 := Int.tmod_eq_emod_of_nonneg z0
      have e5 : wrap64 (z / 65536) = z / 65536 := by unfold wrap64; omega
      have e6 : ((k + 1 : Nat) : Int) - 1 = k := by omega
      have d1 : decide (((k : Nat) : Int) ≥ 0) = true := by rw [decide_eq_true_eq]; omega
      have f1 : (k : Int) < (l.length : Int) := by omega
      have hfr := hS.out.2.1.free k
      have hst := hS.out.2.1.set k (z / 65536)
      have hb := hS.out.2.2.setCell (p := ⟨w.heap.size, k, none⟩) (Nat.le_refl _) (.int .i64 (z / 65536))
      have hcc := hS.out.2.1.cell k (by rw [hS.out.1.len]; omega)
      have HX := Lib.hid (And.intro hnx (And.intro hst hb))
      clear hnx hst hb hc hrs hde hz hd z0 z1
      rw [e6]
      go_wp2_with fail
      go_roundw
      case rel => exact ⟨k, z % 65536, _, rfl, rfl, by omega, HX.out.1, HX.out.2.1, HX.out.2.2⟩
      case measure => simp [intOf]
end Go.Proofs.YtihgefllmkicaaaDoor
