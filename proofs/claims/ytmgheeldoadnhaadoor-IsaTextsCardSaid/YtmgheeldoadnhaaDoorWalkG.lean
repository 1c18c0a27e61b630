/- Contracts: Name, named; what the texts want of the world. -/
import Derived.Test.YtmgheeldoadnhaaDoorWalkA
import Derived.Test.YtmgheeldoadnhaaDoorSpecD
import Derived.Lib.LaidTab
import Derived.Deep.Light
namespace Go.Proofs.YtmgheeldoadnhaaDoor
open Go.RowKit

/-- What the texts want besides: the library's variables. -/
structure Env2 (w : World) : Prop extends Env w where
  most : ∃ m, w.cell? ⟨2, 0, none⟩ = some (.int .i64 m)
  syn : ∃ te pe, w.cell? ⟨3, 0, none⟩ = some (.iface te pe)
  rng : ∃ te pe, w.cell? ⟨4, 0, none⟩ = some (.iface te pe)
  tab : Lib.TabIs Tryd.prog w "internal/strconv.uint64pow10" .u64 Lib.pow10Tab
theorem gTab : Tryd.prog.globalNamed "internal/strconv.uint64pow10" = some 5 := by kernel_rfl
theorem Env2.below {W w1 : World} (h : Env2 W) (hb : Below W.heap.size W w1) : Env2 w1 where
  toEnv := h.toEnv.below hb
  most := let ⟨m, hm⟩ := h.most; ⟨m, ((bcell hb).1 _ _ (by have := h.size; omega)).trans hm⟩
  syn := let ⟨a, b, hm⟩ := h.syn; ⟨a, b, ((bcell hb).1 _ _ (by have := h.size; omega)).trans hm⟩
  rng := let ⟨a, b, hm⟩ := h.rng; ⟨a, b, ((bcell hb).1 _ _ (by have := h.size; omega)).trans hm⟩
  tab := var?_below hb gTab (by have := h.size; omega) h.tab
theorem Env2.alloc {W : World} (h : Env2 W) (o : Obj) : Env2 (W.alloc o) := h.below ((Below.refl _ _).alloc (Nat.le_refl _) _)

/-- A name, or nothing. -/
def nameOf (op : Int) : ByteArray := if Isa.form op = 0 then ⟨#[]⟩ else Isa.nameB op.toNat

set_option maxRecDepth 100000 in
set_option maxHeartbeats 1000000 in
theorem name_any (op : Int) (w : World) (h : Env w) :
    Calls Tryd.prog 13 #[.int .i64 op] w fun e w' => e = .returned (.string (nameOf op)) ∧ w = w' := by
  have hp := Isa.form_pos op
  by_cases hf : Isa.form op = 0
  · have HN : Hid (nameOf op = ⟨#[]⟩) := by unfold Hid nameOf; rw [if_pos hf]
    have hz : ((Isa.form op : Int) == 0) = true := by simp [hf]
    clear hf hp
    go_enter Tryd.func13, Tryd.ntmps13
    go_wp2_with (go_at_call 11; refine (form_any _ _).mono ?_; rintro e w' ⟨rfl, rfl⟩)
    go_ret
    exact ⟨by rw [HN.out]; rfl, rfl⟩
  · have HN : Hid (nameOf op = Isa.nameB op.toNat) := by unfold Hid nameOf; rw [if_neg hf]
    have hz : ((Isa.form op : Int) == 0) = false := by simp [hf]
    have h1 : 1 ≤ op := by omega
    have h2 : op ≤ 36 := by omega
    have hc := h.names op.toNat (by omega)
    clear hf hp
    go_enter Tryd.func13, Tryd.ntmps13
    go_wp2_with (go_at_call 11; refine (form_any _ _).mono ?_; rintro e w' ⟨rfl, rfl⟩)
    go_ret
    exact ⟨by rw [HN.out]; rfl, rfl⟩

theorem nameB_list (k : Nat) : (Isa.nameB k).data.toList = Isa.nameL k := rfl
/-- The operation with this name; 0, if there is none. -/
def namedFrom (l : List UInt8) : Nat → Nat → Nat
  | 0, _ => 0
  | f + 1, i => if Isa.nameL i = l then i else namedFrom l f (i + 1)
def named (l : List UInt8) : Nat := namedFrom l 36 1

set_option maxRecDepth 100000 in
set_option maxHeartbeats 1000000 in
theorem named_any (s : ByteArray) (w : World) (h : Env w) :
    Calls Tryd.prog 49 #[.string s] w fun e w' => e = .returned (.int .i64 (named s.data.toList)) ∧ w = w' := by
  go_enter Tryd.func49, Tryd.ntmps49
  go_wp2
  go_loop [3] (fun i => ∃ k : Nat, 1 ≤ k ∧ k ≤ 37 ∧ i = .int .i64 k ∧ Hid (named s.data.toList = namedFrom s.data.toList (37 - k) k)) (fun i => 37 - (intOf i).toNat)
  case atStart => exact ⟨1, by decide, by decide, rfl, rfl⟩
  case round =>
    obtain ⟨k, h1, h2, rfl, hN⟩ := hrel
    by_cases hlt : k ≤ 36
    · have hc := h.names k (by omega)
      obtain ⟨f, hf⟩ : ∃ f, 37 - k = f + 1 := ⟨36 - k, by omega⟩
      have HF := Lib.hid hf
      clear hf
      go_wp2
      · have ht : ((Isa.nameB k).toList == s.toList) = true := by assumption
        go_ret
        refine ⟨ret_int ?_, rfl⟩
        have hn := hN.out
        rw [HF.out, namedFrom] at hn
        rw [hn, if_pos]
        rw [ByteArray.toList_eq, ByteArray.toList_eq, nameB_list] at ht
        exact beq_iff_eq.1 ht
      · have ht : ((Isa.nameB k).toList == s.toList) = false := by assumption
        go_round
        case rel =>
          refine ⟨k + 1, by omega, by omega, by go_num, ?_⟩
          have hn := hN.out
          unfold Hid
          rw [HF.out, namedFrom] at hn
          rw [hn, if_neg, show 37 - (k + 1) = f by have := HF.out; omega]
          rw [ByteArray.toList_eq, ByteArray.toList_eq, nameB_list] at ht
          exact beq_eq_false_iff_ne.1 ht
        case measure => simp [intOf]; omega
    · have hk : k = 37 := by omega
      have HK := Lib.hid hk
      clear hk
      go_wp2
      go_ret
      refine ⟨ret_int ?_, rfl⟩
      rw [hN.out, HK.out]
      rfl
end Go.Proofs.YtmgheeldoadnhaaDoor
