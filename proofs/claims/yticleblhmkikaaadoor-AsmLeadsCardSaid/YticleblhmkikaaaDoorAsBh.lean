/- Contracts: what an encoded instruction is decoded as; where such words lead (lands). Conditions: the words lie as told; the table of forms is as laid. -/
import Derived.Test.YticleblhmkikaaaDoorAsX
import Derived.Test.YticleblhmkikaaaDoorIsaWf
namespace Go.Proofs.YticleblhmkikaaaDoor
open Go.RowKit Asm
set_option linter.unusedVariables false
set_option linter.unusedSimpArgs false

def insOk (x : Ins) : Bool := Isa.ok x.op x.d x.a x.b x.imm
def insV (x : Ins) : Value := .agg #[.int .i64 x.op, .int .i64 x.d, .int .i64 x.a, .int .i64 x.b, .int .i64 x.imm]
theorem insW_ok {x : Ins} (h : insOk x = true) : insW x = Isa.word x.op x.d x.a x.b x.imm := by
  unfold insW Isa.enc
  unfold insOk at h
  rw [if_pos h]
theorem decode_ins {x : Ins} (h : insOk x = true) (w : World) (hE : Env w) : Calls Tryd.prog 34 #[.int .u32 (insW x)] w fun e w' => e = .returned (.tuple #[insV x, .int .i64 0]) ∧ Below w.heap.size w w' := by
  rw [insW_ok h]
  obtain ⟨⟨v0, v1⟩, h0, h1, h2, h3, h4⟩ := Isa.dec_enc (op := x.op) (d := x.d) (a := x.a) (b := x.b) (imm := x.imm) h
  refine (decode_any _ w hE v0 v1).mono ?_
  rintro e w' ⟨hd, hb⟩
  refine ⟨?_, hb⟩
  have hop : Isa.word x.op x.d x.a x.b x.imm / 67108864 = x.op := h0
  rw [hop, h1, h2, h3, h4] at hd
  unfold Dec at hd
  have h' : Isa.ok x.op x.d x.a x.b x.imm = true := h
  rw [if_pos h'] at hd
  exact hd
set_option maxRecDepth 100000 in
set_option maxHeartbeats 4000000 in
theorem lands_one {w : World} {g off c : Nat} {x : Ins} (hx : insOk x = true) (hE : Env w) (hc : w.cell? ⟨g, off, none⟩ = some (.int .u32 (insW x))) (v : Int) (hv : 0 ≤ v ∧ v ≤ 1000000000) (hi : -2000000000 ≤ x.imm ∧ x.imm ≤ 2000000000) :
    Calls Tryd.prog 23 #[.slice (some ⟨g, off, none⟩) 1 c, .int .i64 v] w fun e w' => e = .returned (.int .i64 (v + 1 + x.imm)) ∧ Below w.heap.size w w' := by
  have hd := decode_ins hx w hE
  clear hx
  go_enter Tryd.func23, Tryd.ntmps23
  go_wp2_with fail
  refine hd.mono ?_
  rintro e w1 ⟨rfl, hb⟩
  unfold insV
  have HB := Lib.hid hb
  clear hb hd hc
  go_wp2_with fail
  go_ret
  exact ⟨rfl, HB.out.alloc HB.out.size _⟩
theorem ok_lui {d i : Int} (hd : 0 ≤ d ∧ d ≤ 31) (hi : 0 ≤ i ∧ i ≤ 65535) : insOk ⟨23, d, 0, 0, i⟩ = true := by
  show Isa.ok 23 d 0 0 i = true
  have hf : Isa.form 23 = 3 ∨ True := Or.inr trivial
  have hl : Isa.low 23 = 0 := rfl
  have hh : Isa.high 23 = 65535 := rfl
  have s0 : Isa.shape (Isa.form 23) 0 = true := rfl
  have s1 : Isa.shape (Isa.form 23) 1 = false := rfl
  have s2 : Isa.shape (Isa.form 23) 2 = false := rfl
  have sf : Isa.form 23 ≠ 0 := by decide
  unfold Isa.ok
  rw [hl, hh, s0, s1, s2]
  simp [Isa.regOk, sf]
  omega
theorem ok_ori {d a i : Int} (hd : 0 ≤ d ∧ d ≤ 31) (ha : 0 ≤ a ∧ a ≤ 31) (hi : 0 ≤ i ∧ i ≤ 65535) : insOk ⟨17, d, a, 0, i⟩ = true := by
  show Isa.ok 17 d a 0 i = true
  have hl : Isa.low 17 = 0 := rfl
  have hh : Isa.high 17 = 65535 := rfl
  have s0 : Isa.shape (Isa.form 17) 0 = true := rfl
  have s1 : Isa.shape (Isa.form 17) 1 = true := rfl
  have s2 : Isa.shape (Isa.form 17) 2 = false := rfl
  have sf : Isa.form 17 ≠ 0 := by decide
  unfold Isa.ok
  rw [hl, hh, s0, s1, s2]
  simp [Isa.regOk, sf]
  omega
theorem ok_jalr {d a : Int} (hd : 0 ≤ d ∧ d ≤ 31) (ha : 0 ≤ a ∧ a ≤ 31) : insOk ⟨33, d, a, 0, 0⟩ = true := by
  show Isa.ok 33 d a 0 0 = true
  have hl : Isa.low 33 = -32768 ∨ Isa.low 33 = 0 := by decide
  have hh : Isa.high 33 = 32767 ∨ Isa.high 33 = 0 := by decide
  have s0 : Isa.shape (Isa.form 33) 0 = true := rfl
  have s1 : Isa.shape (Isa.form 33) 1 = true := rfl
  have s2 : Isa.shape (Isa.form 33) 2 = false := rfl
  have sf : Isa.form 33 ≠ 0 := by decide
  unfold Isa.ok
  rw [s0, s1, s2]
  rcases hl with hl | hl <;> rcases hh with hh | hh <;> rw [hl, hh] <;> simp [Isa.regOk, sf] <;> omega
theorem ok_jal2 {d i : Int} (hd : 0 ≤ d ∧ d ≤ 31) (hi : -1048576 ≤ i ∧ i ≤ 1048575) : insOk ⟨32, d, 0, 0, i⟩ = true := by
  show Isa.ok 32 d 0 0 i = true
  have hl : Isa.low 32 = -1048576 := rfl
  have hh : Isa.high 32 = 1048575 := rfl
  have s0 : Isa.shape (Isa.form 32) 0 = true := rfl
  have s1 : Isa.shape (Isa.form 32) 1 = false := rfl
  have s2 : Isa.shape (Isa.form 32) 2 = false := rfl
  have sf : Isa.form 32 ≠ 0 := by decide
  unfold Isa.ok
  rw [hl, hh, s0, s1, s2]
  simp [Isa.regOk, sf]
  omega
theorem ok_br {op a b i : Int} (ho : 26 ≤ op ∧ op ≤ 31) (ha : 0 ≤ a ∧ a ≤ 31) (hb : 0 ≤ b ∧ b ≤ 31) (hi : -32768 ≤ i ∧ i ≤ 32767) : insOk ⟨op, 0, a, b, i⟩ = true := by
  show Isa.ok op 0 a b i = true
  have e : op = 26 ∨ op = 27 ∨ op = 28 ∨ op = 29 ∨ op = 30 ∨ op = 31 := by omega
  have hf : Isa.form op = 4 := by rcases e with rfl | rfl | rfl | rfl | rfl | rfl <;> rfl
  have hl : Isa.low op = -32768 := by rcases e with rfl | rfl | rfl | rfl | rfl | rfl <;> rfl
  have hh : Isa.high op = 32767 := by rcases e with rfl | rfl | rfl | rfl | rfl | rfl <;> rfl
  have s0 : Isa.shape 4 0 = false := rfl
  have s1 : Isa.shape 4 1 = true := rfl
  have s2 : Isa.shape 4 2 = true := rfl
  unfold Isa.ok
  rw [hf, hl, hh, s0, s1, s2]
  simp [Isa.regOk]
  omega
end Go.Proofs.YticleblhmkikaaaDoor
