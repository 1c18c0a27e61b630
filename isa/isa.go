// Package isa is layer 1: the instructions of the machine VR32, as words and as text (shared/doc/01-isa.md).
package isa

import (
	"strconv"
	"strings"

	"pennant/api"
)

// The operations.
const (
	Add = iota + 1
	Sub
	Mul
	Mulh
	Div
	Rem
	And
	Or
	Xor
	Sll
	Srl
	Sra
	Slt
	Sltu
	Addi
	Andi
	Ori
	Xori
	Slli
	Srli
	Srai
	Slti
	Lui
	Lw
	Sw
	Beq
	Bne
	Blt
	Bge
	Bltu
	Bgeu
	Jal
	Jalr
	In
	Out
	Halt
	Ops = Halt
)

var names = [...]string{
	Add: "add", Sub: "sub", Mul: "mul", Mulh: "mulh", Div: "div", Rem: "rem",
	And: "and", Or: "or", Xor: "xor", Sll: "sll", Srl: "srl", Sra: "sra", Slt: "slt", Sltu: "sltu",
	Addi: "addi", Andi: "andi", Ori: "ori", Xori: "xori", Slli: "slli", Srli: "srli", Srai: "srai", Slti: "slti",
	Lui: "lui", Lw: "lw", Sw: "sw",
	Beq: "beq", Bne: "bne", Blt: "blt", Bge: "bge", Bltu: "bltu", Bgeu: "bgeu",
	Jal: "jal", Jalr: "jalr", In: "in", Out: "out", Halt: "halt",
}

// The forms.
const (
	formThree = iota + 1
	formTwo
	formUpper
	formStore
	formJump
	formTo
	formFrom
)

// shape is which fields a form has: the registers D, A and B, and Imm.
type shape struct {
	regs [3]bool
	imm  bool
}

var shapes = [...]shape{
	formThree: {regs: [3]bool{true, true, true}},
	formTwo:   {regs: [3]bool{true, true, false}, imm: true},
	formUpper: {regs: [3]bool{true, false, false}, imm: true},
	formStore: {regs: [3]bool{false, true, true}, imm: true},
	formJump:  {regs: [3]bool{true, false, false}, imm: true},
	formTo:    {regs: [3]bool{true, false, false}},
	formFrom:  {regs: [3]bool{false, true, false}},
}

const (
	wordBits = 32
	opBits   = 6
	regBits  = 5
	lastReg  = 1<<regBits - 1
)

// Form is the number of an operation's form; 0, if there is no such operation.
func Form(op int) int {
	switch op {
	case Add, Sub, Mul, Mulh, Div, Rem, And, Or, Xor, Sll, Srl, Sra, Slt, Sltu:
		return formThree
	case Addi, Andi, Ori, Xori, Slli, Srli, Srai, Slti, Lw, Jalr:
		return formTwo
	case Lui:
		return formUpper
	case Sw, Beq, Bne, Blt, Bge, Bltu, Bgeu:
		return formStore
	case Jal:
		return formJump
	case In:
		return formTo
	case Out, Halt:
		return formFrom
	}
	return 0
}

// Name is an operation's name; the empty text, if there is no such operation.
func Name(op int) string {
	if Form(op) == 0 {
		return ""
	}
	return names[op]
}

// Signed reports whether the operation's Imm may be below 0.
func Signed(op int) bool {
	low, _ := limits(op)
	return low < 0
}

// limits is the range of Imm. Without an Imm it is 0 alone, so that the one comparison also refuses a field that an instruction does not have.
func limits(op int) (low, high int) {
	if !shapes[Form(op)].imm {
		return 0, 0
	}
	switch op {
	case Andi, Ori, Xori, Lui:
		return 0, 1<<16 - 1
	case Slli, Srli, Srai:
		return 0, wordBits - 1
	case Jal:
		return -1 << 20, 1<<20 - 1
	}
	return -1 << 15, 1<<15 - 1
}

// registers are the places of D, A and B, in the order in which words and texts have them.
func registers(x *api.Inst) [3]*int {
	return [3]*int{&x.D, &x.A, &x.B}
}

// Check reports whether x is an instruction: OK, or ErrInst.
func Check(x api.Inst) api.Errno {
	form := Form(x.Op)
	if form == 0 {
		return api.ErrInst
	}
	for i, r := range registers(&x) {
		last := 0
		if shapes[form].regs[i] {
			last = lastReg
		}
		if *r < 0 || *r > last {
			return api.ErrInst
		}
	}
	if low, high := limits(x.Op); x.Imm < low || x.Imm > high {
		return api.ErrInst
	}
	return api.OK
}

// Encode is the word of an instruction; ErrInst, if x is none.
func Encode(x api.Inst) (uint32, api.Errno) {
	if e := Check(x); e != api.OK {
		return 0, e
	}
	w, left := uint32(0), wordBits
	put := func(n, bits int) {
		left -= bits
		w |= (uint32(n) & (1<<bits - 1)) << left
	}
	put(x.Op, opBits)
	for i, r := range registers(&x) {
		if shapes[Form(x.Op)].regs[i] {
			put(*r, regBits)
		}
	}
	// Imm may have all bits that are left: where it needs fewer, the ones above it are 0 by its range.
	put(x.Imm, left)
	return w, api.OK
}

// Decode is the instruction with the word w; ErrInst, if there is none.
func Decode(w uint32) (api.Inst, api.Errno) {
	left := wordBits
	take := func(bits int) int {
		top := w >> (wordBits - bits)
		w <<= bits
		left -= bits
		return int(top)
	}
	x := api.Inst{Op: take(opBits)}
	for i, r := range registers(&x) {
		if shapes[Form(x.Op)].regs[i] {
			*r = take(regBits)
		}
	}
	// Whatever is left counts as Imm, so that Check also refuses bits that ought to be 0.
	bits := left
	x.Imm = take(bits)
	if _, high := limits(x.Op); Signed(x.Op) && x.Imm > high {
		x.Imm -= 1 << bits
	}
	if e := Check(x); e != api.OK {
		return api.Inst{}, e
	}
	return x, api.OK
}

// Text is the text of an instruction; ?, if x is none.
func Text(x api.Inst) string {
	if Check(x) != api.OK {
		return "?"
	}
	words := []string{Name(x.Op)}
	fields := shapes[Form(x.Op)]
	for i, r := range registers(&x) {
		if fields.regs[i] {
			words = append(words, "r"+strconv.Itoa(*r))
		}
	}
	if fields.imm {
		words = append(words, strconv.Itoa(x.Imm))
	}
	return strings.Join(words, " ")
}

// Parse is the instruction with the text s; ErrInst, if there is none.
func Parse(s string) (api.Inst, api.Errno) {
	name, rest, _ := strings.Cut(s, " ")
	next := func(mark string) int {
		word, others, _ := strings.Cut(rest, " ")
		rest = others
		n, _ := strconv.Atoi(strings.TrimPrefix(word, mark))
		return n
	}
	x := api.Inst{Op: named(name)}
	fields := shapes[Form(x.Op)]
	for i, r := range registers(&x) {
		if fields.regs[i] {
			*r = next("r")
		}
	}
	if fields.imm {
		x.Imm = next("")
	}
	// An instruction has one text alone: holding it against s refuses all that was read too freely above.
	if Check(x) != api.OK || Text(x) != s {
		return api.Inst{}, api.ErrInst
	}
	return x, api.OK
}

// named is the operation with this name; 0, if there is none.
func named(name string) int {
	for op := Add; op <= Ops; op++ {
		if names[op] == name {
			return op
		}
	}
	return 0
}
