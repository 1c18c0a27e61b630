package mach

import (
	"fmt"
	"slices"
	"testing"

	"pennant/api"
	"pennant/isa"
)

// model is a machine as the chapter's table tells it, written out apart from the package: slow, in numbers of any sign, with nothing remembered of a word.
type model struct {
	regs  [32]uint32
	mem   []uint32
	place uint32
	state int
	code  uint32
	trap  int
	steps int
	input []byte
	out   []byte
}

func newModel(words []uint32, size int, input []byte) *model {
	m := &model{mem: make([]uint32, size), input: slices.Clone(input)}
	copy(m.mem, words)
	return m
}

// signed is s(x).
func signed(x uint32) int64 {
	if x >= 1<<31 {
		return int64(x) - 1<<32
	}
	return int64(x)
}

// low is v modulo 2^32.
func low(v int64) uint32 { return uint32(v & 0xffffffff) }

// power is 2^n.
func power(n uint32) int64 {
	p := int64(1)
	for range n {
		p *= 2
	}
	return p
}

// floor is v divided by 2^n, downwards.
func floor(v int64, n uint32) int64 {
	p := power(n)
	r := (v%p + p) % p
	return (v - r) / p
}

// bitwise puts the bits of a and b together one by one.
func bitwise(a, b uint32, f func(x, y bool) bool) uint32 {
	r := int64(0)
	for i := range uint32(32) {
		if f(floor(int64(a), i)%2 == 1, floor(int64(b), i)%2 == 1) {
			r += power(i)
		}
	}
	return low(r)
}

// told is what the chapter's table says of an instruction that computes D from a and b.
func told(name string, a, b uint32) (d uint32, trap int) {
	switch name {
	case "add":
		return low(int64(a) + int64(b)), 0
	case "sub":
		return low(int64(a) - int64(b)), 0
	case "mul":
		return low(int64(a)%65536*int64(b) + floor(int64(a), 16)*(int64(b)%65536)%65536*65536), 0
	case "mulh":
		// In halves of 16 bits, so that nothing grows beyond 63 bits.
		bottom := int64(a) * (int64(b) % 65536)
		top := int64(a) * floor(int64(b), 16)
		return low(floor(top+floor(bottom, 16), 16)), 0
	case "div", "rem":
		if b == 0 {
			return 0, 4
		}
		if name == "div" {
			return low(int64(a) / int64(b)), 0
		}
		return low(int64(a) % int64(b)), 0
	case "and":
		return bitwise(a, b, func(x, y bool) bool { return x && y }), 0
	case "or":
		return bitwise(a, b, func(x, y bool) bool { return x || y }), 0
	case "xor":
		return bitwise(a, b, func(x, y bool) bool { return x != y }), 0
	case "sll":
		for range b % 32 {
			a = low(int64(a) * 2)
		}
		return a, 0
	case "srl":
		return low(floor(int64(a), b%32)), 0
	case "sra":
		return low(floor(signed(a), b%32)), 0
	case "slt":
		if signed(a)-signed(b) < 0 {
			return 1, 0
		}
		return 0, 0
	case "sltu":
		if int64(a)-int64(b) < 0 {
			return 1, 0
		}
		return 0, 0
	}
	panic(name)
}

// twin is the operation on two registers that an operation with Imm is like; none, if there is none.
func twin(name string) string {
	switch name {
	case "addi", "andi", "ori", "xori", "slli", "srli", "srai", "slti":
		return name[:len(name)-1]
	}
	return ""
}

func (m *model) step() {
	if m.state != Running {
		return
	}
	if int64(m.place) >= int64(len(m.mem)) {
		m.state, m.trap = Trapped, 3
		return
	}
	x, e := isa.Decode(m.mem[m.place])
	if e != api.OK {
		m.state, m.trap = Trapped, 1
		return
	}
	if trap := m.effect(x); trap != 0 {
		m.state, m.trap = Trapped, trap
		return
	}
	m.regs[0] = 0
	m.steps++
}

func (m *model) effect(x api.Inst) (trap int) {
	a, b := m.regs[x.A], m.regs[x.B]
	behind, there := low(int64(m.place)+1), low(int64(m.place)+1+int64(x.Imm))
	at := low(int64(a) + int64(x.Imm))
	next := behind
	switch name := isa.Name(x.Op); name {
	case "lui":
		m.regs[x.D] = low(int64(x.Imm) * 65536)
	case "lw":
		if int64(at) >= int64(len(m.mem)) {
			return 2
		}
		m.regs[x.D] = m.mem[at]
	case "sw":
		if int64(at) >= int64(len(m.mem)) {
			return 2
		}
		m.mem[at] = b
	case "beq", "bne", "blt", "bge", "bltu", "bgeu":
		if branches(name, a, b) {
			next = there
		}
	case "jal":
		m.regs[x.D] = behind
		next = there
	case "jalr":
		m.regs[x.D] = behind
		next = at
	case "in":
		m.regs[x.D] = 0xffffffff
		if len(m.input) > 0 {
			m.regs[x.D] = uint32(m.input[0])
			m.input = m.input[1:]
		}
	case "out":
		m.out = append(m.out, byte(a%256))
	case "halt":
		m.state, m.code, next = Halted, a, m.place
	default:
		if t := twin(name); t != "" {
			name, b = t, low(int64(x.Imm))
		}
		d, trap := told(name, a, b)
		if trap != 0 {
			return trap
		}
		m.regs[x.D] = d
	}
	m.place = next
	return 0
}

func branches(name string, a, b uint32) bool {
	switch name {
	case "beq":
		return a == b
	case "bne":
		return a != b
	case "blt":
		return signed(a) < signed(b)
	case "bge":
		return signed(a) >= signed(b)
	case "bltu":
		return int64(a) < int64(b)
	case "bgeu":
		return int64(a) >= int64(b)
	}
	panic(name)
}

func (m *model) told() string {
	return fmt.Sprint(m.regs, m.place, m.state, m.code, m.trap, m.steps, m.out, m.mem)
}

// shown is all that a machine with a memory of size words shows of itself.
func shown(m *Machine, size int) string {
	var regs [32]uint32
	for i := range regs {
		regs[i] = m.Reg(i)
	}
	mem := make([]uint32, size)
	for i := range mem {
		mem[i], _ = m.Mem(i)
	}
	out := m.Out()
	if len(out) == 0 {
		out = nil
	}
	return fmt.Sprint(regs, m.Place(), m.State(), m.Code(), m.Trap(), m.Steps(), out, mem)
}

// like fails if the machine shows something other than the model.
func like(t *testing.T, m *Machine, want *model) {
	t.Helper()
	if got, want := shown(m, len(want.mem)), want.told(); got != want {
		t.Fatalf("the machine shows\n%s\nnot\n%s", got, want)
	}
}
