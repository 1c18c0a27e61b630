package mach

import "pennant/isa"

// step performs a step of a machine that is running.
func (m *Machine) step() {
	if m.place >= m.mem.size {
		m.stop(trapPlace)
		return
	}
	x := m.mem.fetch(m.place)
	a, b := m.regs[x.a%regCount], m.regs[x.b%regCount]
	next := m.place + 1
	var d uint32
	switch x.op {
	case isa.Lw:
		at := a + x.imm
		if at >= m.mem.size {
			m.stop(trapMemory)
			return
		}
		d = m.mem.load(at)
	case isa.Sw:
		at := a + x.imm
		if at >= m.mem.size {
			m.stop(trapMemory)
			return
		}
		m.mem.store(at, b)
	case isa.Beq, isa.Bne, isa.Blt, isa.Bge, isa.Bltu, isa.Bgeu:
		if holds(x.op, a, b) {
			next += x.imm
		}
	case isa.Jal:
		d, next = next, next+x.imm
	case isa.Jalr:
		d, next = next, a+x.imm
	case isa.In:
		d = m.read()
	case isa.Out:
		m.out = append(m.out, byte(a))
	case isa.Halt:
		m.state, m.code, next = Halted, a, m.place
	case isa.Div, isa.Rem:
		if b == 0 {
			m.stop(trapZero)
			return
		}
		d = divided(x.op, a, b)
	case 0:
		m.stop(trapInst)
		return
	default:
		// One of both is 0: none of these instructions has B and Imm.
		d = computed(x.op, a, b+x.imm)
	}
	// An instruction without D has 0 there, and then this has no effect either.
	m.regs[x.d%regCount] = d
	m.regs[0] = 0
	m.place = next
	m.steps++
}

// stop traps the machine.
func (m *Machine) stop(trap int) { m.state, m.trap = Trapped, trap }

// read is the next byte of the input, which is thereby read; all bits set, if there is none.
func (m *Machine) read() uint32 {
	if len(m.input) == 0 {
		return 1<<32 - 1
	}
	c := m.input[0]
	m.input = m.input[1:]
	return uint32(c)
}

// holds reports whether a branch is taken.
func holds(op uint8, a, b uint32) bool {
	switch op {
	case isa.Beq:
		return a == b
	case isa.Bne:
		return a != b
	case isa.Blt:
		return int32(a) < int32(b)
	case isa.Bge:
		return int32(a) >= int32(b)
	case isa.Bltu:
		return a < b
	}
	return a >= b
}

// divided is the quotient or the remainder of a and b, which is not 0.
func divided(op uint8, a, b uint32) uint32 {
	if op == isa.Div {
		return a / b
	}
	return a % b
}

// computed is what an operation makes of a and b, the second being a register or Imm.
func computed(op uint8, a, b uint32) uint32 {
	switch op {
	case isa.Add, isa.Addi:
		return a + b
	case isa.Sub:
		return a - b
	case isa.Mul:
		return a * b
	case isa.Mulh:
		return uint32(uint64(a) * uint64(b) >> 32)
	case isa.And, isa.Andi:
		return a & b
	case isa.Or, isa.Ori:
		return a | b
	case isa.Xor, isa.Xori:
		return a ^ b
	case isa.Sll, isa.Slli:
		return a << (b % 32)
	case isa.Srl, isa.Srli:
		return a >> (b % 32)
	case isa.Sra, isa.Srai:
		return uint32(int32(a) >> (b % 32))
	case isa.Slt, isa.Slti:
		return truth(int32(a) < int32(b))
	case isa.Sltu:
		return truth(a < b)
	}
	// Lui is what is left.
	return b << 16
}

func truth(b bool) uint32 {
	if b {
		return 1
	}
	return 0
}
