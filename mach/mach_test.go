package mach

import (
	"math"
	"math/rand/v2"
	"slices"
	"strings"
	"testing"

	"pennant/api"
	"pennant/isa"
)

const largest = 1<<26 + 1<<28

// words is the program of these instructions, between semicolons; a text of 8 hexadecimal digits is a word.
func words(t *testing.T, program string) []uint32 {
	t.Helper()
	var out []uint32
	for _, s := range strings.Split(program, ";") {
		s = strings.TrimSpace(s)
		x, e := isa.Parse(s)
		if e != api.OK {
			t.Fatalf("%q is no instruction", s)
		}
		w, _ := isa.Encode(x)
		out = append(out, w)
	}
	return out
}

func machine(t *testing.T, words []uint32, size int, input string) *Machine {
	t.Helper()
	m, e := New(words, size, []byte(input))
	if e != api.OK || m == nil {
		t.Fatalf("New(%d words, %d) = %v, %d", len(words), size, m, e)
	}
	return m
}

// run is a machine with a memory of 100 words that has run the program.
func run(t *testing.T, program, input string) *Machine {
	t.Helper()
	m := machine(t, words(t, program), 100, input)
	m.Run(1000)
	return m
}

func ended(t *testing.T, m *Machine, state int, code uint32, trap, steps int, out string) {
	t.Helper()
	if m.State() != state || m.Code() != code || m.Trap() != trap || m.Steps() != steps || string(m.Out()) != out {
		t.Errorf("state %d, code %d, trap %d, %d steps, output %q; not %d, %d, %d, %d, %q",
			m.State(), m.Code(), m.Trap(), m.Steps(), m.Out(), state, code, trap, steps, out)
	}
}

// edges are words at which something changes.
func edges() []uint32 {
	return []uint32{0, 1, 2, 3, 5, 31, 32, 33, 63, 64, 255, 256, 0x7fff, 0x8000, 0xffff, 0x10000, 0x12345678,
		0x7ffffffe, 0x7fffffff, 0x80000000, 0x80000001, 0xdeadbeef, 0xffff7fff, 0xffff8000, 0xfffffffe, 0xffffffff}
}

// P2.1

func TestNewRefuses(t *testing.T) {
	five := []uint32{1, 2, 3, 4, 5}
	for _, c := range []struct {
		words []uint32
		size  int
	}{
		{nil, 0}, {nil, -1}, {nil, math.MinInt}, {nil, largest + 1}, {nil, 1 << 32}, {nil, 1<<32 + 1}, {nil, math.MaxInt},
		{five, 0}, {five, 1}, {five, 4}, {five, -5}, {five, largest + 1},
	} {
		if m, e := New(c.words, c.size, []byte("x")); m != nil || e != api.ErrArg {
			t.Errorf("New(%d words, %d) = %v, %d", len(c.words), c.size, m, e)
		}
	}
}

func TestNewMachine(t *testing.T) {
	many := make([]uint32, 5000)
	for i := range many {
		many[i] = uint32(i) * 2654435761
	}
	for _, c := range []struct{ words, size int }{
		{0, 1}, {1, 1}, {0, 100}, {5, 5}, {5, 6}, {1023, 1023}, {1024, 1024}, {1024, 1025}, {1025, 1025}, {2048, 2048}, {5000, 5000}, {4999, 10000},
	} {
		m := machine(t, many[:c.words], c.size, "abc")
		want := newModel(many[:c.words], c.size, nil)
		like(t, m, want)
	}
}

func TestLargestMachine(t *testing.T) {
	m := machine(t, words(t, "lui r1 5119; ori r1 r1 65535; sw r1 r1 0; lw r2 r1 0; lw r3 r1 -1; lw r4 r1 1"), largest, "")
	if w, ok := m.Mem(largest - 1); w != 0 || !ok {
		t.Errorf("Mem = %d, %v", w, ok)
	}
	c := m.Copy()
	m.Run(10)
	ended(t, m, Trapped, 0, 2, 5, "")
	if w, ok := m.Mem(largest - 1); w != largest-1 || !ok || m.Reg(2) != largest-1 || m.Reg(3) != 0 {
		t.Errorf("Mem = %d, %v, registers %d, %d", w, ok, m.Reg(2), m.Reg(3))
	}
	if w, ok := c.Mem(largest - 1); w != 0 || !ok {
		t.Errorf("the copy's Mem = %d, %v", w, ok)
	}
	if e := c.Put(largest-1, 7); e != api.OK {
		t.Errorf("Put = %d", e)
	}
	if e := c.Put(largest, 7); e != api.ErrArg {
		t.Errorf("Put = %d", e)
	}
	if w, ok := c.Mem(largest - 1); w != 7 || !ok {
		t.Errorf("the copy's Mem = %d, %v", w, ok)
	}
}

func TestArgumentsAreTheCallersOwn(t *testing.T) {
	program := words(t, "in r1; sw r0 r1 0; in r2; halt r2")
	input := []byte("ab")
	program2, input2 := slices.Clone(program), slices.Clone(input)
	m, _ := New(program, 10, input)
	m.Step()
	m.Step()
	if !slices.Equal(program, program2) || !slices.Equal(input, input2) {
		t.Error("an argument was changed")
	}
	program[3], input[1] = 0, 'z'
	m.Run(10)
	ended(t, m, Halted, 'b', 0, 4, "")
}

func TestNotMade(t *testing.T) {
	good := machine(t, words(t, "out r1; halt r0"), 10, "")
	value := *good
	var zero, assigned Machine
	assigned = *good
	for i, m := range []*Machine{nil, &zero, new(Machine), {}, &value, &assigned} {
		if m.Step() != Trapped || m.Run(5) != Trapped || m.Run(0) != Trapped || m.Run(-1) != Trapped || m.State() != Trapped {
			t.Errorf("%d: Step, Run or State is not Trapped", i)
		}
		for _, n := range []int{0, 1, -1, 31, 32, math.MaxInt} {
			if e := m.Set(n, 1); e != api.ErrNil {
				t.Errorf("%d: Set = %d", i, e)
			}
			if e := m.Put(n, 1); e != api.ErrNil {
				t.Errorf("%d: Put = %d", i, e)
			}
			if m.Reg(n) != 0 {
				t.Errorf("%d: Reg = %d", i, m.Reg(n))
			}
			if w, ok := m.Mem(n); w != 0 || ok {
				t.Errorf("%d: Mem = %d, %v", i, w, ok)
			}
		}
		if e := m.Go(0); e != api.ErrNil {
			t.Errorf("%d: Go = %d", i, e)
		}
		if m.Place() != 0 || m.Code() != 0 || m.Trap() != 0 || m.Steps() != 0 || len(m.Out()) != 0 || m.Copy() != nil {
			t.Errorf("%d: Place %d, Code %d, Trap %d, Steps %d, Out %q, Copy %v", i, m.Place(), m.Code(), m.Trap(), m.Steps(), m.Out(), m.Copy())
		}
	}
	want := newModel(words(t, "out r1; halt r0"), 10, nil)
	like(t, good, want)
}

// P2.2

// computing is a machine about to execute x at place 7, with a and b in its registers.
func computing(t *testing.T, x api.Inst, a, b uint32) (*Machine, *model) {
	t.Helper()
	w, e := isa.Encode(x)
	if e != api.OK {
		t.Fatalf("%+v is no instruction", x)
	}
	program := append(make([]uint32, 7), w)
	m, want := machine(t, program, 12, "q"), newModel(program, 12, []byte("q"))
	for i := 1; i < 32; i++ {
		m.Set(i, uint32(i)*0x01010101)
		want.regs[i] = uint32(i) * 0x01010101
	}
	m.Set(x.B, b)
	m.Set(x.A, a)
	want.regs[x.B], want.regs[x.A] = b, a
	want.regs[0] = 0
	m.Go(7)
	want.place = 7
	return m, want
}

// stepped fails if a step of x, with a and b in its registers, differs from that of the model.
func stepped(t *testing.T, x api.Inst, a, b uint32) {
	t.Helper()
	m, want := computing(t, x, a, b)
	want.step()
	if s := m.Step(); s != want.state {
		t.Errorf("Step = %d, not %d", s, want.state)
	}
	if got, want := shown(m, 12), want.told(); got != want {
		t.Fatalf("%s with %08x and %08x makes\n%s\nnot\n%s", isa.Text(x), a, b, got, want)
	}
}

func TestThreeRegisters(t *testing.T) {
	for op := isa.Add; op <= isa.Sltu; op++ {
		for _, a := range edges() {
			for _, b := range edges() {
				stepped(t, api.Inst{Op: op, D: 9, A: 10, B: 31}, a, b)
			}
			stepped(t, api.Inst{Op: op, D: 10, A: 10, B: 11}, a, 3)
			stepped(t, api.Inst{Op: op, D: 11, A: 10, B: 11}, a, 3)
			stepped(t, api.Inst{Op: op, D: 10, A: 10, B: 10}, a, a)
			stepped(t, api.Inst{Op: op, D: 0, A: 10, B: 11}, a, 3)
			stepped(t, api.Inst{Op: op, D: 9, A: 0, B: 11}, 0, a)
			stepped(t, api.Inst{Op: op, D: 9, A: 10, B: 0}, a, 0)
		}
	}
}

func TestImmediates(t *testing.T) {
	for op := isa.Addi; op <= isa.Lui; op++ {
		for _, i := range []int{-32768, -32767, -100, -1, 0, 1, 2, 5, 31, 32, 255, 256, 32766, 32767, 32768, 65534, 65535} {
			x := api.Inst{Op: op, D: 9, A: 10, Imm: i}
			if op == isa.Lui {
				x.A = 0
			}
			if isa.Check(x) != api.OK {
				continue
			}
			for _, a := range edges() {
				stepped(t, x, a, 0)
			}
			x.D = x.A
			stepped(t, x, 77, 0)
			x.D = 0
			stepped(t, x, 77, 0)
		}
	}
}

// TestComputedByHand has numbers that were worked out without the model.
func TestComputedByHand(t *testing.T) {
	for _, c := range []struct {
		op   int
		a, b uint32
		d    uint32
	}{
		{isa.Add, 0xffffffff, 2, 1}, {isa.Sub, 0, 1, 0xffffffff}, {isa.Sub, 5, 3, 2},
		{isa.Mul, 0x10001, 0x10001, 0x20001}, {isa.Mul, 0xffffffff, 0xffffffff, 1}, {isa.Mul, 0xffffffff, 3, 0xfffffffd},
		{isa.Mulh, 0xffffffff, 0xffffffff, 0xfffffffe}, {isa.Mulh, 0x80000000, 2, 1}, {isa.Mulh, 0xffff, 0x10000, 0}, {isa.Mulh, 0x10000, 0x10000, 1},
		{isa.Div, 7, 2, 3}, {isa.Div, 0x80000000, 0xffffffff, 0}, {isa.Div, 0xffffffff, 2, 0x7fffffff}, {isa.Div, 0xfffffffe, 0xffffffff, 0},
		{isa.Rem, 7, 2, 1}, {isa.Rem, 0x80000000, 0xffffffff, 0x80000000}, {isa.Rem, 0xffffffff, 10, 5},
		{isa.And, 0xf0f0, 0xff00, 0xf000}, {isa.Or, 0xf0f0, 0xff00, 0xfff0}, {isa.Xor, 0xf0f0, 0xff00, 0x0ff0},
		{isa.Sll, 1, 31, 0x80000000}, {isa.Sll, 1, 32, 1}, {isa.Sll, 3, 33, 6}, {isa.Sll, 0xffffffff, 4, 0xfffffff0},
		{isa.Srl, 0x80000000, 31, 1}, {isa.Srl, 0x80000000, 32, 0x80000000}, {isa.Srl, 0xffffffff, 0xffffffff, 1},
		{isa.Sra, 0x80000000, 31, 0xffffffff}, {isa.Sra, 0x80000000, 4, 0xf8000000}, {isa.Sra, 0x40000000, 30, 1}, {isa.Sra, 0x80000000, 64, 0x80000000},
		{isa.Slt, 0xffffffff, 0, 1}, {isa.Slt, 0, 0xffffffff, 0}, {isa.Slt, 0x80000000, 0x7fffffff, 1}, {isa.Slt, 4, 4, 0},
		{isa.Sltu, 0xffffffff, 0, 0}, {isa.Sltu, 0, 0xffffffff, 1}, {isa.Sltu, 0x7fffffff, 0x80000000, 1}, {isa.Sltu, 4, 4, 0},
	} {
		m, _ := computing(t, api.Inst{Op: c.op, D: 3, A: 4, B: 5}, c.a, c.b)
		if m.Step(); m.Reg(3) != c.d || m.Place() != 8 || m.Steps() != 1 {
			t.Errorf("%s of %08x and %08x = %08x, not %08x; place %d, %d steps", isa.Name(c.op), c.a, c.b, m.Reg(3), c.d, m.Place(), m.Steps())
		}
	}
	for _, c := range []struct {
		text string
		a, d uint32
	}{
		{"addi r3 r4 -1", 0, 0xffffffff}, {"addi r3 r4 32767", 0xffffffff, 32766}, {"andi r3 r4 65535", 0xffffffff, 0xffff}, {"ori r3 r4 65535", 0, 0xffff},
		{"xori r3 r4 65535", 0xffffffff, 0xffff0000}, {"slli r3 r4 31", 3, 0x80000000}, {"srli r3 r4 31", 0xffffffff, 1}, {"srai r3 r4 31", 0x80000000, 0xffffffff},
		{"srai r3 r4 0", 0x80000000, 0x80000000}, {"slti r3 r4 -1", 0xfffffffe, 1}, {"slti r3 r4 -1", 0xffffffff, 0}, {"slti r3 r4 0", 0x80000000, 1},
		{"lui r3 65535", 0, 0xffff0000}, {"lui r3 1", 0, 65536},
	} {
		x, _ := isa.Parse(c.text)
		m, _ := computing(t, x, c.a, 0)
		m.Set(4, c.a)
		if m.Step(); m.Reg(3) != c.d {
			t.Errorf("%s of %08x = %08x, not %08x", c.text, c.a, m.Reg(3), c.d)
		}
	}
}

func TestBranches(t *testing.T) {
	for op := isa.Beq; op <= isa.Bgeu; op++ {
		for _, a := range edges() {
			for _, b := range edges() {
				stepped(t, api.Inst{Op: op, A: 10, B: 31, Imm: 3}, a, b)
			}
			for _, i := range []int{-32768, -9, -8, -7, -1, 0, 1, 4, 32767} {
				stepped(t, api.Inst{Op: op, A: 10, B: 10, Imm: i}, a, a)
				stepped(t, api.Inst{Op: op, A: 10, B: 11, Imm: i}, a, a+1)
			}
		}
	}
}

func TestJumps(t *testing.T) {
	for _, i := range []int{-1048576, -9, -8, -7, -1, 0, 1, 4, 1048575} {
		for _, d := range []int{0, 1, 31} {
			stepped(t, api.Inst{Op: isa.Jal, D: d, Imm: i}, 0, 0)
		}
	}
	for _, a := range edges() {
		for _, i := range []int{-32768, -1, 0, 1, 32767} {
			for _, d := range []int{0, 1, 10} {
				stepped(t, api.Inst{Op: isa.Jalr, D: d, A: 10, Imm: i}, a, 0)
			}
		}
	}
	m := run(t, "jal r1 2; out r2; halt r3; addi r2 r0 66; addi r3 r0 9; jalr r1 r1 0", "")
	ended(t, m, Halted, 9, 0, 6, "B")
	if m.Reg(1) != 6 || m.Place() != 2 {
		t.Errorf("register 1 is %d, the place %d", m.Reg(1), m.Place())
	}
}

func TestMemory(t *testing.T) {
	for _, op := range []int{isa.Lw, isa.Sw} {
		for _, a := range append(edges(), 4, 6, 8, 9, 10, 11, 12, 13) {
			for _, i := range []int{-32768, -12, -3, -1, 0, 1, 3, 7, 32767} {
				x := api.Inst{Op: op, A: 10, Imm: i}
				if op == isa.Sw {
					x.B = 31
				} else {
					x.D = 9
				}
				stepped(t, x, a, 0xdeadbeef)
				x.D = 0
				stepped(t, x, a, 0)
			}
		}
	}
	stepped(t, api.Inst{Op: isa.Lw, D: 10, A: 10, Imm: 2}, 5, 0)
	stepped(t, api.Inst{Op: isa.Sw, A: 10, B: 10, Imm: 2}, 5, 5)
}

func TestMemoryOfManyPages(t *testing.T) {
	m := machine(t, words(t, "sw r1 r2 0; lw r3 r1 0; addi r1 r1 1000; addi r2 r2 1; jal r0 -5"), 5000, "")
	m.Set(1, 100)
	m.Run(1000)
	ended(t, m, Trapped, 0, 2, 5*5, "")
	for at := 5; at < 5000; at++ {
		want := uint32(0)
		if at%1000 == 100 {
			want = uint32(at / 1000)
		}
		if w, ok := m.Mem(at); w != want || !ok {
			t.Fatalf("Mem(%d) = %d, %v", at, w, ok)
		}
	}
}

// TestCodeThatChanges executes places whose words were executed before as something else.
func TestCodeThatChanges(t *testing.T) {
	// The first instruction adds 1 in the first round, and 48 in all others.
	m := machine(t, words(t, "addi r1 r1 1; out r1; lw r2 r0 5; sw r0 r2 0; jal r0 -5; addi r1 r1 48"), 6, "")
	m.Run(15)
	ended(t, m, Running, 0, 0, 15, "\x011a")
	// A word that was executed becomes none that can be.
	m = run(t, "out r0; sw r0 r1 0; jal r0 -3", "")
	ended(t, m, Trapped, 0, 1, 3, "\x00")
	m = machine(t, words(t, "out r0; jal r0 -2"), 3, "")
	m.Run(4)
	m.Put(0, words(t, "halt r0")[0])
	m.Run(4)
	ended(t, m, Halted, 0, 0, 5, "\x00\x00")
	m = machine(t, words(t, "out r0; jal r0 -2"), 3, "")
	m.Run(4)
	m.Put(0, 0)
	m.Run(4)
	ended(t, m, Trapped, 0, 1, 4, "\x00\x00")
}

func TestInput(t *testing.T) {
	m := run(t, "in r1; in r0; in r2; in r3; in r4; halt r0", "\x00a\xff")
	ended(t, m, Halted, 0, 0, 6, "")
	for i, want := range []uint32{0, 0, 255, 0xffffffff, 0xffffffff} {
		if m.Reg(i) != want {
			t.Errorf("register %d is %d, not %d", i, m.Reg(i), want)
		}
	}
}

func TestOutput(t *testing.T) {
	m := run(t, "out r0; ori r1 r0 511; out r1; lui r2 65535; out r2; addi r3 r0 -2; out r3; ori r4 r0 321; out r4; halt r4", "")
	ended(t, m, Halted, 321, 0, 10, "\x00\xff\x00\xfeA")
	out := m.Out()
	clear(out)
	if string(m.Out()) != "\x00\xff\x00\xfeA" {
		t.Error("the output is shared with what Out returned")
	}
}

func TestHalt(t *testing.T) {
	m := run(t, "addi r1 r0 -1; jal r0 1; out r1; halt r1; out r1", "")
	ended(t, m, Halted, 0xffffffff, 0, 3, "")
	if m.Place() != 3 {
		t.Errorf("the place is %d", m.Place())
	}
	stepped(t, api.Inst{Op: isa.Halt, A: 10}, 5, 0)
	stepped(t, api.Inst{Op: isa.Halt, A: 0}, 0, 0)
}

func TestTraps(t *testing.T) {
	for _, c := range []struct {
		program string
		trap    int
	}{
		{"out r1; addi r1 r0 5; in r2", 1},
		{"addi r1 r0 5; div r1 r1 r0", 4},
		{"addi r1 r0 5; rem r1 r1 r0", 4},
		{"addi r1 r0 5; div r0 r0 r0", 4},
		{"addi r1 r0 5; lw r1 r0 -1", 2},
		{"addi r1 r0 5; lw r1 r0 100", 2},
		{"addi r1 r0 5; lw r0 r0 100", 2},
		{"addi r1 r0 5; sw r0 r1 100", 2},
		{"addi r1 r0 5; sw r0 r1 -1", 2},
		{"addi r1 r0 5; jal r0 98", 3},
		{"addi r1 r0 5; jal r0 -3", 3},
		{"addi r1 r0 5; jalr r2 r1 95", 3},
		{"addi r1 r0 5; beq r0 r0 32767", 3},
	} {
		program := words(t, c.program)
		m, want := machine(t, program, 100, "x"), newModel(program, 100, []byte("x"))
		for m.Step() == Running {
			want.step()
			like(t, m, want)
		}
		// Nothing but the state and the trap differs from the moment before.
		want.state, want.trap = Trapped, c.trap
		like(t, m, want)
	}
	for _, w := range []uint32{0, 0x94000000, 0x04221801, 0xffffffff, 0x4c000020} {
		m := machine(t, []uint32{w}, 1, "")
		m.Step()
		ended(t, m, Trapped, 0, 1, 0, "")
	}
	m := machine(t, words(t, "addi r1 r1 1"), 1, "")
	m.Run(5)
	ended(t, m, Trapped, 0, 3, 1, "")
	if m.Place() != 1 {
		t.Errorf("the place is %d", m.Place())
	}
}

func TestStepAndRunReturnTheState(t *testing.T) {
	m := machine(t, words(t, "addi r1 r0 1; addi r1 r1 1; addi r1 r1 1; halt r1"), 4, "")
	for _, fuel := range []int{0, -1, -100, math.MinInt} {
		if s := m.Run(fuel); s != Running || m.Steps() != 0 || m.Place() != 0 {
			t.Errorf("Run(%d) = %d, %d steps", fuel, s, m.Steps())
		}
	}
	if s := m.Step(); s != Running || m.Steps() != 1 {
		t.Errorf("Step = %d, %d steps", s, m.Steps())
	}
	if s := m.Run(2); s != Running || m.Steps() != 3 || m.Reg(1) != 3 {
		t.Errorf("Run = %d, %d steps", s, m.Steps())
	}
	c := m.Copy()
	if s := m.Step(); s != Halted || m.Steps() != 4 || m.Code() != 3 {
		t.Errorf("Step = %d, %d steps", s, m.Steps())
	}
	if s := c.Run(math.MaxInt); s != Halted || c.Steps() != 4 || c.Code() != 3 {
		t.Errorf("Run = %d, %d steps", s, c.Steps())
	}
	for _, fuel := range []int{-1, 0, 1, 100, math.MaxInt} {
		if s := m.Run(fuel); s != Halted || m.Steps() != 4 {
			t.Errorf("Run(%d) = %d, %d steps", fuel, s, m.Steps())
		}
	}
	n := machine(t, nil, 1, "")
	if s := n.Step(); s != Trapped {
		t.Errorf("Step = %d", s)
	}
	if s := n.Run(1); s != Trapped {
		t.Errorf("Run = %d", s)
	}
}

// P2.3

func TestRegisters(t *testing.T) {
	m := machine(t, nil, 1, "")
	for i := range 32 {
		if e := m.Set(i, uint32(i)+100); e != api.OK {
			t.Errorf("Set(%d) = %d", i, e)
		}
	}
	for i := range 32 {
		want := uint32(i) + 100
		if i == 0 {
			want = 0
		}
		if m.Reg(i) != want {
			t.Errorf("Reg(%d) = %d", i, m.Reg(i))
		}
	}
	for _, i := range []int{-1, 32, 33, 64, 256, 1 << 32, math.MinInt, math.MaxInt} {
		if e := m.Set(i, 7); e != api.ErrArg || m.Reg(i) != 0 {
			t.Errorf("Set(%d) = %d, Reg = %d", i, e, m.Reg(i))
		}
	}
}

func TestWords(t *testing.T) {
	for _, size := range []int{1, 2, 1023, 1024, 1025, 3000} {
		m := machine(t, nil, size, "")
		for at := range size {
			if e := m.Put(at, uint32(at)*3+1); e != api.OK {
				t.Errorf("Put(%d) = %d", at, e)
			}
		}
		for at := range size {
			if w, ok := m.Mem(at); w != uint32(at)*3+1 || !ok {
				t.Errorf("Mem(%d) = %d, %v", at, w, ok)
			}
		}
		for _, at := range []int{-1, size, size + 1, size + 1024, 1 << 32, 1<<32 + 1, math.MinInt, math.MaxInt} {
			if e := m.Put(at, 7); e != api.ErrArg {
				t.Errorf("Put(%d) = %d", at, e)
			}
			if w, ok := m.Mem(at); w != 0 || ok {
				t.Errorf("Mem(%d) = %d, %v", at, w, ok)
			}
		}
	}
}

func TestGo(t *testing.T) {
	m := machine(t, words(t, "out r0; halt r0; jalr r0 r0 1"), 3, "")
	for _, to := range []uint32{0, 2, 3, 1 << 31, 0xffffffff, 2} {
		if e := m.Go(to); e != api.OK || m.Place() != to || m.State() != Running || m.Steps() != 0 {
			t.Errorf("Go(%d) = %d, place %d", to, e, m.Place())
		}
	}
	c := m.Copy()
	c.Go(0xffffffff)
	c.Step()
	m.Run(10)
	ended(t, m, Halted, 0, 0, 2, "")
	ended(t, c, Trapped, 0, 3, 0, "")
	if e := m.Go(0); e != api.ErrArg || m.Place() != 1 {
		t.Errorf("Go = %d, place %d", e, m.Place())
	}
	if e := c.Go(0); e != api.ErrArg || c.Place() != 0xffffffff {
		t.Errorf("Go = %d, place %d", e, c.Place())
	}
}

// TestSetsOfOneThatEnded: registers and words may be set in every state.
func TestSetsOfOneThatEnded(t *testing.T) {
	for _, program := range []string{"halt r0", "div r1 r1 r0"} {
		m := run(t, program, "")
		if m.Set(5, 6) != api.OK || m.Reg(5) != 6 || m.Put(5, 8) != api.OK {
			t.Errorf("%s: nothing was set", program)
		}
		if w, ok := m.Mem(5); w != 8 || !ok {
			t.Errorf("%s: Mem = %d, %v", program, w, ok)
		}
	}
}

// P2.4 and P2.5

// chance is a program of instructions that mostly stay within a memory of size words, and of some words that are none.
func chance(r *rand.Rand, size int) []uint32 {
	out := make([]uint32, size)
	for i := range out {
		x := api.Inst{Op: 1 + r.IntN(isa.Ops)}
		if x.Op == isa.Halt && r.IntN(4) > 0 {
			x.Op = isa.Addi
		}
		reg := func() int { return r.IntN(8) }
		switch isa.Form(x.Op) {
		case 1:
			x.D, x.A, x.B = reg(), reg(), reg()
		case 2:
			x.D, x.A, x.Imm = reg(), reg(), r.IntN(32)
		case 3:
			x.D, x.Imm = reg(), r.IntN(3)
		case 4:
			x.A, x.B, x.Imm = reg(), reg(), r.IntN(8)
		case 5:
			x.D, x.Imm = reg(), r.IntN(8)
		case 6:
			x.D = reg()
		case 7:
			x.A = reg()
		}
		if x.Op >= isa.Beq && x.Op <= isa.Jal || x.Op == isa.Addi {
			x.Imm = r.IntN(16) - 8
		}
		if (x.Op == isa.Lw || x.Op == isa.Sw || x.Op == isa.Jalr) && r.IntN(4) > 0 {
			x.A, x.Imm = 0, r.IntN(size)
		}
		out[i], _ = isa.Encode(x)
		if r.IntN(40) == 0 {
			out[i] = r.Uint32()
		}
	}
	return out
}

// TestChance steps machine and model side by side; their programs also write over themselves.
func TestChance(t *testing.T) {
	r := rand.New(rand.NewPCG(1, 2))
	ends, steps := [6]int{}, 0
	for range 3000 {
		size := 1 + r.IntN(60)
		program := chance(r, size)
		input := make([]byte, r.IntN(5))
		for i := range input {
			input[i] = byte(r.IntN(256))
		}
		m, want := machine(t, program, size, string(input)), newModel(program, size, input)
		for range 200 {
			m.Step()
			want.step()
			if m.State() != want.state || m.Place() != want.place {
				like(t, m, want)
			}
		}
		like(t, m, want)
		ends[m.Trap()]++
		if m.State() == Halted {
			ends[5]++
		}
		steps += m.Steps()
	}
	if slices.Contains(ends[:], 0) || steps < 10000 {
		t.Errorf("too little happened: %v ends, %d steps", ends, steps)
	}
}

func TestPartsAreSteps(t *testing.T) {
	r := rand.New(rand.NewPCG(3, 4))
	for range 300 {
		size := 1 + r.IntN(60)
		program := chance(r, size)
		a, b := r.IntN(50), r.IntN(50)
		whole, parts, single := machine(t, program, size, "abc"), machine(t, program, size, "abc"), machine(t, program, size, "abc")
		whole.Run(a + b)
		parts.Run(a)
		parts.Run(0)
		parts.Run(-5)
		parts.Run(b)
		for range a + b {
			single.Step()
		}
		if s := shown(whole, size); s != shown(parts, size) || s != shown(single, size) {
			t.Fatalf("Run(%d) is not Run(%d) and Run(%d), or not single steps", a+b, a, b)
		}
	}
}

func TestEndedNeverChanges(t *testing.T) {
	for _, program := range []string{"out r0; in r1; halt r1", "out r0; in r1; div r1 r1 r0", "out r0; lw r1 r0 -1", "out r0; jal r0 500", "out r0; lui r1 1; sw r0 r1 2; out r0"} {
		m := machine(t, words(t, program), 100, "abc")
		m.Run(50)
		before := shown(m, 100)
		if m.State() == Running || m.Step() != m.State() || m.Run(10) != m.State() || m.Run(-1) != m.State() || m.Go(0) != api.ErrArg {
			t.Errorf("%q goes on", program)
		}
		if shown(m, 100) != before {
			t.Errorf("%q has changed", program)
		}
	}
}

func TestCopyDoesTheSame(t *testing.T) {
	r := rand.New(rand.NewPCG(5, 6))
	for range 300 {
		size := 1 + r.IntN(60)
		m := machine(t, chance(r, size), size, "abcd")
		m.Run(r.IntN(20))
		before := shown(m, size)
		c := m.Copy()
		if shown(c, size) != before {
			t.Fatal("the copy differs")
		}
		m.Run(40)
		if shown(c, size) != before {
			t.Fatal("the copy changed with its original")
		}
		d := c.Copy()
		c.Run(40)
		if shown(c, size) != shown(m, size) {
			t.Fatal("the copy did something else")
		}
		if shown(d, size) != before {
			t.Fatal("the copy's copy changed with it")
		}
	}
}

func TestCopySharesNothing(t *testing.T) {
	program := words(t, "in r1; out r1; in r2; out r2; sw r0 r2 2000; halt r2")
	m := machine(t, program, 3000, "xyz")
	m.Run(2)
	c := m.Copy()
	c.Set(7, 1)
	c.Put(4, 0)
	c.Put(2500, 9)
	c.Set(2, '!')
	c.Go(3)
	c.Step()
	c.Go(2)
	c.Run(2)
	if m.Reg(7) != 0 || m.Reg(2) != 0 || m.Place() != 2 || m.Steps() != 2 || string(m.Out()) != "x" {
		t.Errorf("register 7 is %d, register 2 %d, place %d, %d steps, output %q", m.Reg(7), m.Reg(2), m.Place(), m.Steps(), m.Out())
	}
	m.Run(10)
	ended(t, m, Halted, 'y', 0, 6, "xy")
	if string(c.Out()) != "x!y" {
		t.Errorf("the copy's output is %q", c.Out())
	}
	if w, _ := m.Mem(2500); w != 0 {
		t.Errorf("the original's word is %d", w)
	}
	if w, _ := c.Mem(2000); w != 0 || c.State() != Running {
		t.Errorf("the copy's word is %d, its state %d", w, c.State())
	}
}

// TestNothingElseMatters: more input, more memory, and other words where nothing was read make no difference.
func TestNothingElseMatters(t *testing.T) {
	program := words(t, "in r1; out r1; sw r0 r1 20; lw r2 r0 20; in r3; beq r1 r3 1; jal r0 -7; out r2; halt r3")
	short := machine(t, program, 21, "abcc")
	short.Run(1000)
	ended(t, short, Halted, 'c', 0, 15, "acc")
	var other []uint32
	other = append(other, program...)
	for len(other) < 5000 {
		other = append(other, 0xffffffff)
	}
	other[20] = 0
	long := machine(t, other, 9000, "abccdefghi")
	long.Run(1000)
	for at := range len(program) {
		v, _ := short.Mem(at)
		if w, _ := long.Mem(at); w != v {
			t.Errorf("Mem(%d) = %d, not %d", at, w, v)
		}
	}
	for i := range 32 {
		if short.Reg(i) != long.Reg(i) {
			t.Errorf("Reg(%d) = %d, not %d", i, long.Reg(i), short.Reg(i))
		}
	}
	ended(t, long, short.State(), short.Code(), short.Trap(), short.Steps(), string(short.Out()))
	if long.Place() != short.Place() {
		t.Errorf("the place is %d, not %d", long.Place(), short.Place())
	}
}

// The chapter's examples.

func TestExamples(t *testing.T) {
	m := machine(t, words(t, "addi r4 r0 65; out r4; halt r0"), 100, "")
	m.Run(10)
	ended(t, m, Halted, 0, 0, 3, "A")
	m = machine(t, words(t, "div r4 r0 r0"), 100, "")
	m.Run(10)
	ended(t, m, Trapped, 0, 4, 0, "")
	m = machine(t, words(t, "lw r4 r0 100"), 100, "")
	m.Run(10)
	ended(t, m, Trapped, 0, 2, 0, "")
	m = machine(t, []uint32{0}, 100, "")
	m.Run(10)
	ended(t, m, Trapped, 0, 1, 0, "")
	for input, code := range map[string]uint32{"": 4294967295, "\x07": 7} {
		m = machine(t, words(t, "in r4; halt r4"), 100, input)
		m.Run(10)
		ended(t, m, Halted, code, 0, 2, "")
	}
}
