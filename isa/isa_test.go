package isa

import (
	"fmt"
	"math"
	"strconv"
	"strings"
	"testing"

	"pennant/api"
)

// row is a line of the chapter's table, with all of it written out, so that nothing here leans on the package's own constants.
type row struct {
	op, form  int
	name      string
	has       string // of D, A, B, I
	low, high int    // Imm's range
}

func rows() []row {
	var out []row
	add := func(form int, has string, low, high, first int, names string) {
		for i, n := range strings.Fields(names) {
			out = append(out, row{first + i, form, n, has, low, high})
		}
	}
	add(1, "DAB", 0, 0, 1, "add sub mul mulh div rem and or xor sll srl sra slt sltu")
	add(2, "DAI", -32768, 32767, 15, "addi")
	add(2, "DAI", 0, 65535, 16, "andi ori xori")
	add(2, "DAI", 0, 31, 19, "slli srli srai")
	add(2, "DAI", -32768, 32767, 22, "slti")
	add(3, "DI", 0, 65535, 23, "lui")
	add(2, "DAI", -32768, 32767, 24, "lw")
	add(4, "ABI", -32768, 32767, 25, "sw beq bne blt bge bltu bgeu")
	add(5, "DI", -1048576, 1048575, 32, "jal")
	add(2, "DAI", -32768, 32767, 33, "jalr")
	add(6, "D", 0, 0, 34, "in")
	add(7, "A", 0, 0, 35, "out halt")
	return out
}

func rowOf(op int) (row, bool) {
	for _, r := range rows() {
		if r.op == op {
			return r, true
		}
	}
	return row{}, false
}

func (r row) hasField(f rune) bool { return strings.ContainsRune(r.has, f) }

// field is the place of a field of x, by its letter.
func field(x *api.Inst, f rune) *int {
	switch f {
	case 'D':
		return &x.D
	case 'A':
		return &x.A
	case 'B':
		return &x.B
	}
	return &x.Imm
}

// span is a field's range in the instructions of r.
func (r row) span(f rune) (low, high int) {
	if !r.hasField(f) {
		return 0, 0
	}
	if f == 'I' {
		return r.low, r.high
	}
	return 0, 31
}

// bits are the lowest n bits of v in two's complement, as digits.
func bits(v, n int) string {
	s := ""
	for i := n - 1; i >= 0; i-- {
		s += strconv.Itoa(v >> i & 1)
	}
	return s
}

// spelt is the word of an instruction as the chapter has it, put together from digits.
func (r row) spelt(x api.Inst) uint32 {
	high, low := bits(x.Op, 6), ""
	for _, f := range r.has {
		switch {
		case f != 'I':
			high += bits(*field(&x, f), 5)
		case r.name == "jal":
			low = bits(x.Imm, 21)
		default:
			low = bits(x.Imm, 16)
		}
	}
	s := high + strings.Repeat("0", 32-len(high)-len(low)) + low
	w, err := strconv.ParseUint(s, 2, 32)
	if err != nil || len(s) != 32 {
		panic(s)
	}
	return uint32(w)
}

// told is the text of an instruction as the chapter has it.
func (r row) told(x api.Inst) string {
	s := r.name
	for _, f := range r.has {
		if f == 'I' {
			s += fmt.Sprintf(" %d", x.Imm)
		} else {
			s += fmt.Sprintf(" r%d", *field(&x, f))
		}
	}
	return s
}

// read is the instruction with the word w, found from its digits.
func read(w uint32) (api.Inst, bool) {
	s := fmt.Sprintf("%032b", w)
	number := func(from, to int) int {
		n, _ := strconv.ParseInt("0"+s[from:to], 2, 64)
		return int(n)
	}
	x := api.Inst{Op: number(0, 6)}
	r, ok := rowOf(x.Op)
	if !ok {
		return api.Inst{}, false
	}
	at, end := 6, 32
	for _, f := range r.has {
		if f != 'I' {
			*field(&x, f) = number(at, at+5)
			at += 5
			continue
		}
		end = 16
		if r.name == "jal" {
			end = 11
		}
		x.Imm = number(end, 32)
		if r.low < 0 && s[end] == '1' {
			x.Imm -= 1 << (32 - end)
		}
	}
	if x.Imm < r.low || x.Imm > r.high || number(at, end) != 0 {
		return api.Inst{}, false
	}
	return x, true
}

// samples are instructions of r: each of its fields at its edges and inside, each with each.
func (r row) samples() []api.Inst {
	out := []api.Inst{{Op: r.op}}
	for _, f := range r.has {
		low, high := r.span(f)
		values := []int{low, low + 1, 5, 10, high/2 + 1, high - 1, high}
		if low < 0 {
			values = append(values, -1, 0, 1, low/2)
		}
		var next []api.Inst
		for _, x := range out {
			for _, v := range values {
				*field(&x, f) = v
				next = append(next, x)
			}
		}
		out = next
	}
	return out
}

// wrong are operations that there are not.
func wrong() []int {
	return []int{0, 37, -1, 38, 63, 64, 65, 74, 100, 1 << 6, 1 << 26, 1<<32 + 1, -36, math.MinInt, math.MaxInt}
}

// P1.1

func TestOperations(t *testing.T) {
	constants := []int{Add, Sub, Mul, Mulh, Div, Rem, And, Or, Xor, Sll, Srl, Sra, Slt, Sltu,
		Addi, Andi, Ori, Xori, Slli, Srli, Srai, Slti, Lui, Lw, Sw, Beq, Bne, Blt, Bge, Bltu, Bgeu, Jal, Jalr, In, Out, Halt}
	if Ops != 36 || len(constants) != 36 || len(rows()) != 36 {
		t.Fatalf("Ops = %d, %d constants, %d rows", Ops, len(constants), len(rows()))
	}
	for i, c := range constants {
		if c != i+1 {
			t.Errorf("constant %d = %d", i+1, c)
		}
	}
}

func TestFormNameSigned(t *testing.T) {
	for _, r := range rows() {
		if f := Form(r.op); f != r.form {
			t.Errorf("Form(%s) = %d, not %d", r.name, f, r.form)
		}
		if n := Name(r.op); n != r.name {
			t.Errorf("Name(%d) = %q, not %q", r.op, n, r.name)
		}
		if s := Signed(r.op); s != (r.low < 0) {
			t.Errorf("Signed(%s) = %v", r.name, s)
		}
	}
	for _, op := range wrong() {
		if Form(op) != 0 || Name(op) != "" || Signed(op) {
			t.Errorf("%d: Form = %d, Name = %q, Signed = %v", op, Form(op), Name(op), Signed(op))
		}
	}
}

// P1.2

func checked(t *testing.T, x api.Inst, want api.Errno) {
	t.Helper()
	if e := Check(x); e != want {
		t.Errorf("Check(%+v) = %d, not %d", x, e, want)
	}
	w, e := Encode(x)
	if e != want || e != api.OK && w != 0 {
		t.Errorf("Encode(%+v) = %08x, %d, not %d", x, w, e, want)
	}
}

func TestCheckEdges(t *testing.T) {
	for _, r := range rows() {
		for _, f := range "DABI" {
			low, high := r.span(f)
			for _, v := range []int{low, high, (low + high) / 2} {
				x := api.Inst{Op: r.op}
				*field(&x, f) = v
				checked(t, x, api.OK)
			}
			for _, v := range []int{low - 1, high + 1, low - 100, high + 100, 1 << 21, 1 << 32, -1 << 32, math.MinInt, math.MaxInt} {
				x := api.Inst{Op: r.op}
				*field(&x, f) = v
				checked(t, x, api.ErrInst)
			}
		}
	}
	for _, op := range wrong() {
		checked(t, api.Inst{Op: op}, api.ErrInst)
		checked(t, api.Inst{Op: op, D: 1, A: 2, B: 3, Imm: 4}, api.ErrInst)
	}
	checked(t, api.Inst{}, api.ErrInst)
	checked(t, api.Inst{Op: Add, Imm: 1}, api.ErrInst)
	checked(t, api.Inst{Op: Slli, Imm: 32}, api.ErrInst)
}

func TestEncode(t *testing.T) {
	for _, r := range rows() {
		for _, x := range r.samples() {
			checked(t, x, api.OK)
			if w, _ := Encode(x); w != r.spelt(x) {
				t.Fatalf("Encode(%+v) = %08x, not %08x", x, w, r.spelt(x))
			}
		}
	}
}

// P1.3

func decoded(t *testing.T, w uint32) {
	t.Helper()
	x, e := Decode(w)
	want, ok := read(w)
	if x != want || ok != (e == api.OK) || !ok && e != api.ErrInst {
		t.Fatalf("Decode(%08x) = %+v, %d, not %+v, %v", w, x, e, want, ok)
	}
	if !ok {
		return
	}
	if v, e := Encode(x); v != w || e != api.OK {
		t.Fatalf("%08x is decoded to %+v, but that is encoded to %08x, %d", w, x, v, e)
	}
}

func TestDecodeInstructions(t *testing.T) {
	for _, r := range rows() {
		for _, x := range r.samples() {
			w := r.spelt(x)
			if y, e := Decode(w); y != x || e != api.OK {
				t.Fatalf("Decode(%08x) = %+v, %d, not %+v", w, y, e, x)
			}
		}
	}
}

func TestDecodeNone(t *testing.T) {
	for _, w := range []uint32{
		0, 1, 0x03ffffff, // no operation 0
		0x94000000, 0x97ffffff, 0xfc000000, 0xffffffff, // nor one behind halt
		0x04221801, 0x04221c00, // add, with bits that ought to be 0
		0x4c220020, 0x4c22ffff, 0x54228000, // slli by 32, by 65535, srai by 32768
		0x5c210000, 0x5c3f0001, // lui, with a bit ahead of its Imm
		0x88200001, 0x88210000, // in
		0x8c200001, 0x90810000, 0x90800001, // out, halt
	} {
		if x, e := Decode(w); x != (api.Inst{}) || e != api.ErrInst {
			t.Errorf("Decode(%08x) = %+v, %d", w, x, e)
		}
	}
}

func TestDecodeWords(t *testing.T) {
	for op := range uint32(64) {
		for bit := range 32 { // each bit of an instruction, turned
			decoded(t, op<<26^1<<bit)
			decoded(t, (op<<26|0x03ffffff)^1<<bit)
			decoded(t, (op<<26|0x00221800)^1<<bit)
		}
	}
	w := uint32(1)
	for range 50000 { // words that a short rule scatters
		w = w*1664525 + 1013904223
		decoded(t, w)
		decoded(t, w&^0xffff)
		decoded(t, w&^0x07ff)
	}
}

// P1.4

func TestText(t *testing.T) {
	for _, r := range rows() {
		for _, x := range r.samples() {
			if s := Text(x); s != r.told(x) {
				t.Fatalf("Text(%+v) = %q, not %q", x, s, r.told(x))
			}
		}
		for _, f := range "DABI" {
			low, high := r.span(f)
			for _, v := range []int{low - 1, high + 1} {
				x := api.Inst{Op: r.op}
				*field(&x, f) = v
				if s := Text(x); s != "?" {
					t.Errorf("Text(%+v) = %q", x, s)
				}
			}
		}
	}
	for _, op := range wrong() {
		if s := Text(api.Inst{Op: op}); s != "?" {
			t.Errorf("Text of operation %d = %q", op, s)
		}
	}
}

func TestParse(t *testing.T) {
	for _, r := range rows() {
		for _, x := range r.samples() {
			s := r.told(x)
			if y, e := Parse(s); y != x || e != api.OK {
				t.Fatalf("Parse(%q) = %+v, %d, not %+v", s, y, e, x)
			}
		}
	}
}

func refused(t *testing.T, s string) {
	t.Helper()
	if x, e := Parse(s); x != (api.Inst{}) || e != api.ErrInst {
		t.Errorf("Parse(%q) = %+v, %d", s, x, e)
	}
}

func TestParseNone(t *testing.T) {
	for _, s := range []string{
		"", " ", "?", "add", "add ", "foo", "foo r1 r2 r3", "ADD r1 r2 r3", "Add r1 r2 r3", "1 r1 r2 r3",
		"add r1 r2", "add r1 r2 ", "add r1 r2 r3 ", " add r1 r2 r3", "add  r1 r2 r3", "add r1 r2  r3",
		"add r1 r2 r3 r4", "add r1 r2 r3 0", "add r1 r2 3", "add 1 r2 r3", "add r1,r2,r3", "add\tr1 r2 r3", "add r1 r2 r3\n",
		"add R1 r2 r3", "add r01 r2 r3", "add r+1 r2 r3", "add r-1 r2 r3", "add r-0 r2 r3", "add rr1 r2 r3", "add r r2 r3", "add r0x1 r2 r3", "add r1_0 r2 r3",
		"add r32 r2 r3", "add r1 r32 r3", "add r1 r2 r32", "add r4294967297 r2 r3", "add r18446744073709551617 r2 r3",
		"addi r1 r2 05", "addi r1 r2 +5", "addi r1 r2 -0", "addi r1 r2 -05", "addi r1 r2 --5", "addi r1 r2 - 5", "addi r1 r2 5.0", "addi r1 r2 0x5", "addi r1 r2 1e1", "addi r1 r2 r5", "addi r1 r2", "addi r1 r2 ", "addi r1 r2 5 ", "addi r1 -5",
		"addi r1 r2 32768", "addi r1 r2 -32769", "addi r1 r2 4294967301", "addi r1 r2 99999999999999999999999999", "addi r1 r2 -99999999999999999999999999",
		"andi r1 r2 -1", "ori r1 r2 65536", "xori r1 r2 -0", "slli r1 r2 32", "srli r1 r2 -1", "srai r1 r2 32", "slti r1 r2 32768",
		"lui r1 65536", "lui r1 -1", "lui r1 r2 1", "lui r1", "lw r1 4 r2", "lw r1 r2", "lw r1 4(r2)",
		"sw r2 r3", "sw r2 r3 r4", "sw r2 r3 32768", "sw r1 r2 r3 4", "beq r1 r2 -32769", "bgeu r1 r2 32768",
		"jal r31 1048576", "jal r31 -1048577", "jal r31", "jal 5", "jal r1 r2 5", "jalr r1 5",
		"in", "in r32", "in r1 0", "in 1", "out", "out r1 0", "out r32", "halt", "halt 0", "halt r4 ", "halt r4 r5", "halt r-1",
		"add r\u0661 r2 r3", "addi r1 r2 \u0665", "\xff", "add \xff r2 r3", "add\x00r1 r2 r3", "add r1 r2 r3\x00",
	} {
		refused(t, s)
	}
}

// A text that differs from an instruction's by a byte is another's, or no one's: never the same one's.
func TestParseChanged(t *testing.T) {
	for _, r := range rows() {
		last := r.samples()[len(r.samples())-1]
		s := r.told(last)
		for i := range len(s) + 1 {
			for _, c := range []byte(" r?-+0189aA\x00\xff") {
				more := s[:i] + string([]byte{c}) + s[i:]
				changed := []string{more}
				if i < len(s) {
					changed = append(changed, s[:i]+s[i+1:], s[:i]+string([]byte{c})+s[i+1:])
				}
				for _, v := range changed {
					x, e := Parse(v)
					if e == api.OK && Text(x) != v || e == api.OK && v != s && x == last || e != api.OK && x != (api.Inst{}) {
						t.Fatalf("Parse(%q) = %+v, %d", v, x, e)
					}
				}
			}
		}
	}
}

// P1.5

func TestOneForm(t *testing.T) {
	words, texts := map[uint32]api.Inst{}, map[string]api.Inst{}
	for _, r := range rows() {
		for _, x := range r.samples() {
			w, _ := Encode(x)
			if y, e := Decode(w); y != x || e != api.OK {
				t.Fatalf("%+v comes back from its word as %+v, %d", x, y, e)
			}
			s := Text(x)
			if y, e := Parse(s); y != x || e != api.OK {
				t.Fatalf("%+v comes back from its text as %+v, %d", x, y, e)
			}
			if y, ok := words[w]; ok && y != x {
				t.Fatalf("%+v and %+v have one word", x, y)
			}
			if y, ok := texts[s]; ok && y != x {
				t.Fatalf("%+v and %+v have one text", x, y)
			}
			words[w], texts[s] = x, x
		}
	}
}

// Every value of an Imm comes back, not only the edges.
func TestOneFormImm(t *testing.T) {
	for _, r := range rows() {
		if !r.hasField('I') {
			continue
		}
		step := max(1, (r.high-r.low)/50000|1)
		for n := r.low; n <= r.high; n += step {
			x := api.Inst{Op: r.op, Imm: n}
			w, e := Encode(x)
			y, f := Decode(w)
			z, g := Parse(Text(x))
			if y != x || z != x || e != api.OK || f != api.OK || g != api.OK {
				t.Fatalf("%+v: %08x, %d, %+v, %d, %+v, %d", x, w, e, y, f, z, g)
			}
		}
	}
}

// P1.6

func TestNoPanic(t *testing.T) {
	ends := []int{math.MinInt, -1 << 31, -1, 0, 1, 31, 32, 1 << 16, 1 << 31, math.MaxInt}
	for _, op := range append(wrong(), 1, 15, 23, 25, 32, 34, 36) {
		Form(op)
		Name(op)
		Signed(op)
		for _, n := range ends {
			for _, x := range []api.Inst{
				{Op: op, D: n}, {Op: op, A: n}, {Op: op, B: n}, {Op: op, Imm: n},
				{Op: op, D: n, A: n, B: n, Imm: n}, {Op: n, D: n, A: n, B: n, Imm: n},
			} {
				Check(x)
				Encode(x)
				Text(x)
			}
		}
	}
	for _, s := range []string{
		strings.Repeat(" ", 1<<20), "add" + strings.Repeat(" r1", 1<<18), "addi r1 r2 " + strings.Repeat("9", 1<<20),
		strings.Repeat("r", 1<<20), "add " + strings.Repeat("r", 1<<20) + " r1 r2", strings.Repeat("\xff", 1000),
	} {
		refused(t, s)
	}
}

func TestExamples(t *testing.T) {
	for _, c := range []struct {
		x api.Inst
		w uint32
		s string
	}{
		{api.Inst{Op: Add, D: 1, A: 2, B: 3}, 0x04221800, "add r1 r2 r3"},
		{api.Inst{Op: Addi, D: 1, A: 2, Imm: -5}, 0x3c22fffb, "addi r1 r2 -5"},
		{api.Inst{Op: Sw, A: 2, B: 3, Imm: 4}, 0x64430004, "sw r2 r3 4"},
		{api.Inst{Op: Jal, D: 31, Imm: -1}, 0x83ffffff, "jal r31 -1"},
		{api.Inst{Op: Halt, A: 4}, 0x90800000, "halt r4"},
	} {
		if w, e := Encode(c.x); w != c.w || e != api.OK {
			t.Errorf("Encode(%+v) = %08x, %d", c.x, w, e)
		}
		if x, e := Decode(c.w); x != c.x || e != api.OK {
			t.Errorf("Decode(%08x) = %+v, %d", c.w, x, e)
		}
		if s := Text(c.x); s != c.s {
			t.Errorf("Text(%+v) = %q", c.x, s)
		}
		if x, e := Parse(c.s); x != c.x || e != api.OK {
			t.Errorf("Parse(%q) = %+v, %d", c.s, x, e)
		}
	}
}
