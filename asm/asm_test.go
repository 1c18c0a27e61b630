package asm

import (
	"fmt"
	"math"
	"math/rand/v2"
	"slices"
	"strings"
	"testing"

	"pennant/api"
	"pennant/isa"
	"pennant/mach"
)

// short is a list's text, of which a long one shows only where it begins.
func short(list []int) string {
	if len(list) > 20 {
		return fmt.Sprint(list[:20]) + ".."
	}
	return fmt.Sprint(list)
}

// refused wants the error from both, with nothing beside it.
func refused(t *testing.T, what string, items []api.Item, base int, want api.Errno) {
	t.Helper()
	if words, places, e := Assemble(items, base); e != want || len(words) != 0 || len(places) != 0 {
		t.Errorf("%s: Assemble = %d words, %v, %d, not %d", what, len(words), places, e, want)
	}
	if forms, e := Forms(items, base); e != want || len(forms) != 0 {
		t.Errorf("%s: Forms = %s, %d, not %d", what, short(forms), e, want)
	}
}

// formed wants these forms.
func formed(t *testing.T, items []api.Item, base int, want ...int) {
	t.Helper()
	if got, e := Forms(items, base); e != api.OK || !slices.Equal(got, want) {
		t.Errorf("Forms = %s, %d, not %s", short(got), e, short(want))
	}
}

// P3.1

func TestTurned(t *testing.T) {
	for _, pair := range [][2]int{{opBeq, opBne}, {opBlt, opBge}, {opBltu, opBgeu}} {
		if Turned(pair[0]) != pair[1] || Turned(pair[1]) != pair[0] {
			t.Errorf("Turned of %v = %d, %d", pair, Turned(pair[0]), Turned(pair[1]))
		}
	}
	for op := -100; op <= 200; op++ {
		if Turned(op) != inverse(op) {
			t.Errorf("Turned(%d) = %d", op, Turned(op))
		}
	}
	for _, op := range []int{math.MinInt, math.MaxInt, 1<<32 + opBeq, opBeq - 1<<32, 26 + 64} {
		if Turned(op) != 0 {
			t.Errorf("Turned(%d) = %d", op, Turned(op))
		}
	}
}

// P3.2: the words

func TestExamples(t *testing.T) {
	for _, c := range []struct {
		items  []api.Item
		base   int
		words  []uint32
		zeros  int
		places []api.Place
	}{
		{[]api.Item{label("a"), jump(0, "a")}, 5, []uint32{0x801fffff}, 0, []api.Place{{Label: "a", At: 5}}},
		{[]api.Item{branch(opBeq, 1, 2, "b"), word(7), label("b")}, 0, []uint32{0x68220001, 7}, 0, []api.Place{{Label: "b", At: 2}}},
		{[]api.Item{branch(opBeq, 1, 2, "b"), space(40000), label("b")}, 0, []uint32{0x6c220001, 0x80009c40}, 40000, []api.Place{{Label: "b", At: 40002}}},
		{[]api.Item{addr(3, "b", 0), ref("b", 1), label("b")}, 65536, []uint32{0x5c600001, 0x44630003, 0x0004000d}, 0, []api.Place{{Label: "b", At: 65539}}},
	} {
		words, places, e := Assemble(c.items, c.base)
		if e != api.OK || !slices.Equal(words, append(c.words, make([]uint32, c.zeros)...)) || !slices.Equal(places, c.places) {
			t.Errorf("%v at %d: %d words, %v, %d", c.items, c.base, len(words), places, e)
		}
	}
	refused(t, "jump 0 c", []api.Item{jump(0, "c")}, 0, api.ErrLabel)
	refused(t, "a twice", []api.Item{label("a"), label("a")}, 0, api.ErrTwice)
	refused(t, "kind 9", []api.Item{{Kind: 9}}, 0, api.ErrForm)
	refused(t, "branch add", []api.Item{branch(1, 0, 0, "a"), label("a")}, 0, api.ErrInst)
}

func TestNoItems(t *testing.T) {
	for _, base := range []int{0, 1, 65536, maxImage} {
		for _, items := range [][]api.Item{nil, {}} {
			assembled(t, items, base, nil)
		}
	}
}

// Every kind once, with labels ahead and behind, at bases up to the greatest that has room.
func TestEachKind(t *testing.T) {
	items := []api.Item{
		label("start"),
		inst(api.Inst{Op: isa.Add, D: 31, A: 30, B: 29}),
		inst(api.Inst{Op: isa.Addi, D: 1, A: 2, Imm: -5}),
		inst(api.Inst{Op: isa.Beq, A: 1, B: 2, Imm: -32768}),
		inst(api.Inst{Op: isa.Jal, D: 3, Imm: 1048575}),
		word(0), word(1<<32 - 1),
		branch(opBeq, 31, 0, "end"), branch(opBne, 0, 31, "start"), branch(opBlt, 1, 2, "middle"),
		branch(opBge, 3, 4, "middle"), branch(opBltu, 5, 6, "end"), branch(opBgeu, 25, 25, "start"),
		jump(0, "end"), jump(31, "start"), label("middle"), jump(25, "middle"),
		space(0), space(1), space(5),
		addr(0, "start", 0), addr(31, "end", 1), addr(25, "middle", 1<<32-1),
		ref("start", 0), ref("end", 3), ref("middle", 1<<32-1),
		inst(api.Inst{Op: isa.Halt, A: 4}),
		label("end"),
	}
	forms := grown(items, 0)
	at := model{items, 0, forms}.addresses()
	for _, base := range []int{0, 1, 65535, 65536, 1<<20 - 1, 1<<25 + 12345, maxImage - at[len(items)]} {
		assembled(t, items, base, forms)
	}
	refused(t, "no room", items, maxImage-at[len(items)]+1, api.ErrLong)
}

// Sums that leave the 32 bits come back at 0.
func TestWrap(t *testing.T) {
	items := []api.Item{label("a"), addr(7, "a", 1<<32-10), addr(7, "a", 1<<32-11), ref("a", 1<<32-40), ref("a", 1<<32-41), ref("a", 1<<31)}
	words, _, e := Assemble(items, 10)
	want := []uint32{luiWord(7, 0), oriWord(7, 0), luiWord(7, 65535), oriWord(7, 65535), 0, 1<<32 - 1, 1<<31 + 40}
	if e != api.OK || !slices.Equal(words, want) {
		t.Errorf("Assemble = %x, %d, not %x", words, e, want)
	}
	words, _, e = Assemble([]api.Item{label("a"), ref("a", 0), addr(1, "a", 0)}, maxImage-3)
	want = []uint32{4 * (maxImage - 3), luiWord(1, 1023), oriWord(1, 65533)}
	if e != api.OK || !slices.Equal(words, want) {
		t.Errorf("Assemble = %x, %d, not %x", words, e, want)
	}
}

// Any text is a label, and no two texts are the same one.
func TestLabels(t *testing.T) {
	names := []string{"", ".", ".x", "a.x", "A.x", "a", "a ", " a", "\x00", "\x00\x00", "\xff", "\u00e4", "a\u0308", strings.Repeat("long", 1000)}
	var items []api.Item
	for i, n := range names {
		items = append(items, label(n), word(uint32(i)))
	}
	for _, n := range names {
		items = append(items, ref(n, 0), jump(1, n))
	}
	assembled(t, items, 3, grown(items, 3))
}

func TestPlacesInOrder(t *testing.T) {
	items := []api.Item{label("z"), label("b"), space(3), label("a"), word(1), label("y"), label("c")}
	_, places, e := Assemble(items, 100)
	want := []api.Place{{Label: "z", At: 100}, {Label: "b", At: 100}, {Label: "a", At: 103}, {Label: "y", At: 104}, {Label: "c", At: 104}}
	if e != api.OK || !slices.Equal(places, want) {
		t.Errorf("places %v, %d", places, e)
	}
}

// What is not relevant for a kind may be anything.
func TestOtherFieldsAreIgnored(t *testing.T) {
	wild := api.Inst{Op: 99, D: -1, A: 32, B: math.MinInt, Imm: math.MaxInt}
	plain := []api.Item{
		label("a"), branch(opBlt, 1, 2, "a"), jump(3, "a"), addr(4, "a", 5), word(6), ref("a", 7), space(8),
		inst(api.Inst{Op: isa.Addi, D: 1, A: 2, Imm: 3}),
		space(40000), branch(opBge, 1, 2, "a"), space(1100000), branch(opBltu, 3, 4, "a"), jump(5, "a"),
	}
	filled := []api.Item{
		{Kind: 2, Inst: wild, Label: "a", Word: 9},
		{Kind: 3, Inst: api.Inst{Op: opBlt, D: -1, A: 1, B: 2, Imm: math.MaxInt}, Label: "a", Word: 9},
		{Kind: 4, Inst: api.Inst{Op: -7, D: 3, A: 32, B: -1, Imm: math.MinInt}, Label: "a", Word: 9},
		{Kind: 5, Inst: api.Inst{Op: -7, D: 4, A: 32, B: -1, Imm: math.MinInt}, Label: "a", Word: 5},
		{Kind: 6, Inst: wild, Label: "none", Word: 6},
		{Kind: 7, Inst: wild, Label: "a", Word: 7},
		{Kind: 8, Inst: wild, Label: "none", Word: 8},
		{Kind: 1, Inst: api.Inst{Op: isa.Addi, D: 1, A: 2, Imm: 3}, Label: "none", Word: 1<<32 - 1},
		space(40000),
		{Kind: 3, Inst: api.Inst{Op: opBge, D: 9, A: 1, B: 2, Imm: 9}, Label: "a", Word: 9},
		space(1100000),
		{Kind: 3, Inst: api.Inst{Op: opBltu, D: 9, A: 3, B: 4, Imm: 9}, Label: "a", Word: 9},
		{Kind: 4, Inst: api.Inst{Op: opBltu, D: 5, A: 3, B: 4, Imm: 9}, Label: "a", Word: 9},
	}
	forms := grown(plain, 9)
	assembled(t, plain, 9, forms)
	got, e := Forms(filled, 9)
	if e != api.OK || !slices.Equal(got, forms) {
		t.Errorf("Forms = %v, %d", got, e)
	}
	words, places, e := Assemble(filled, 9)
	wantWords, wantPlaces := model{plain, 9, forms}.image()
	if e != api.OK || !slices.Equal(words, wantWords) || !slices.Equal(places, wantPlaces) {
		t.Errorf("Assemble = %x, %v, %d, not %x, %v", words, places, e, wantWords, wantPlaces)
	}
}

// P3.2: the errors

func TestBase(t *testing.T) {
	for _, base := range []int{-1, math.MinInt, -1 << 32, maxImage + 1, 1 << 32, math.MaxInt} {
		refused(t, fmt.Sprint("base ", base), nil, base, api.ErrArg)
		refused(t, fmt.Sprint("base ", base), []api.Item{word(1)}, base, api.ErrArg)
	}
	assembled(t, []api.Item{label("a")}, 0, []int{0})
	assembled(t, []api.Item{label("a"), space(0)}, maxImage, []int{0, 0})
	assembled(t, []api.Item{label("a"), word(1), label("b")}, maxImage-1, []int{0, 0, 0})
}

func TestKinds(t *testing.T) {
	for _, kind := range []int{0, -1, 9, 10, 64, 1<<32 + 1, math.MinInt, math.MaxInt} {
		refused(t, fmt.Sprint("kind ", kind), []api.Item{{Kind: kind}}, 0, api.ErrForm)
		refused(t, fmt.Sprint("kind ", kind), []api.Item{label("a"), jump(0, "a"), {Kind: kind, Label: "a"}}, 0, api.ErrForm)
	}
}

func TestRegisters(t *testing.T) {
	for _, r := range []int{-1, 32, 33, 64, 1 << 32, math.MinInt, math.MaxInt} {
		for i, x := range []api.Item{
			branch(opBeq, r, 0, "a"), branch(opBgeu, 0, r, "a"), jump(r, "a"), addr(r, "a", 0),
			inst(api.Inst{Op: isa.Add, D: r}), inst(api.Inst{Op: isa.Add, A: r}), inst(api.Inst{Op: isa.Add, B: r}),
		} {
			refused(t, fmt.Sprintf("register %d, %d", r, i), []api.Item{label("a"), x}, 0, api.ErrInst)
		}
	}
	for r := range 32 {
		items := []api.Item{label("a"), branch(opBeq, r, 31-r, "a"), jump(r, "a"), addr(r, "a", 0), inst(api.Inst{Op: isa.Add, D: r, A: r, B: r})}
		assembled(t, items, 0, []int{0, 1, 1, 0, 0})
	}
}

func TestNoBranch(t *testing.T) {
	for op := -3; op <= 70; op++ {
		items := []api.Item{label("a"), branch(op, 1, 2, "a")}
		if op < opBeq || op > opBgeu {
			refused(t, fmt.Sprint("branch ", op), items, 0, api.ErrInst)
		} else {
			assembled(t, items, 0, []int{0, 1})
		}
	}
	refused(t, "branch far away", []api.Item{label("a"), branch(1<<32+opBeq, 1, 2, "a")}, 0, api.ErrInst)
}

func TestWrongInstructions(t *testing.T) {
	for _, x := range []api.Inst{
		{}, {Op: -1}, {Op: 37}, {Op: isa.Add, Imm: 1}, {Op: isa.Slli, Imm: 32}, {Op: isa.Addi, Imm: 32768},
		{Op: isa.Addi, B: 1}, {Op: isa.Halt, D: 1}, {Op: isa.Jal, Imm: 1048576}, {Op: isa.Beq, D: 1}, {Op: isa.Beq, Imm: -32769}, {Op: isa.Lui, Imm: -1},
	} {
		refused(t, fmt.Sprint(x), []api.Item{inst(x)}, 0, api.ErrInst)
	}
}

func TestTwiceAndUndefined(t *testing.T) {
	refused(t, "twice", []api.Item{label("a"), word(1), label("b"), label("a")}, 0, api.ErrTwice)
	refused(t, "twice nothing", []api.Item{label(""), label("")}, 0, api.ErrTwice)
	for i, x := range []api.Item{branch(opBeq, 1, 2, "b"), jump(0, "b"), addr(1, "b", 0), ref("b", 0)} {
		refused(t, fmt.Sprint("undefined, ", i), []api.Item{label("a"), x}, 0, api.ErrLabel)
		x.Label = ""
		refused(t, fmt.Sprint("undefined nothing, ", i), []api.Item{label("a"), x}, 0, api.ErrLabel)
		x.Label = "A"
		refused(t, fmt.Sprint("undefined in capitals, ", i), []api.Item{label("a"), x}, 0, api.ErrLabel)
		x.Label = "a"
		if _, e := Forms([]api.Item{x, label("a")}, 0); e != api.OK {
			t.Errorf("%d: Forms = %d", i, e)
		}
	}
}

func TestTooLong(t *testing.T) {
	for _, c := range []struct {
		items []api.Item
		base  int
		want  api.Errno
	}{
		{[]api.Item{word(1)}, maxImage - 1, api.OK},
		{[]api.Item{word(1)}, maxImage, api.ErrLong},
		{[]api.Item{space(1)}, maxImage, api.ErrLong},
		{[]api.Item{label("a"), jump(0, "a")}, maxImage, api.ErrLong},
		{[]api.Item{label("a"), addr(0, "a", 0)}, maxImage - 1, api.ErrLong},
		{[]api.Item{label("a"), addr(0, "a", 0)}, maxImage - 2, api.OK},
		{[]api.Item{space(maxImage - 100)}, 100, api.OK},
		{[]api.Item{space(maxImage - 100)}, 101, api.ErrLong},
		{[]api.Item{space(maxImage)}, 0, api.OK},
		{[]api.Item{space(maxImage), label("a")}, 0, api.OK},
		{[]api.Item{space(maxImage), space(1)}, 0, api.ErrLong},
		{[]api.Item{space(1<<32 - 1)}, 0, api.ErrLong},
		{[]api.Item{space(1 << 31), space(1 << 31)}, 0, api.ErrLong},
		{slices.Repeat([]api.Item{space(1<<32 - 1)}, 10000), maxImage, api.ErrLong},
		// a form that grows counts: a branch has 1, 2 or 4 words here
		{[]api.Item{branch(opBeq, 1, 2, "a"), space(32767), label("a")}, maxImage - 32768, api.OK},
		{[]api.Item{branch(opBeq, 1, 2, "a"), space(32768), label("a")}, maxImage - 32769, api.ErrLong},
		{[]api.Item{branch(opBeq, 1, 2, "a"), space(32768), label("a")}, maxImage - 32770, api.OK},
		{[]api.Item{branch(opBeq, 1, 2, "a"), space(1048576), label("a")}, maxImage - 1048576 - 3, api.ErrLong},
		{[]api.Item{branch(opBeq, 1, 2, "a"), space(1048576), label("a")}, maxImage - 1048576 - 4, api.OK},
		{[]api.Item{jump(1, "a"), space(1048576), label("a")}, maxImage - 1048576 - 2, api.ErrLong},
		{[]api.Item{jump(1, "a"), space(1048576), label("a")}, maxImage - 1048576 - 3, api.OK},
		// a label may be too far for any address
		{[]api.Item{jump(1, "a"), branch(opBeq, 1, 2, "a"), space(1<<32 - 1), space(1<<32 - 1), label("a"), addr(1, "a", 0)}, 0, api.ErrLong},
	} {
		if _, e := Forms(c.items, c.base); e != c.want {
			t.Errorf("%d items from %v on at %d: Forms = %d, not %d", len(c.items), c.items[0], c.base, e, c.want)
		}
		if words, places, e := Assemble(c.items, c.base); e != c.want || e != api.OK && (words != nil || places != nil) {
			t.Errorf("%d items from %v on at %d: Assemble = %d, not %d", len(c.items), c.items[0], c.base, e, c.want)
		}
	}
}

// Of two errors, the one that the chapter names first is told, whichever stands first; of ErrForm and ErrInst that of the first item.
func TestFirstError(t *testing.T) {
	form, wrong := api.Item{Kind: 9}, inst(api.Inst{Op: isa.Add, Imm: 1})
	twice, undefined, long := []api.Item{label("a"), label("a")}, []api.Item{jump(0, "none")}, []api.Item{space(maxImage + 1)}
	groups := []struct {
		items []api.Item
		e     api.Errno
	}{{[]api.Item{form}, api.ErrForm}, {twice, api.ErrTwice}, {undefined, api.ErrLabel}, {long, api.ErrLong}}
	for i, g := range groups {
		refused(t, fmt.Sprint("a base, ", i), g.items, -1, api.ErrArg)
		refused(t, fmt.Sprint("a base, ", i), g.items, maxImage+1, api.ErrArg)
		for j, h := range groups[i:] {
			refused(t, fmt.Sprintf("%d ahead of %d", i, i+j), slices.Concat(g.items, h.items), 0, g.e)
			refused(t, fmt.Sprintf("%d behind %d", i, i+j), slices.Concat(h.items, g.items), 0, g.e)
		}
	}
	for _, w := range []api.Item{wrong, branch(opJal, 1, 2, "none"), branch(opBeq, 32, 0, "none"), jump(-1, "none"), addr(32, "none", 0)} {
		refused(t, "first the kind", []api.Item{form, w}, 0, api.ErrForm)
		refused(t, "first the instruction", []api.Item{w, form}, 0, api.ErrInst)
		refused(t, "a base", []api.Item{w}, -1, api.ErrArg)
		for _, g := range groups[1:] {
			refused(t, "the instruction behind", append(slices.Clone(g.items), w), 0, api.ErrInst)
			refused(t, "the instruction ahead", append([]api.Item{w}, g.items...), 0, api.ErrInst)
		}
	}
}

// P3.3

// Each form at the least and at the greatest distance that it reaches, and just outside.
func TestReach(t *testing.T) {
	for _, c := range []struct {
		x     api.Item
		ahead bool
		words uint32
		form  int
	}{
		{branch(opBeq, 1, 2, "a"), true, 0, 1},
		{branch(opBne, 1, 2, "a"), true, 32767, 1},
		{branch(opBlt, 1, 2, "a"), true, 32768, 2},
		{branch(opBge, 1, 2, "a"), true, 1048575, 2},
		{branch(opBltu, 1, 2, "a"), true, 1048576, 3},
		{branch(opBgeu, 1, 2, "a"), true, 3000000, 3},
		{jump(9, "a"), true, 0, 1},
		{jump(9, "a"), true, 32768, 1},
		{jump(9, "a"), true, 1048575, 1},
		{jump(9, "a"), true, 1048576, 2},
		{branch(opBeq, 1, 2, "a"), false, 0, 1},
		{branch(opBne, 1, 2, "a"), false, 32767, 1},   // and the branch itself: 32768 back
		{branch(opBlt, 1, 2, "a"), false, 32768, 2},   // 32769 back
		{branch(opBge, 1, 2, "a"), false, 1048574, 2}, // 1048576 back, with its two words
		{branch(opBltu, 1, 2, "a"), false, 1048575, 3},
		{branch(opBgeu, 1, 2, "a"), false, 1048576, 3},
		{jump(9, "a"), false, 0, 1},
		{jump(9, "a"), false, 1048575, 1},
		{jump(9, "a"), false, 1048576, 2},
		{jump(9, "a"), false, 3000000, 2},
	} {
		items, forms := []api.Item{label("a"), space(c.words), c.x}, []int{0, 0, c.form}
		if c.ahead {
			slices.Reverse(items)
			slices.Reverse(forms)
		}
		for _, base := range []int{0, 65535, 40000000} {
			assembled(t, items, base, forms)
		}
	}
}

// Only a branch or a jump has a form other than 0.
func TestOtherForms(t *testing.T) {
	far := space(2000000)
	formed(t, []api.Item{label("a"), far, addr(1, "a", 0), ref("a", 0), word(1), inst(api.Inst{Op: isa.Beq}), inst(api.Inst{Op: isa.Jal}), jump(0, "a"), branch(opBeq, 0, 0, "a"), far},
		7, 0, 0, 0, 0, 0, 0, 0, 2, 3, 0)
}

// One that grows makes others grow, ahead of it and behind it.
func TestFormsThatHangOnEachOther(t *testing.T) {
	b := func(l string) api.Item { return branch(opBeq, 1, 2, l) }
	for _, c := range []struct {
		name  string
		items []api.Item
		want  []int
	}{
		{"all just fit", []api.Item{b("x"), b("y"), space(32766), label("x"), word(0), label("y")}, []int{1, 1, 0, 0, 0, 0}},
		{"the second makes the first grow", []api.Item{b("x"), b("y"), space(32766), label("x"), space(2), label("y")}, []int{2, 2, 0, 0, 0, 0}},
		{"the first makes the second grow", []api.Item{label("y"), label("x"), word(0), space(32766), b("y"), b("x"), word(0)}, []int{0, 0, 0, 0, 1, 2, 0}},
		{"the first one, one word more", []api.Item{label("y"), space(2), label("x"), space(32766), b("y"), b("x")}, []int{0, 0, 0, 0, 2, 2}},
		{"each in the other's way", []api.Item{b("x"), label("y"), space(32766), b("y"), label("x")}, []int{1, 0, 0, 1, 0}},
		{"each in the other's way, too far", []api.Item{b("x"), label("y"), space(32767), b("y"), label("x")}, []int{2, 0, 0, 1, 0}},
		{"too far both", []api.Item{b("x"), label("y"), space(32768), b("y"), label("x")}, []int{2, 0, 0, 2, 0}},
		{"a jump makes a branch grow", []api.Item{b("x"), jump(0, "y"), space(32765), label("x"), space(1048576), label("y")}, []int{2, 2, 0, 0, 0, 0}},
		{"a jump behind a branch's label", []api.Item{label("x"), jump(0, "y"), space(32765), b("x"), space(1048576), label("y")}, []int{0, 2, 0, 2, 0, 0}},
		{"a jump behind the label, one word less", []api.Item{label("x"), jump(0, "y"), space(32764), b("x"), space(1048576), label("y")}, []int{0, 2, 0, 1, 0, 0}},
		{"a jump leaves a branch", []api.Item{b("x"), jump(0, "y"), space(32764), label("x"), space(1048576), label("y")}, []int{1, 2, 0, 0, 0, 0}},
		{"a branch makes a jump grow", []api.Item{jump(0, "x"), b("y"), space(1048574), label("x"), label("y")}, []int{2, 2, 0, 0, 0}},
		{"to the last form by another", []api.Item{b("x"), jump(0, "y"), space(1048573), label("x"), word(0), word(0), word(0), label("y")}, []int{3, 2, 0, 0, 0, 0, 0, 0}},
	} {
		if brute := choices(c.items, 0); !slices.Equal(brute[0], c.want) {
			t.Errorf("%s: by hand %v, of all choices %v", c.name, c.want, brute[0])
		}
		assembled(t, c.items, 0, c.want)
	}
}

// chain is n branches that lead ahead, each over so many of the others that it grows when all of these have: so they grow one after the other, the last one first, if the words behind them let that one grow.
func chain(n int, lastSpace uint32) []api.Item {
	const span = 16385
	var items []api.Item
	for i := range n + span {
		if i >= span {
			items = append(items, label(fmt.Sprint(i-span)))
		}
		switch {
		case i < n:
			items = append(items, branch(opBeq, 1, 2, fmt.Sprint(i)))
		case i > n:
			items = append(items, space(2))
		default:
			items = append(items, space(lastSpace))
		}
	}
	return items
}

// formOfAll are the forms if that of each branch is f.
func formOfAll(items []api.Item, f int) []int {
	forms := make([]int, len(items))
	for i, x := range items {
		if x.Kind == api.IBranch {
			forms[i] = f
		}
	}
	return forms
}

// A long chain does not take long, whichever way it leads.
func TestLongChains(t *testing.T) {
	for _, c := range []struct {
		lastSpace uint32
		form      int
	}{{1, 1}, {2, 2}} {
		items := chain(100000, c.lastSpace)
		formed(t, items, 0, formOfAll(items, c.form)...)
		slices.Reverse(items)
		formed(t, items, 0, formOfAll(items, c.form)...)
	}
}

// tangle is branches that stand side by side and grow one after the other in the given order, each only since those before it did; the first one grows if it is one word too far from its label.
func tangle(order []int, first int) []api.Item {
	const margin = 32769
	n := len(order)
	block := make([]api.Item, n)
	for k, p := range order {
		ahead, behind := 0, 0 // how many of those that grew before p stand ahead of it and behind it
		for _, q := range order[:k] {
			if q > p {
				ahead++
			} else {
				behind++
			}
		}
		switch {
		case k == 0:
			block[p] = branch(opBeq, 1, 2, fmt.Sprint("ahead", first-(n-1-p)))
		case order[k-1] > p:
			block[p] = branch(opBeq, 1, 2, fmt.Sprint("ahead", 32768-ahead-(n-1-p)))
		default:
			block[p] = branch(opBeq, 1, 2, fmt.Sprint("behind", 32768-behind-p))
		}
	}
	var items []api.Item
	for d := margin; d > 0; d-- {
		items = append(items, label(fmt.Sprint("behind", d)), word(0))
	}
	items = append(items, block...)
	for d := range margin {
		items = append(items, label(fmt.Sprint("ahead", d)), word(0))
	}
	return items
}

// Chains that go to and fro, in any order.
func TestTangles(t *testing.T) {
	r := rand.New(rand.NewPCG(1, 2))
	for _, n := range []int{1, 2, 3, 10, 100, 1000} {
		inwards := make([]int, n)
		for i := range inwards {
			inwards[i] = i / 2
			if i%2 == 1 {
				inwards[i] = n - 1 - i/2
			}
		}
		outwards := slices.Clone(inwards)
		slices.Reverse(outwards)
		for _, order := range [][]int{r.Perm(n), r.Perm(n), inwards, outwards} {
			fit, over := tangle(order, 32767), tangle(order, 32768)
			formed(t, fit, 0, formOfAll(fit, 1)...)
			formed(t, over, 0, formOfAll(over, 2)...)
		}
	}
}

// Items of all kinds in any order, with spaces that bring labels to the edges of what is reached.
func scattered(r *rand.Rand, n int, spaces []uint32) []api.Item {
	var items []api.Item
	labels := 1 + r.IntN(n)
	for range n {
		to, d := fmt.Sprint(r.IntN(labels)), r.IntN(32)
		more := []api.Item{
			branch(opBeq+r.IntN(6), d, r.IntN(32), to), branch(opBeq+r.IntN(6), r.IntN(32), d, to), jump(d, to),
			addr(d, to, r.Uint32()), ref(to, r.Uint32()), word(r.Uint32()), inst(api.Inst{Op: isa.Add, D: d}),
			space(spaces[r.IntN(len(spaces))]), space(spaces[r.IntN(len(spaces))] + uint32(r.IntN(9))),
		}
		items = append(items, more[r.IntN(len(more))])
	}
	for i := range labels {
		items = slices.Insert(items, r.IntN(len(items)+1), label(fmt.Sprint(i)))
	}
	return items
}

// P3.4

func TestScattered(t *testing.T) {
	r := rand.New(rand.NewPCG(3, 4))
	for n := range 600 {
		spaces := []uint32{0, 1, 32760, 16380, 10920, 8190}
		if n%10 == 0 {
			spaces = []uint32{0, 3, 524284, 349522, 1048568, 262140}
		}
		items, base := scattered(r, 1+r.IntN(40), spaces), r.IntN(1<<25)
		assembled(t, items, base, grown(items, base))
	}
}

// leads runs the words of an item on a machine, with a taken branch or a jump, or with a branch that is not taken, and wants the place behind it.
func leads(t *testing.T, m *mach.Machine, x api.Item, at, end, want int, taken bool) {
	t.Helper()
	a, b := x.Inst.A, x.Inst.B
	if x.Kind == api.IBranch {
		equal := x.Inst.Op == opBeq || x.Inst.Op == opBge || x.Inst.Op == opBgeu
		m.Set(a, 5)
		m.Set(b, 6)
		if equal == taken {
			m.Set(b, 5)
		}
	}
	m.Go(uint32(at))
	for n := 0; n == 0 || n < 4 && int(m.Place()) > at && int(m.Place()) < end; n++ {
		m.Step()
	}
	if m.State() != mach.Running || int(m.Place()) != want {
		t.Fatalf("%+v at %d leads to %d (state %d), not to %d", x, at, m.Place(), m.State(), want)
	}
	if d := x.Inst.D; x.Kind == api.IJump && d != 0 && m.Reg(d) != uint32(end) {
		t.Fatalf("%+v at %d: register %d is %d, not %d", x, at, d, m.Reg(d), end)
	}
}

// On the machine, each branch and jump leads to its label, whatever its form is; register 25 is the only other one that changes.
func TestWhereTheyGo(t *testing.T) {
	r := rand.New(rand.NewPCG(5, 6))
	for range 60 {
		items, base := scattered(r, 1+r.IntN(30), []uint32{0, 40, 32740, 16370, 524280, 1048560}), r.IntN(100000)
		for i, x := range items {
			if x.Kind == api.IBranch { // two other registers, so that it can be taken or not
				items[i].Inst.A, items[i].Inst.B = 1+x.Inst.A%15, 16+x.Inst.B%16
			}
		}
		words, places, e := Assemble(items, base)
		if e != api.OK {
			t.Fatal(e)
		}
		memory := append(make([]uint32, base), words...)
		m, e := mach.New(memory, len(memory)+1, nil)
		if e != api.OK {
			t.Fatal(e)
		}
		forms, _ := Forms(items, base)
		at := model{items, base, forms}.addresses()
		to := map[string]int{}
		for _, p := range places {
			to[p.Label] = p.At
		}
		for i, x := range items {
			switch x.Kind {
			case api.IBranch:
				leads(t, m, x, at[i], at[i+1], to[x.Label], true)
				leads(t, m, x, at[i], at[i+1], at[i+1], false)
			case api.IJump:
				leads(t, m, x, at[i], at[i+1], to[x.Label], true)
			case api.IAddr:
				m.Go(uint32(at[i]))
				m.Run(2)
				if got := m.Reg(x.Inst.D); x.Inst.D != 0 && got != uint32(to[x.Label])+x.Word {
					t.Fatalf("%+v at %d is %d", x, at[i], got)
				}
			}
		}
	}
}

// A branch may use register 25 itself, a jump may put its address there.
func TestRegister25(t *testing.T) {
	for _, far := range []uint32{10, 40000, 1100000} {
		for op := opBeq; op <= opBgeu; op++ {
			items := []api.Item{branch(op, 25, 1, "a"), branch(op, 1, 25, "a"), jump(25, "a"), space(far), label("a")}
			words, places, e := Assemble(items, 70000)
			if e != api.OK {
				t.Fatal(e)
			}
			forms, _ := Forms(items, 70000)
			at := model{items, 70000, forms}.addresses()
			m, _ := mach.New(append(make([]uint32, 70000), words...), 3000000, nil)
			for i := range 2 {
				leads(t, m, items[i], at[i], at[i+1], places[0].At, true)
				leads(t, m, items[i], at[i], at[i+1], at[i+1], false)
			}
			leads(t, m, items[2], at[2], at[3], places[0].At, true)
		}
	}
}

// P3.5

// Of all choices that fit, each item has its least form in one, and that is the one which is told.
func TestLeastOfAllChoices(t *testing.T) {
	r := rand.New(rand.NewPCG(7, 8))
	for n := 0; n < 300; {
		spaces := []uint32{0, 1, 32764, 16380, 32766, 32765}
		if n%2 == 0 {
			spaces = []uint32{0, 32764, 1048570, 524284, 1048572, 1015806}
		}
		items := scattered(r, 2+r.IntN(12), spaces)
		turns := 0
		for _, x := range items {
			if last(x) > 0 {
				turns++
			}
		}
		if turns < 2 || turns > 5 {
			continue
		}
		n++
		forms, e := Forms(items, 0)
		all := choices(items, 0)
		for _, other := range all {
			for i := range items {
				if e != api.OK || forms[i] > other[i] {
					t.Fatalf("%v: Forms = %v, %d, but %v fits", items, forms, e, other)
				}
			}
		}
		if !slices.ContainsFunc(all, func(other []int) bool { return slices.Equal(other, forms) }) {
			t.Fatalf("%v: %v does not fit", items, forms)
		}
	}
}

// If one form is decreased, something no longer fits.
func TestNoneIsTooGreat(t *testing.T) {
	r := rand.New(rand.NewPCG(9, 10))
	decreased := 0
	for range 100 {
		items := scattered(r, 20+r.IntN(60), []uint32{0, 1, 32740, 16370, 10920, 200000})
		forms, e := Forms(items, 0)
		if e != api.OK {
			t.Fatal(e)
		}
		if wrong := (model{items, 0, forms}).misfits(); len(wrong) != 0 {
			t.Fatalf("%v do not fit", wrong)
		}
		for i := range items {
			if forms[i] < 2 {
				continue
			}
			decreased++
			less := slices.Clone(forms)
			less[i]--
			if wrong := (model{items, 0, less}).misfits(); len(wrong) == 0 {
				t.Fatalf("item %d fits in the form %d", i, less[i])
			}
		}
	}
	if decreased < 100 {
		t.Errorf("only %d forms were tried", decreased)
	}
}

// P3.6

func TestArgumentsAndResults(t *testing.T) {
	make0 := func() []api.Item {
		return []api.Item{branch(opBeq, 1, 2, "b"), label("a"), jump(3, "a"), space(40000), label("b"), addr(4, "b", 5), ref("a", 6), word(7)}
	}
	room := append(make0(), word(8), word(9)) // an append to the argument would be seen behind its end
	items := room[:len(room)-2]
	words, places, e := Assemble(items, 11)
	forms, f := Forms(items, 11)
	if e != api.OK || f != api.OK || !slices.Equal(room, append(make0(), word(8), word(9))) {
		t.Fatalf("%d, %d; the items are now %v", e, f, room)
	}
	words2, places2, forms2 := slices.Clone(words), slices.Clone(places), slices.Clone(forms)
	again, placesAgain, _ := Assemble(items, 11)
	formsAgain, _ := Forms(items, 11)
	clear(items)
	clear(again[:cap(again)])
	clear(placesAgain[:cap(placesAgain)])
	clear(formsAgain[:cap(formsAgain)])
	if !slices.Equal(words, words2) || !slices.Equal(places, places2) || !slices.Equal(forms, forms2) {
		t.Error("a result hangs on the items, or on another result")
	}
	third, _, e := Assemble(make0(), 11)
	if e != api.OK || !slices.Equal(third, words2) {
		t.Errorf("the same items are assembled to other words: %d", e)
	}
}

// Whatever the items are, each call ends with an error that is listed, and both tell the same one.
func TestNoPanic(t *testing.T) {
	r := rand.New(rand.NewPCG(11, 12))
	numbers := []int{math.MinInt, -1 << 32, -1, 0, 1, 2, 5, 15, 26, 27, 31, 32, 33, 36, 37, 1 << 16, 1 << 26, 1<<26 + 1, 1 << 32, math.MaxInt}
	number := func() int { return numbers[r.IntN(len(numbers))] }
	for range 20000 {
		var items []api.Item
		for range r.IntN(6) {
			x := api.Item{
				Kind:  1 + r.IntN(8),
				Inst:  api.Inst{Op: 26 + r.IntN(6), D: r.IntN(32), A: r.IntN(32), B: r.IntN(32)},
				Label: []string{"", "a", "b"}[r.IntN(3)],
				Word:  []uint32{0, 1, 40000, 1 << 21, 1 << 26, 1 << 31, 1<<32 - 1}[r.IntN(3+r.IntN(5))],
			}
			for _, field := range []*int{&x.Kind, &x.Inst.Op, &x.Inst.D, &x.Inst.A, &x.Inst.B, &x.Inst.Imm} {
				if r.IntN(30) == 0 {
					*field = number()
				}
			}
			items = append(items, x)
		}
		base := r.IntN(1000)
		if r.IntN(10) == 0 {
			base = number()
		}
		forms, e := Forms(items, base)
		switch e {
		case api.ErrArg, api.ErrLong, api.ErrForm, api.ErrInst, api.ErrLabel, api.ErrTwice:
			refused(t, fmt.Sprint(items, base), items, base, e)
		case api.OK:
			if end := (model{items, base, forms}).addresses()[len(items)]; end < base+1<<22 {
				assembled(t, items, base, grown(items, base))
			}
		default:
			t.Fatalf("%v at %d: %d", items, base, e)
		}
	}
	for _, n := range numbers {
		Turned(n)
	}
}
