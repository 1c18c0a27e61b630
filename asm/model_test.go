package asm

import (
	"slices"
	"testing"

	"pennant/api"
)

// The chapter's numbers, written out so that nothing here leans on the package or on package isa.
const (
	opBeq, opBne, opBlt, opBge, opBltu, opBgeu = 26, 27, 28, 29, 30, 31
	opOri, opLui, opJal, opJalr                = 17, 23, 32, 33
	maxImage                                   = 67108864
)

func label(name string) api.Item { return api.Item{Kind: 2, Label: name} }
func word(w uint32) api.Item     { return api.Item{Kind: 6, Word: w} }
func space(n uint32) api.Item    { return api.Item{Kind: 8, Word: n} }
func inst(x api.Inst) api.Item   { return api.Item{Kind: 1, Inst: x} }
func jump(d int, l string) api.Item {
	return api.Item{Kind: 4, Inst: api.Inst{D: d}, Label: l}
}
func branch(op, a, b int, l string) api.Item {
	return api.Item{Kind: 3, Inst: api.Inst{Op: op, A: a, B: b}, Label: l}
}
func addr(d int, l string, w uint32) api.Item {
	return api.Item{Kind: 5, Inst: api.Inst{D: d}, Label: l, Word: w}
}
func ref(l string, w uint32) api.Item { return api.Item{Kind: 7, Label: l, Word: w} }

// model is an assembler that is told the forms: slow, put together from digits.
type model struct {
	items []api.Item
	base  int
	forms []int
}

// length is how many words item i has.
func (m model) length(i int) int {
	x := m.items[i]
	switch x.Kind {
	case 2:
		return 0
	case 3:
		return []int{0, 1, 2, 4}[m.forms[i]]
	case 4:
		return []int{0, 1, 3}[m.forms[i]]
	case 5:
		return 2
	case 8:
		return int(x.Word)
	}
	return 1
}

// addresses are those of all items, and of the end.
func (m model) addresses() []int {
	at := []int{m.base}
	for i := range m.items {
		at = append(at, at[i]+m.length(i))
	}
	return at
}

// labels is the address of each label.
func (m model) labels() map[string]int {
	at, out := m.addresses(), map[string]int{}
	for i, x := range m.items {
		if x.Kind == 2 {
			out[x.Label] = at[i]
		}
	}
	return out
}

// misfits are the branches and jumps whose forms do not fit.
func (m model) misfits() []int {
	at, labels := m.addresses(), m.labels()
	var out []int
	for i, x := range m.items {
		low, high := 0, 0
		switch {
		case x.Kind == 3 && m.forms[i] == 1:
			low, high = -32768, 32767
		case x.Kind == 3 && m.forms[i] == 2, x.Kind == 4 && m.forms[i] == 1:
			low, high = -1048576, 1048575
		default:
			continue
		}
		if d := labels[x.Label] - at[i+1]; d < low || d > high {
			out = append(out, i)
		}
	}
	return out
}

// last is the greatest form of an item.
func last(x api.Item) int {
	switch x.Kind {
	case 3:
		return 3
	case 4:
		return 2
	}
	return 0
}

// grown are the forms that are found by letting one that does not fit grow at a time.
func grown(items []api.Item, base int) []int {
	m := model{items, base, make([]int, len(items))}
	for i, x := range items {
		m.forms[i] = min(1, last(x))
	}
	for {
		wrong := m.misfits()
		if len(wrong) == 0 {
			return m.forms
		}
		m.forms[wrong[0]]++
	}
}

// choices are all forms that fit, found by trying every one.
func choices(items []api.Item, base int) [][]int {
	all := [][]int{{}}
	for _, x := range items {
		var next [][]int
		for _, forms := range all {
			for f := min(1, last(x)); f <= last(x); f++ {
				next = append(next, append(slices.Clone(forms), f))
			}
		}
		all = next
	}
	return slices.DeleteFunc(all, func(forms []int) bool { return len(model{items, base, forms}.misfits()) > 0 })
}

// fields is a word of an instruction, from its highest bits on: numbers, and how many bits each has.
func fields(pairs ...int) uint32 {
	v := 0
	for i := 0; i < len(pairs); i += 2 {
		v = v<<pairs[i+1] | pairs[i]&(1<<pairs[i+1]-1)
	}
	return uint32(v)
}

func luiWord(d, imm int) uint32 { return fields(opLui, 6, d, 5, 0, 5, imm, 16) }
func oriWord(d, imm int) uint32 { return fields(opOri, 6, d, 5, d, 5, imm, 16) }
func jalWord(d, imm int) uint32 { return fields(opJal, 6, d, 5, imm, 21) }
func jalrWord(d, a int) uint32  { return fields(opJalr, 6, d, 5, a, 5, 0, 16) }
func loads(d, v int) []uint32   { return []uint32{luiWord(d, v>>16&65535), oriWord(d, v&65535)} }
func branchWord(op, a, b, imm int) uint32 {
	return fields(op, 6, a, 5, b, 5, imm, 16)
}

// inverse is the chapter's list of inverses.
func inverse(op int) int {
	switch op {
	case 26, 28, 30:
		return op + 1
	case 27, 29, 31:
		return op - 1
	}
	return 0
}

// words are those of item i.
func (m model) words(i int) []uint32 {
	x, y := m.items[i], m.items[i].Inst
	to := m.labels()[x.Label]
	near := to - m.addresses()[i+1]
	switch x.Kind*10 + m.forms[i] {
	case 10:
		return []uint32{anyWord(y)}
	case 31:
		return []uint32{branchWord(y.Op, y.A, y.B, near)}
	case 32:
		return []uint32{branchWord(inverse(y.Op), y.A, y.B, 1), jalWord(0, near)}
	case 33:
		return append(append([]uint32{branchWord(inverse(y.Op), y.A, y.B, 3)}, loads(25, to)...), jalrWord(0, 25))
	case 41:
		return []uint32{jalWord(y.D, near)}
	case 42:
		return append(loads(25, to), jalrWord(y.D, 25))
	case 50:
		return loads(y.D, (to+int(x.Word))%(1<<32))
	case 60:
		return []uint32{x.Word}
	case 70:
		return []uint32{uint32((to*4 + int(x.Word)) % (1 << 32))}
	case 80:
		return make([]uint32, x.Word)
	}
	return nil
}

// anyWord is the word of an instruction of the kinds that the tests use: three registers, two and an Imm, or one to halt with.
func anyWord(x api.Inst) uint32 {
	switch {
	case x.Op <= 14:
		return fields(x.Op, 6, x.D, 5, x.A, 5, x.B, 5, 0, 11)
	case x.Op == 36:
		return fields(x.Op, 6, x.A, 5, 0, 21)
	case x.Op == opJal:
		return jalWord(x.D, x.Imm)
	case x.Op >= 25 && x.Op <= 31:
		return branchWord(x.Op, x.A, x.B, x.Imm)
	}
	return fields(x.Op, 6, x.D, 5, x.A, 5, x.Imm, 16)
}

// image is all words, and the labels in order.
func (m model) image() ([]uint32, []api.Place) {
	var words []uint32
	var places []api.Place
	at := m.addresses()
	for i, x := range m.items {
		words = append(words, m.words(i)...)
		if x.Kind == 2 {
			places = append(places, api.Place{Label: x.Label, At: at[i]})
		}
	}
	return words, places
}

// assembled holds Assemble and Forms of the items against the model with the forms that are wanted.
func assembled(t *testing.T, items []api.Item, base int, forms []int) {
	t.Helper()
	got, e := Forms(items, base)
	if e != api.OK || !slices.Equal(got, forms) {
		t.Fatalf("Forms = %s, %d, not %s", short(got), e, short(forms))
	}
	wantWords, wantPlaces := model{items, base, forms}.image()
	words, places, e := Assemble(items, base)
	if e != api.OK || !slices.Equal(places, wantPlaces) {
		t.Fatalf("Assemble: %d, places %v, not %v", e, places, wantPlaces)
	}
	if len(words) != len(wantWords) {
		t.Fatalf("Assemble: %d words, not %d", len(words), len(wantWords))
	}
	for i, w := range words {
		if w != wantWords[i] {
			t.Fatalf("Assemble: the word %d is %08x, not %08x", i, w, wantWords[i])
		}
	}
}
