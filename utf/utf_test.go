package utf

import (
	"bytes"
	"fmt"
	"math"
	"math/rand/v2"
	"slices"
	"testing"

	"pennant/api"
)

// The numbers of the chapter, written out so that nothing here leans on the package.
const (
	maxChar       = 0x10FFFF
	firstExcluded = 0xD800
	lastExcluded  = 0xDFFF
)

// isChar is the chapter's words on which numbers are chars.
func isChar(c int) bool {
	return c >= 0 && c <= maxChar && !(c >= firstExcluded && c <= lastExcluded)
}

// bytesOf is the bytes of a char, as the chapter's section 'Definitions' tells them.
func bytesOf(c int) string {
	low := func(shift int) byte { return byte(0x80 + c>>shift%64) }
	switch {
	case c < 0x80:
		return string([]byte{byte(c)})
	case c < 0x800:
		return string([]byte{byte(0xC0 + c>>6), low(0)})
	case c < 0x10000:
		return string([]byte{byte(0xE0 + c>>12), low(6), low(0)})
	}
	return string([]byte{byte(0xF0 + c>>18), low(12), low(6), low(0)})
}

// table is all chars by their bytes.
func table() map[string]int {
	m := map[string]int{}
	for c := 0; c <= maxChar; c++ {
		if isChar(c) {
			m[bytesOf(c)] = c
		}
	}
	return m
}

var charOf = table()

// get is what Get promises, looked up in the table of all chars.
func get(b []byte, at int) (c, size int, e api.Errno) {
	if at < 0 || at >= len(b) {
		return 0, 0, api.ErrArg
	}
	for size := 1; size <= 4 && at+size <= len(b); size++ {
		if c, found := charOf[string(b[at:at+size])]; found {
			return c, size, api.OK
		}
	}
	return 0, 0, api.ErrForm
}

// all is what All promises, by get.
func all(b []byte) ([]Char, api.Fault) {
	var l []Char
	for at := 0; at < len(b); {
		c, size, e := get(b, at)
		if e != api.OK {
			return nil, api.Fault{Err: e, Pos: at}
		}
		l = append(l, Char{c, at})
		at += size
	}
	return l, api.Fault{}
}

// edges is the chars and other numbers at the borders of the definition, and those just outside.
func edges() []int {
	l := []int{0x41, 0xE9, 0x20AC, 0x1F600, 0xFEFF, 0xFFFC, 0xFFFD, 0xFFFE, 0xFFFF}
	for _, c := range []int{0, 0x80, 0x800, 0x1000, 0x10000, 0x40000, 0x100000, firstExcluded, lastExcluded + 1, maxChar + 1} {
		l = append(l, c-1, c, c+1)
	}
	return l
}

// far is numbers that are no chars, some of which would be if only their lowest 8, 16, 21 or 32 bits counted.
func far() []int {
	return []int{math.MinInt, math.MinInt32, -1 << 21, -65, -1, maxChar + 1, 1 << 21, 1<<21 + 65, math.MaxInt32, 1 << 32, 1<<32 + 65, 1<<62 + 65, math.MaxInt - 1, math.MaxInt}
}

// checkGet holds Get against get, at this offset.
func checkGet(t *testing.T, b []byte, at int) {
	t.Helper()
	c, size, e := Get(b, at)
	if c2, size2, e2 := get(b, at); c != c2 || size != size2 || e != e2 {
		t.Fatalf("Get(% x, %d) = %x %d %d, asked %x %d %d", b, at, c, size, e, c2, size2, e2)
	}
}

// checkAll holds All and Codes against all.
func checkAll(t *testing.T, b []byte) {
	t.Helper()
	want, fault := all(b)
	l, f := All(b)
	if !slices.Equal(l, want) || f != fault {
		t.Fatalf("All(% x) = %v %v, asked %v %v", b, l, f, want, fault)
	}
	codes, e := Codes(string(b))
	if e != fault.Err || len(codes) != len(want) {
		t.Fatalf("Codes(% x) = %x %d, asked %v %d", b, codes, e, want, fault.Err)
	}
	for i, c := range codes {
		if c != want[i].Code {
			t.Fatalf("Codes(% x) = %x, asked %v", b, codes, want)
		}
	}
}

// P6.1

func TestIs(t *testing.T) {
	for c := -0x20000; c < 0x220000; c++ {
		if Is(c) != isChar(c) {
			t.Fatalf("Is(%x) = %v", c, Is(c))
		}
	}
	for _, c := range far() {
		if Is(c) {
			t.Errorf("Is(%x)", c)
		}
	}
	for c, want := range map[int]bool{-1: false, 0: true, 0xD7FF: true, 0xD800: false, 0xDFFF: false, 0xE000: true, 0xFFFD: true, 0x10FFFF: true, 0x110000: false} {
		if Is(c) != want {
			t.Errorf("Is(%x) = %v", c, !want)
		}
	}
}

// TestPut holds Put against bytes that are worked out by hand.
func TestPut(t *testing.T) {
	for _, x := range []struct {
		c    int
		want string
	}{
		{0x41, "\x41"}, {0xE9, "\xC3\xA9"}, {0x20AC, "\xE2\x82\xAC"}, {0x1F600, "\xF0\x9F\x98\x80"},
		{0, "\x00"}, {0x7F, "\x7F"}, {0x80, "\xC2\x80"}, {0x7FF, "\xDF\xBF"},
		{0x800, "\xE0\xA0\x80"}, {0xD7FF, "\xED\x9F\xBF"}, {0xE000, "\xEE\x80\x80"},
		{0xFFFD, "\xEF\xBF\xBD"}, {0xFFFF, "\xEF\xBF\xBF"},
		{0x10000, "\xF0\x90\x80\x80"}, {0x10FFFF, "\xF4\x8F\xBF\xBF"},
	} {
		if s, e := Put(x.c); s != x.want || e != api.OK {
			t.Errorf("Put(%x) = % x %d, asked % x", x.c, s, e, x.want)
		}
	}
}

func TestPutOfNoChar(t *testing.T) {
	for _, c := range append(far(), 0xD800, 0xD801, 0xDBFF, 0xDC00, 0xDFFE, 0xDFFF) {
		if s, e := Put(c); s != "" || e != api.ErrArg {
			t.Errorf("Put(%x) = % x %d", c, s, e)
		}
	}
	for c := firstExcluded; c <= lastExcluded; c++ {
		if s, e := Put(c); s != "" || e != api.ErrArg {
			t.Fatalf("Put(%x) = % x %d", c, s, e)
		}
	}
}

// TestGet holds Get against what the chapter and the definition ask, by hand.
func TestGet(t *testing.T) {
	for _, x := range []struct {
		b           string
		at, c, size int
		e           api.Errno
	}{
		{"\xC3\xA9\x41", 0, 0xE9, 2, api.OK},
		{"\xC3\xA9\x41", 1, 0, 0, api.ErrForm},
		{"\xC3\xA9\x41", 2, 0x41, 1, api.OK},
		{"\xC3\xA9\x41", 3, 0, 0, api.ErrArg},
		{"\xC3\xA9\x41", 4, 0, 0, api.ErrArg},
		{"\xC3\xA9\x41", -1, 0, 0, api.ErrArg},
		{"\xC3\xA9\x41", math.MaxInt, 0, 0, api.ErrArg},
		{"\xC3\xA9\x41", math.MaxInt - 1, 0, 0, api.ErrArg},
		{"\xC3\xA9\x41", math.MinInt, 0, 0, api.ErrArg},
		{"", 0, 0, 0, api.ErrArg},
		{"", -1, 0, 0, api.ErrArg},
		{"", 1, 0, 0, api.ErrArg},
		{"\x00", 0, 0, 1, api.OK},
		{"\xC0\x80", 0, 0, 0, api.ErrForm},             // 0 in two bytes
		{"\xC1\xBF", 0, 0, 0, api.ErrForm},             // 7F in two
		{"\xE0\x9F\xBF", 0, 0, 0, api.ErrForm},         // 7FF in three
		{"\xF0\x8F\xBF\xBF", 0, 0, 0, api.ErrForm},     // FFFF in four
		{"\xF8\x88\x80\x80\x80", 0, 0, 0, api.ErrForm}, // five bytes
		{"\xED\xA0\x80", 0, 0, 0, api.ErrForm},         // D800
		{"\xED\xBF\xBF", 0, 0, 0, api.ErrForm},         // DFFF
		{"\xF4\x90\x80\x80", 0, 0, 0, api.ErrForm},     // 110000
		{"\xF7\xBF\xBF\xBF", 0, 0, 0, api.ErrForm},     // 1FFFFF
		{"\xE2\x82", 0, 0, 0, api.ErrForm},             // the end within a char
		{"\xE2", 0, 0, 0, api.ErrForm},
		{"\xC3", 0, 0, 0, api.ErrForm},
		{"\xF0\x9F\x98", 0, 0, 0, api.ErrForm},
		{"\xE2\x82\x41", 0, 0, 0, api.ErrForm}, // another char within
		{"\xC3\x41", 0, 0, 0, api.ErrForm},
		{"\xC3\xC3\xA9", 0, 0, 0, api.ErrForm},
		{"\xC3\xC3\xA9", 1, 0xE9, 2, api.OK},
		{"\x80", 0, 0, 0, api.ErrForm}, // what stands within a char only
		{"\xBF\x41", 0, 0, 0, api.ErrForm},
		{"\xFE", 0, 0, 0, api.ErrForm},
		{"\xFF", 0, 0, 0, api.ErrForm},
		{"\xEF\xBF\xBD", 0, 0xFFFD, 3, api.OK},
		{"\xEF\xBF\xBD", 1, 0, 0, api.ErrForm},
		{"\xEF\xBF", 0, 0, 0, api.ErrForm},
		{"\xEF\xBF\xBD\xFF", 3, 0, 0, api.ErrForm},
		{"\xFF\xEF\xBF\xBD", 0, 0, 0, api.ErrForm},
		{"\xFF\xEF\xBF\xBD", 1, 0xFFFD, 3, api.OK},
	} {
		if c, size, e := Get([]byte(x.b), x.at); c != x.c || size != x.size || e != x.e {
			t.Errorf("Get(% x, %d) = %x %d %d, asked %x %d %d", x.b, x.at, c, size, e, x.c, x.size, x.e)
		}
	}
}

// TestGetOfManyBytes holds Get against the table of all chars, for all beginnings of two bytes, and bytes behind them at the borders.
func TestGetOfManyBytes(t *testing.T) {
	third := []byte{0x41, 0x7F, 0x80, 0xBF, 0xC0}
	for first := range 256 {
		checkGet(t, []byte{byte(first)}, 0)
		for second := range 256 {
			checkGet(t, []byte{byte(first), byte(second)}, 0)
			for _, x := range third {
				checkGet(t, []byte{byte(first), byte(second), x}, 0)
				for _, y := range third {
					checkGet(t, []byte{byte(first), byte(second), x, y}, 0)
				}
			}
		}
	}
}

// TestGetLooksNoFurther: what stands ahead of the offset, or in the memory behind the bytes, counts for nothing.
func TestGetLooksNoFurther(t *testing.T) {
	whole := []byte("\xF0\x9F\x98\x80\xE2\x82\xAC\xC3\xA9")
	for end := range whole {
		for at := -1; at <= end+1; at++ {
			checkGet(t, whole[:end], at)
			checkAll(t, whole[:end])
		}
	}
}

// P6.2

func TestAll(t *testing.T) {
	for _, x := range []struct {
		b     string
		want  []Char
		fault api.Fault
	}{
		{"", nil, api.Fault{}},
		{"A", []Char{{0x41, 0}}, api.Fault{}},
		{"\x00", []Char{{0, 0}}, api.Fault{}},
		{"A\xC3\xA9\xE2\x82\xAC\xF0\x9F\x98\x80z", []Char{{0x41, 0}, {0xE9, 1}, {0x20AC, 3}, {0x1F600, 6}, {0x7A, 10}}, api.Fault{}},
		{"\xEF\xBF\xBD\xEF\xBF\xBDA", []Char{{0xFFFD, 0}, {0xFFFD, 3}, {0x41, 6}}, api.Fault{}},
		{"A\xFF", nil, api.Fault{Err: api.ErrForm, Pos: 1}},
		{"\xFF", nil, api.Fault{Err: api.ErrForm, Pos: 0}},
		{"\x80A", nil, api.Fault{Err: api.ErrForm, Pos: 0}},
		{"A\xC3\xA9\xE2\x82\xAC\xF0\x9F\x98\x80\xE2\x82", nil, api.Fault{Err: api.ErrForm, Pos: 10}},
		{"\xF0\x9F\x98\x80\xF0\x9F\x98", nil, api.Fault{Err: api.ErrForm, Pos: 4}},
		{"\xEF\xBF\xBD\xFF\xEF\xBF\xBD\xFF", nil, api.Fault{Err: api.ErrForm, Pos: 3}},
		{"\xC3\xA9\xA9A", nil, api.Fault{Err: api.ErrForm, Pos: 2}},
		{"AB\xED\xA0\x80\xFF", nil, api.Fault{Err: api.ErrForm, Pos: 2}},
		{"\xC3\xA9\xF4\x90\x80\x80", nil, api.Fault{Err: api.ErrForm, Pos: 2}},
		{"\xC3\xA9\xC0\x80", nil, api.Fault{Err: api.ErrForm, Pos: 2}},
	} {
		l, f := All([]byte(x.b))
		if !slices.Equal(l, x.want) || f != x.fault {
			t.Errorf("All(% x) = %v %v, asked %v %v", x.b, l, f, x.want, x.fault)
		}
		checkAll(t, []byte(x.b))
	}
}

func TestCodes(t *testing.T) {
	for _, x := range []struct {
		s    string
		want []int
		e    api.Errno
	}{
		{"", nil, api.OK},
		{"A\xC3\xA9\xE2\x82\xAC\xF0\x9F\x98\x80", []int{0x41, 0xE9, 0x20AC, 0x1F600}, api.OK},
		{"\xEF\xBF\xBD", []int{0xFFFD}, api.OK},
		{"\xFF", nil, api.ErrForm},
		{"\xEF\xBF\xBD\xFF", nil, api.ErrForm},
		{"AAAA\xC3", nil, api.ErrForm},
		{"\xED\xB0\x80", nil, api.ErrForm},
	} {
		if l, e := Codes(x.s); !slices.Equal(l, x.want) || e != x.e {
			t.Errorf("Codes(% x) = %x %d, asked %x %d", x.s, l, e, x.want, x.e)
		}
	}
}

func TestText(t *testing.T) {
	for _, x := range []struct {
		l    []int
		want string
		e    api.Errno
	}{
		{nil, "", api.OK},
		{[]int{}, "", api.OK},
		{[]int{0}, "\x00", api.OK},
		{[]int{0x41, 0xE9, 0x20AC, 0x1F600, 0xFFFD}, "A\xC3\xA9\xE2\x82\xAC\xF0\x9F\x98\x80\xEF\xBF\xBD", api.OK},
		{[]int{0xD800}, "", api.ErrArg},
		{[]int{0x41, 0xDFFF}, "", api.ErrArg},
		{[]int{0xD83D, 0xDE00}, "", api.ErrArg},
		{[]int{-1, 0x41}, "", api.ErrArg},
		{[]int{0x41, 0x110000, 0x41}, "", api.ErrArg},
		{[]int{0x41, 1<<32 + 0x41}, "", api.ErrArg},
	} {
		if s, e := Text(x.l); s != x.want || e != x.e {
			t.Errorf("Text(%x) = % x %d, asked % x %d", x.l, s, e, x.want, x.e)
		}
	}
	for _, c := range far() {
		if s, e := Text([]int{65, c}); s != "" || e != api.ErrArg {
			t.Errorf("Text of 65 and %x = % x %d", c, s, e)
		}
	}
}

// TestAllOfRandomBytes holds All, Codes and Get against the table, for chars with some bytes spoilt.
func TestAllOfRandomBytes(t *testing.T) {
	rnd := rand.New(rand.NewPCG(6, 2))
	for range 20000 {
		b := []byte(text(randomChars(rnd, rnd.IntN(8))))
		for n := rnd.IntN(3); n > 0 && len(b) > 0; n-- {
			b = spoil(rnd, b)
		}
		checkAll(t, b)
		for at := -1; at <= len(b)+1; at++ {
			checkGet(t, b, at)
		}
	}
}

// spoil changes, takes away or puts in one byte.
func spoil(rnd *rand.Rand, b []byte) []byte {
	at := rnd.IntN(len(b))
	switch rnd.IntN(3) {
	case 0:
		b[at] = byte(rnd.IntN(256))
		return b
	case 1:
		return slices.Delete(b, at, at+1)
	}
	return slices.Insert(b, at, byte(rnd.IntN(256)))
}

// randomChars is chars of all numbers of bytes, those at the borders often.
func randomChars(rnd *rand.Rand, n int) []int {
	border := edges()
	var l []int
	for len(l) < n {
		c := rnd.IntN(1 << (1 + rnd.IntN(21)))
		if rnd.IntN(3) == 0 {
			c = border[rnd.IntN(len(border))]
		}
		if isChar(c) {
			l = append(l, c)
		}
	}
	return l
}

// text is the bytes of chars, by the definition.
func text(l []int) string {
	var b []byte
	for _, c := range l {
		b = append(b, bytesOf(c)...)
	}
	return string(b)
}

// TestTextOfRandomChars: Text is as the definition says, and Codes and All turn it back.
func TestTextOfRandomChars(t *testing.T) {
	rnd := rand.New(rand.NewPCG(6, 20))
	for range 5000 {
		l := randomChars(rnd, rnd.IntN(20))
		s, e := Text(l)
		if s != text(l) || e != api.OK {
			t.Fatalf("Text(%x) = % x %d", l, s, e)
		}
		if back, e := Codes(s); !slices.Equal(back, l) || e != api.OK {
			t.Fatalf("Codes of Text(%x) = %x %d", l, back, e)
		}
		checkAll(t, []byte(s))
		if len(l) > 0 {
			l[rnd.IntN(len(l))] = far()[rnd.IntN(len(far()))]
			if s, e := Text(l); s != "" || e != api.ErrArg {
				t.Fatalf("Text(%x) = % x %d", l, s, e)
			}
		}
	}
}

// TestLongTexts: the first offset at which there is no char is found behind a million of them, too.
func TestLongTexts(t *testing.T) {
	l := slices.Repeat([]int{0x41, 0xE9, 0x20AC, 0x1F600, 0xFFFD}, 200000)
	s, e := Text(l)
	if len(s) != 13*200000 || e != api.OK {
		t.Fatalf("Text: %d bytes, %d", len(s), e)
	}
	checkAll(t, []byte(s))
	if chars, f := All([]byte(s + "\xE2\x82")); len(chars) != 0 || f != (api.Fault{Err: api.ErrForm, Pos: len(s)}) {
		t.Errorf("All: %d chars, %v", len(chars), f)
	}
	if codes, e := Codes(s + "\xFF"); len(codes) != 0 || e != api.ErrForm {
		t.Errorf("Codes: %d chars, %d", len(codes), e)
	}
}

// P6.3

// TestEachChar: Put, Get and the definition agree on every char, whatever follows it.
func TestEachChar(t *testing.T) {
	behind := []string{"", "A", "\x80", "\xBF\xBF\xBF", "\xC3", "\xE2\x82\xAC", "\xFF"}
	for c := 0; c <= maxChar; c++ {
		if !isChar(c) {
			continue
		}
		s, e := Put(c)
		if s != bytesOf(c) || e != api.OK {
			t.Fatalf("Put(%x) = % x %d", c, s, e)
		}
		x := behind[c%len(behind)]
		if c2, size, e := Get([]byte("\xE2"+s+x), 1); c2 != c || size != len(s) || e != api.OK {
			t.Fatalf("Get(% x, 1) = %x %d %d", "\xE2"+s+x, c2, size, e)
		}
	}
	for _, c := range edges() {
		for _, x := range behind {
			if s, e := Put(c); e == api.OK {
				if c2, size, e := Get([]byte(s+x), 0); c2 != c || size != len(s) || e != api.OK {
					t.Errorf("Get(% x, 0) = %x %d %d", s+x, c2, size, e)
				}
			}
		}
	}
}

// TestNoPrefixes: the bytes of different chars differ, and none is a prefix of another one's.
func TestNoPrefixes(t *testing.T) {
	seen := map[string]int{}
	for c := 0; c <= maxChar; c++ {
		s, e := Put(c)
		if e != api.OK {
			continue
		}
		if other, found := seen[s]; found {
			t.Fatalf("Put(%x) and Put(%x) are both % x", c, other, s)
		}
		seen[s] = c
	}
	for s, c := range seen {
		for n := 1; n < len(s); n++ {
			if other, found := seen[s[:n]]; found {
				t.Fatalf("Put(%x) begins with Put(%x)", c, other)
			}
		}
	}
	if len(seen) != 0x110000-0x800 {
		t.Errorf("%d chars", len(seen))
	}
}

// TestPutOfGet: whatever bytes Get takes for a char, Put gives exactly those back.
func TestPutOfGet(t *testing.T) {
	rnd := rand.New(rand.NewPCG(6, 3))
	for range 300000 {
		b := []byte{byte(0xC0 + rnd.IntN(64)), byte(0x78 + rnd.IntN(80)), byte(0x78 + rnd.IntN(80)), byte(0x78 + rnd.IntN(80))}
		for at := range b {
			c, size, e := Get(b, at)
			if e != api.OK {
				continue
			}
			if s, e := Put(c); s != string(b[at:at+size]) || e != api.OK {
				t.Fatalf("Get(% x, %d) = %x %d, Put = % x %d", b, at, c, size, s, e)
			}
		}
	}
}

// The rules that hold everywhere

// TestArgumentsStay: no argument is changed, not even behind its end, and none is kept.
func TestArgumentsStay(t *testing.T) {
	for _, s := range []string{"", "A\xC3\xA9\xEF\xBF\xBD", "A\xFF"} {
		memory := append([]byte(s), "\x80\x81\x82\x83"...)
		before := bytes.Clone(memory)
		b := memory[:len(s)]
		want, fault := all(b)
		l, f := All(b)
		for at := -1; at <= len(b); at++ {
			Get(b, at)
		}
		if !bytes.Equal(memory, before) {
			t.Fatalf("% x has become % x", before, memory)
		}
		clear(memory)
		if !slices.Equal(l, want) || f != fault {
			t.Errorf("All(% x) has become %v %v", s, l, f)
		}
	}
	memory := []int{0x41, 0xE9, 0xFFFD, 1, 2, 3}
	s, _ := Text(memory[:3])
	if !slices.Equal(memory, []int{0x41, 0xE9, 0xFFFD, 1, 2, 3}) {
		t.Errorf("Text changed its argument: %x", memory)
	}
	clear(memory)
	if s != "A\xC3\xA9\xEF\xBF\xBD" {
		t.Errorf("Text has become % x", s)
	}
}

// TestResultsAreNew: what is done with a result shows in no other one.
func TestResultsAreNew(t *testing.T) {
	b := []byte("A\xC3\xA9")
	l, _ := All(b)
	l2, _ := All(b)
	clear(l[:cap(l)])
	if !slices.Equal(l2, []Char{{0x41, 0}, {0xE9, 1}}) || string(b) != "A\xC3\xA9" {
		t.Errorf("All: %v, % x", l2, b)
	}
	codes, _ := Codes("A\xC3\xA9")
	codes2, _ := Codes("A\xC3\xA9")
	clear(codes[:cap(codes)])
	if !slices.Equal(codes2, []int{0x41, 0xE9}) {
		t.Errorf("Codes: %x", codes2)
	}
}

// TestNothingPanics: any bytes, offsets and numbers are answered.
func TestNothingPanics(t *testing.T) {
	rnd := rand.New(rand.NewPCG(6, 99))
	for range 20000 {
		b := make([]byte, rnd.IntN(12))
		for i := range b {
			b[i] = byte(rnd.Uint32())
		}
		checkAll(t, b)
		for _, at := range append(far(), rnd.IntN(16)-2) {
			checkGet(t, b, at)
		}
		c := int(rnd.Uint64()) >> rnd.IntN(64)
		if s, e := Put(c); isChar(c) != (e == api.OK) || isChar(c) && s != bytesOf(c) {
			t.Fatalf("Put(%x) = % x %d", c, s, e)
		}
	}
	if l, f := All(nil); len(l) != 0 || f != (api.Fault{}) {
		t.Errorf("All(nil) = %v %v", l, f)
	}
	if c, size, e := Get(nil, 0); c != 0 || size != 0 || e != api.ErrArg {
		t.Errorf("Get(nil, 0) = %x %d %d", c, size, e)
	}
}

func ExampleAll() {
	fmt.Println(All([]byte("A\xC3\xA9")))
	fmt.Println(All([]byte("A\xFF")))
	// Output:
	// [{65 0} {233 1}] {0 0}
	// [] {4 1}
}
