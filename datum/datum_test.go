package datum

import (
	"fmt"
	"math/rand/v2"
	"strings"
	"testing"

	"pennant/api"
)

const (
	errLong   api.Errno = 3
	errForm   api.Errno = 4
	errDepth  api.Errno = 5
	errSyntax api.Errno = 7
)

// Data, to be written shortly; at puts them to an offset.

func nothing() api.Datum            { return api.Datum{Kind: 0} }
func truth(n int) api.Datum         { return api.Datum{Kind: 1, N: n} }
func whole(s string) api.Datum      { return api.Datum{Kind: 2, Text: s} }
func char(c int) api.Datum          { return api.Datum{Kind: 3, N: c} }
func str(s string) api.Datum        { return api.Datum{Kind: 4, Text: s} }
func symbol(s string) api.Datum     { return api.Datum{Kind: 5, Text: s} }
func pair(a, b api.Datum) api.Datum { return api.Datum{Kind: 6, Kids: []api.Datum{a, b}} }
func vector(l ...api.Datum) api.Datum {
	return api.Datum{Kind: 7, Kids: l}
}
func bytevector(s string) api.Datum { return api.Datum{Kind: 8, Text: s} }
func eof() api.Datum                { return api.Datum{Kind: 9} }
func none() api.Datum               { return api.Datum{Kind: 10} }

func at(pos int, d api.Datum) api.Datum {
	d.Pos = pos
	return d
}

// list is data, and the empty list behind them.
func list(l ...api.Datum) api.Datum {
	return dotted(nothing(), l...)
}

// dotted is data, and this end behind them.
func dotted(end api.Datum, l ...api.Datum) api.Datum {
	for i := len(l) - 1; i >= 0; i-- {
		end = pair(l[i], end)
	}
	return end
}

// brief is the beginning of a text, for what is told.
func brief(s string) string {
	if len(s) > 200 {
		return fmt.Sprintf("%q.. (%d bytes)", s[:200], len(s))
	}
	return fmt.Sprintf("%q", s)
}

// mustRead is the data of a source that has no fault.
func mustRead(t *testing.T, src string) []api.Datum {
	t.Helper()
	l, f := Read([]byte(src))
	if f != (api.Fault{}) {
		t.Fatalf("Read(%s): %v", brief(src), f)
	}
	return l
}

// one is the one datum of a source.
func one(t *testing.T, src string) api.Datum {
	t.Helper()
	l := mustRead(t, src)
	if len(l) != 1 {
		t.Fatalf("Read(%s): %d data", brief(src), len(l))
	}
	return l[0]
}

// tells checks that Read of src gives exactly these data, with these offsets, and no fault.
func tells(t *testing.T, src string, want ...api.Datum) {
	t.Helper()
	l, f := Read([]byte(src))
	if toldAll(l) != toldAll(want) || f != (api.Fault{}) {
		t.Errorf("Read(%s) = %s %v, asked %s", brief(src), brief(toldAll(l)), f, brief(toldAll(want)))
	}
}

// fails checks that Read of src gives this fault, and no data.
func fails(t *testing.T, src string, e api.Errno, pos int) {
	t.Helper()
	l, f := Read([]byte(src))
	if len(l) != 0 || f != (api.Fault{Err: e, Pos: pos}) {
		t.Errorf("Read(%s) = %d data %v, asked %d at %d", brief(src), len(l), f, e, pos)
	}
}

// shows checks that the data of src are written so.
func shows(t *testing.T, src string, want ...string) {
	t.Helper()
	l := mustRead(t, src)
	if len(l) != len(want) {
		t.Errorf("Read(%s): %d data, asked %d", brief(src), len(l), len(want))
		return
	}
	for i, d := range l {
		if s := Write(d, false); s != want[i] {
			t.Errorf("Read(%s): datum %d is written %s, asked %s", brief(src), i, brief(s), brief(want[i]))
		}
	}
}

func TestExamples(t *testing.T) {
	shows(t, "(a . (b . (c)))", "(a b c)")
	shows(t, `'(1 . 2) #(x "a\n")`, "(quote (1 . 2))", `#(x "a\n")`)
	shows(t, "#u8(1 255) ()", "#u8(1 255)", "()")
	fails(t, "(a", errSyntax, 0)
	fails(t, "a )", errSyntax, 2)
	fails(t, "(a . b c)", errSyntax, 7)
	fails(t, "(. a)", errSyntax, 1)
	fails(t, "#u8(256)", errSyntax, 4)
	fails(t, "'", errSyntax, 0)
}

// randomly makes data, of which some are not valid if spoilt is above 0: one part in so many.
type randomly struct {
	*rand.Rand
	spoilt int
}

func pick[T any](r randomly, l ...T) T { return l[r.IntN(len(l))] }

// datum is a datum of at most this many levels; each field may be anything that it does not use.
func (r randomly) datum(depth int) api.Datum {
	if r.spoilt > 0 && r.IntN(r.spoilt) == 0 {
		return r.wrong(depth)
	}
	kinds := 11
	if depth > 0 {
		kinds += 10
	}
	d := api.Datum{Kind: r.IntN(kinds), Pos: r.IntN(9)}
	if d.Kind > 10 {
		d.Kind = pick(r, api.DPair, api.DPair, api.DVector)
	}
	switch d.Kind {
	case api.DBool:
		d.N = r.IntN(2)
	case api.DInt:
		d.Text = pick(r, "0", "7", "-1", "10", "-100", "255", "256", "12345678901234567890123")
	case api.DChar:
		d.N = pick[int](r, 0, 9, 10, 31, 32, 'a', 'x', '"', '\\', '(', ';', 126, 127, 128, 0xE9, 0x20AC, 0xD7FF, 0xE000, 0xFFFD, 0x1F600, 0x10FFFF)
	case api.DString:
		d.Text = pick(r, "", "a", "a b", "\"", "\\", "\n\t", "\x00\x1F\x7F", "\\n", "x41;", "\u00e9\u20ac\ufffd\U0001f600", "();'#|", "\u0080")
	case api.DSymbol:
		d.Text, d.N = pick(r, "a", "quote", "...", "+", "x->y", "1+"), pick(r, 0, 0, 1, 2)
	case api.DPair:
		if depth == 0 {
			return api.Datum{}
		}
		d.Kids = []api.Datum{r.datum(depth - 1), r.datum(depth - 1)}
		for r.IntN(3) > 0 {
			d = api.Datum{Kind: api.DPair, Kids: []api.Datum{r.datum(depth - 1), d}, Pos: r.IntN(9)}
		}
	case api.DVector:
		for depth > 0 && r.IntN(3) > 0 {
			d.Kids = append(d.Kids, r.datum(depth-1))
		}
	case api.DBytes:
		d.Text = pick(r, "", "a", "\x00\xFF\x80", "\x01\x02")
	}
	return d
}

// wrong is a datum that is not valid, or nearly not.
func (r randomly) wrong(depth int) api.Datum {
	d := api.Datum{
		Kind: r.IntN(14) - 1,
		N:    pick(r, -1, 0, 1, 2, 0xD800, 0xDFFF, 0x110000),
		Text: pick(r, "", "0", "-0", "+1", "-", "01", "a", "\xFF", "\xED\xA0\x80", "-01", "1a"),
	}
	for depth > 0 && len(d.Kids) < 4 && r.IntN(2) == 0 {
		d.Kids = append(d.Kids, r.datum(depth-1))
	}
	return d
}

// plain is a datum as lex and Read would answer it, apart from the offsets: its fields that say nothing are zero, and it has no alias.
func plain(d api.Datum) api.Datum {
	p := api.Datum{Kind: d.Kind}
	switch d.Kind {
	case api.DBool, api.DChar:
		p.N = d.N
	case api.DInt, api.DString, api.DSymbol, api.DBytes:
		p.Text = d.Text
	}
	for _, kid := range d.Kids {
		p.Kids = append(p.Kids, plain(kid))
	}
	return p
}

// readable reports whether there are tokens for all parts of d.
func readable(d api.Datum) bool {
	for _, kid := range d.Kids {
		if !readable(kid) {
			return false
		}
	}
	return d.Kind != api.DEof && d.Kind != api.DNone
}

// nested is n times the text open, a middle, and n times the text shut.
func nested(n int, open, middle, shut string) string {
	return strings.Repeat(open, n) + middle + strings.Repeat(shut, n)
}
