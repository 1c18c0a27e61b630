package datum

import (
	"math/rand/v2"
	"slices"
	"strconv"
	"strings"
	"testing"

	"pennant/api"
)

// P8.3

// makes checks that List gives exactly this list.
func makes(t *testing.T, l []api.Datum, end, want api.Datum) {
	t.Helper()
	if d := List(l, end); told(d, true) != told(want, true) {
		t.Errorf("List(%s, %s) = %s, asked %s", brief(toldAll(l)), brief(told(end, true)), brief(told(d, true)), brief(told(want, true)))
	}
}

// takes checks that Items gives exactly these data, and this end.
func takes(t *testing.T, d api.Datum, want []api.Datum, end api.Datum) {
	t.Helper()
	if l, e := Items(d); toldAll(l) != toldAll(want) || told(e, true) != told(end, true) {
		t.Errorf("Items(%s) = %s %s, asked %s %s", brief(told(d, true)), brief(toldAll(l)), brief(told(e, true)), brief(toldAll(want)), brief(told(end, true)))
	}
}

// TestList: the pairs have the offsets of their first Kids, and nothing else; the data and the end stay as they are.
func TestList(t *testing.T) {
	a, b, c := at(3, symbol("a")), at(9, named(symbol("b"), 4, "b")), at(5, list(at(6, char('c'))))
	end := at(20, nothing())
	makes(t, nil, end, end)
	makes(t, []api.Datum{}, end, end)
	makes(t, nil, b, b)
	makes(t, nil, c, c)
	makes(t, []api.Datum{a}, end, at(3, pair(a, end)))
	makes(t, []api.Datum{a, b, c}, end, at(3, pair(a, at(9, pair(b, at(5, pair(c, end)))))))
	makes(t, []api.Datum{c, a}, b, at(5, pair(c, at(3, pair(a, b)))))
	makes(t, []api.Datum{a, b}, c, at(3, pair(a, at(9, pair(b, c)))))
	makes(t, []api.Datum{a}, vector(b), at(3, pair(a, vector(b))))
	makes(t, []api.Datum{symbol("a"), end}, end, pair(symbol("a"), at(20, pair(end, end))))
	makes(t, []api.Datum{at(-7, a)}, at(-8, none()), at(-7, pair(at(-7, a), at(-8, none()))))
	makes(t, []api.Datum{named(c, 8, "x")}, named(c, 9, "y"), at(5, pair(named(c, 8, "x"), named(c, 9, "y"))))
}

// TestItems: the data of the longest list, and what is behind them.
func TestItems(t *testing.T) {
	a, b, c := at(3, symbol("a")), at(9, named(symbol("b"), 4, "b")), at(5, list(at(6, char('c'))))
	for _, d := range append(atoms(), vector(), vector(a, b), b) {
		takes(t, d, nil, d)
		takes(t, pair(a, d), []api.Datum{a}, d)
		takes(t, dotted(d, a, b, c, d), []api.Datum{a, b, c, d}, d)
	}
	takes(t, list(a, b), []api.Datum{a, b}, nothing())
	takes(t, list(c), []api.Datum{c}, nothing())
	takes(t, dotted(c, a, b), []api.Datum{a, b, at(6, char('c'))}, nothing())
	takes(t, dotted(dotted(b, a, a), c, c), []api.Datum{c, c, a, a}, b)
	takes(t, list(nothing(), nothing()), []api.Datum{nothing(), nothing()}, nothing())
	takes(t, named(at(7, pair(a, named(at(8, pair(b, at(9, nothing()))), 1, "x"))), 2, "y"), []api.Datum{a, b}, at(9, nothing()))
	takes(t, list(named(c, 8, "x"), vector(named(c, 9, "y"))), []api.Datum{named(c, 8, "x"), vector(named(c, 9, "y"))}, nothing())
	takes(t, vector(list(a)), nil, vector(list(a)))
}

// TestWrongItems: what is no pair, for lack of Kids or too many, is an end; what is not valid stays as it is.
func TestWrongItems(t *testing.T) {
	a := symbol("a")
	for _, d := range []api.Datum{{Kind: 6}, with(pair(a, a), a), with(pair(a, a), a, a, a), {Kind: -1, Kids: []api.Datum{a, a}}, {Kind: 11, Kids: []api.Datum{a, a}}, {Kind: 0, Kids: []api.Datum{a, a}}, {Kind: 5, Kids: []api.Datum{a, pair(a, a)}}, symbol("\xFF"), truth(7)} {
		takes(t, d, nil, d)
		takes(t, pair(d, d), []api.Datum{d}, d)
		takes(t, dotted(d, a, d), []api.Datum{a, d}, d)
		makes(t, []api.Datum{a, d}, d, pair(a, pair(d, d)))
	}
}

// TestTakenApartAndPutTogether: Items of a List gives back what it was made of, if the end is no pair; List of the Items gives the same list.
func TestTakenApartAndPutTogether(t *testing.T) {
	r := randomly{Rand: rand.New(rand.NewPCG(8, 8)), spoilt: 20}
	for range 20000 {
		var l []api.Datum
		for range r.IntN(5) {
			l = append(l, r.datum(2))
		}
		end := r.datum(2)
		d := List(l, end)
		if !modelSame(d, dotted(end, l...)) {
			t.Fatalf("List(%s, %s) = %s", toldAll(l), told(end, true), told(d, true))
		}
		items, last := Items(d)
		endItems, endLast := Items(end)
		if toldAll(items) != toldAll(l)+toldAll(endItems) || told(last, true) != told(endLast, true) {
			t.Fatalf("Items(%s) = %s %s", told(d, true), toldAll(items), told(last, true))
		}
		if again := List(items, last); !Same(d, again) {
			t.Fatalf("%s, put together again: %s", told(d, true), told(again, true))
		}
	}
}

// P8.5

const many = 100000

// numbers is as many integers, each one at the offset of its number.
func numbers(n int) []api.Datum {
	l := make([]api.Datum, n)
	for i := range l {
		l[i] = at(i, whole(strconv.Itoa(i)))
	}
	return l
}

// TestLongListsAreRead: each datum and each pair of a long list, and its end.
func TestLongListsAreRead(t *testing.T) {
	src := "(" + strings.Repeat("a ", many)
	for _, end := range []struct {
		src string
		d   api.Datum
	}{{")", at(2*many+1, nothing())}, {". b)", at(2*many+3, symbol("b"))}, {". (b))", at(2*many+3, pair(at(2*many+4, symbol("b")), at(2*many+5, nothing())))}} {
		d := one(t, src+end.src)
		if d.Pos != 0 {
			t.Errorf("the list is at %d", d.Pos)
		}
		for i := range many {
			if d.Kind != api.DPair || len(d.Kids) != 2 || i > 0 && d.Pos != 2*i+1 || told(d.Kids[0], true) != told(at(2*i+1, symbol("a")), true) {
				t.Fatalf("pair %d", i)
			}
			d = d.Kids[1]
		}
		if told(d, true) != told(end.d, true) {
			t.Errorf("the end is %s", told(d, true))
		}
	}
	fails(t, src, errSyntax, 0)
	fails(t, src+". b c)", errSyntax, 2*many+5)
	fails(t, src+"'", errSyntax, 2*many+1)
	fails(t, "#("+strings.Repeat("a ", many)+".)", errSyntax, 2*many+2)
}

// TestLongLists: they are written, compared, found valid, taken apart and put together.
func TestLongLists(t *testing.T) {
	l := numbers(many)
	var texts []string
	for _, d := range l {
		texts = append(texts, d.Text)
	}
	text := "(" + strings.Join(texts, " ") + ")"
	d := List(l, nothing())
	if !May(d) || Write(d, false) != text || Write(d, true) != text {
		t.Errorf("May %v, Write %s", May(d), brief(Write(d, false)))
	}
	same(t, d, one(t, text), true)
	same(t, d, List(l, symbol("a")), false)
	same(t, d, List(l[1:], nothing()), false)
	same(t, d, List(l[:many-1], nothing()), false)
	other := slices.Clone(l)
	other[many-1] = symbol("a")
	same(t, d, List(other, nothing()), false)
	items, end := Items(d)
	if toldAll(items) != toldAll(l) || told(end, true) != told(nothing(), true) {
		t.Errorf("Items: %d data, %s", len(items), told(end, true))
	}
	other[many-1] = symbol("")
	if wrong := List(other, nothing()); May(wrong) || Write(wrong, false) != "" {
		t.Errorf("a long list with a wrong datum is valid")
	}
	if wrong := List(l, symbol("")); May(wrong) || Write(wrong, false) != "" {
		t.Errorf("a long list with a wrong end is valid")
	}
	if s := Write(List(l, vector(d, d)), false); s != text[:len(text)-1]+" . #("+text+" "+text+"))" {
		t.Errorf("Write: %s", brief(s))
	}
}

// TestLongOthers: vectors, byte vectors, and lists within others.
func TestLongOthers(t *testing.T) {
	for _, src := range []string{
		"#(" + strings.Repeat("(a . b) ", many) + "c)",
		"#u8(" + strings.Repeat("255 ", many) + "0)",
		"(" + strings.Repeat("(a #(b) . c) ", many) + "d)",
		nested(199, "(", strings.Repeat("() ", many)+"()", ")"),
		"((" + strings.Repeat("a ", many) + ". b) " + strings.Repeat("c ", many) + ". d)",
	} {
		d := one(t, src)
		if Write(d, false) != src || !May(d) || !Same(d, one(t, " "+src)) {
			t.Errorf("%s is written %s", brief(src), brief(Write(d, false)))
		}
	}
	if l := mustRead(t, strings.Repeat("'a ", many)); len(l) != many || Write(l[many-1], false) != "(quote a)" {
		t.Errorf("%d data", len(l))
	}
}

// TestManyLevels: data that no source has are handled, too.
func TestManyLevels(t *testing.T) {
	const levels = 1 << 16
	for _, x := range []struct {
		open, shut string
		around     func(api.Datum) api.Datum
	}{
		{"#(", ")", func(d api.Datum) api.Datum { return vector(d) }},
		{"(", ")", func(d api.Datum) api.Datum { return list(d) }},
		{"(a ", " . b)", func(d api.Datum) api.Datum { return dotted(symbol("b"), symbol("a"), d) }},
	} {
		right, wrong, other := symbol("a"), symbol(""), symbol("b")
		for range levels {
			right, wrong, other = x.around(right), x.around(wrong), x.around(other)
		}
		if !May(right) || May(wrong) || !Same(right, right) || Same(right, other) {
			t.Errorf("%s: May %v %v", x.open, May(right), May(wrong))
		}
		if s := Write(right, false); s != nested(levels, x.open, "a", x.shut) {
			t.Errorf("%s: Write %s", x.open, brief(s))
		}
		l, end := Items(List([]api.Datum{right, other}, vector(right)))
		if len(l) != 2 || !Same(l[0], right) || !Same(l[1], other) || !Same(end, vector(right)) {
			t.Errorf("%s: List and Items", x.open)
		}
	}
}
