package datum

import (
	"math/rand/v2"
	"testing"

	"pennant/api"
)

// No argument is changed or kept, and results are new memory.

// places is where each datum of these lists stands in memory, with the room behind them; false, if two of them share any.
func places(found map[*api.Datum]bool, l []api.Datum) bool {
	apart := true
	whole := l[:cap(l)]
	for i := range whole {
		apart = apart && !found[&whole[i]]
		found[&whole[i]] = true
	}
	for _, d := range l {
		apart = places(found, d.Kids) && apart
	}
	return apart
}

// apart checks that no two lists of the answer share memory, and none does with the arguments.
func apart(t *testing.T, what string, arguments, answer []api.Datum) {
	t.Helper()
	found := map[*api.Datum]bool{}
	places(found, arguments)
	if !places(found, answer) {
		t.Errorf("%s shares memory: %s", what, brief(toldAll(answer)))
	}
}

// spoil overwrites each datum of these lists, and the room behind them.
func spoil(l []api.Datum) {
	for _, d := range l {
		spoil(d.Kids)
	}
	whole := l[:cap(l)]
	for i := range whole {
		whole[i] = api.Datum{Kind: -1, N: -1, Text: "spoilt", Pos: -1}
	}
}

// copied is data like these, with memory of their own, that have some room behind them.
func copied(l []api.Datum) []api.Datum {
	var c []api.Datum
	for _, d := range l {
		d.Kids = copied(d.Kids)
		c = append(c, d)
	}
	return c
}

func TestReadKeepsNothing(t *testing.T) {
	const src = "(a 'bc . -12) #(#t #\\x41 \"de\\nf\" (\"gh\")) #u8(7 8) () #() 'a '(b) (c . (d e)) abc "
	b := []byte(src + "behind")
	l, f := Read(b[:len(src)])
	if string(b) != src+"behind" || f != (api.Fault{}) {
		t.Fatalf("Read changed the source: %q, %v", b, f)
	}
	want := toldAll(l)
	other := mustRead(t, src)
	apart(t, "Read", other, l)
	for i := range b {
		b[i] = '#'
	}
	if toldAll(l) != want {
		t.Errorf("Read hangs on its source: %s", toldAll(l))
	}
	spoil(l)
	if toldAll(other) != want || toldAll(mustRead(t, src)) != want {
		t.Errorf("Read hangs on what it answered earlier")
	}
	// The data of one source are apart, too.
	for i := range other {
		left := mustRead(t, src)
		spoil(left[i].Kids)
		for j := range left {
			if i != j && told(left[j], true) != told(other[j], true) {
				t.Errorf("datum %d hangs on datum %d", j, i)
			}
		}
	}
}

// TestBehindTheEnd: what lies in memory behind the bytes of a source counts for nothing.
func TestBehindTheEnd(t *testing.T) {
	const src = "(a . b) #(c) 'd #u8(1) )"
	for end := range len(src) + 1 {
		b := []byte(src)[:end]
		l, f := Read(b)
		want, fault := modelRead([]byte(src[:end]))
		if f != fault || toldAll(l) != toldAll(want) {
			t.Errorf("Read(%q) = %s %v", b, toldAll(l), f)
		}
	}
}

func TestListKeepsNothing(t *testing.T) {
	r := randomly{Rand: rand.New(rand.NewPCG(8, 9)), spoilt: 20}
	for range 3000 {
		given := copied([]api.Datum{r.datum(3), r.datum(2), r.datum(1), r.datum(3)})
		told0 := toldAll(given)
		l, end := given[:3], given[3]
		d := List(l, end)
		if toldAll(given) != told0 {
			t.Fatalf("List changed its arguments: %s", told0)
		}
		want := told(d, true)
		apart(t, "List", given, []api.Datum{d})
		other := List(l, end)
		spoil(d.Kids)
		if toldAll(given) != told0 || told(other, true) != want {
			t.Fatalf("what List answered is its arguments' memory: %s", told0)
		}
		spoil(given)
		if told(other, true) != want {
			t.Fatalf("List kept its arguments: %s", told0)
		}
	}
}

// TestListTwice: a datum that is given twice is in the list twice, apart.
func TestListTwice(t *testing.T) {
	x := list(symbol("a"), vector(symbol("b")))
	d := List([]api.Datum{x, x}, x)
	apart(t, "List", []api.Datum{x}, []api.Datum{d})
	spoil(d.Kids[0].Kids)
	if !Same(d.Kids[1], pair(x, x)) {
		t.Errorf("List of a datum given twice: %s", told(d, true))
	}
}

func TestItemsKeepNothing(t *testing.T) {
	r := randomly{Rand: rand.New(rand.NewPCG(8, 10)), spoilt: 20}
	for range 3000 {
		given := copied([]api.Datum{dotted(r.datum(2), r.datum(3), r.datum(2), r.datum(1)), r.datum(3)})
		for i := range given {
			told0 := toldAll(given)
			l, end := Items(given[i])
			if toldAll(given) != told0 {
				t.Fatalf("Items changed its argument: %s", told0)
			}
			want := toldAll(l) + told(end, true)
			apart(t, "Items", given, append([]api.Datum{end}, l...))
			other, otherEnd := Items(given[i])
			spoil(l)
			spoil(end.Kids)
			if toldAll(given) != told0 || toldAll(other)+told(otherEnd, true) != want {
				t.Fatalf("what Items answered is its argument's memory: %s", told0)
			}
			left := copied(given)
			spoil(given)
			if toldAll(other)+told(otherEnd, true) != want {
				t.Fatalf("Items kept its argument: %s", told0)
			}
			given = left
		}
	}
}

func TestOthersChangeNothing(t *testing.T) {
	r := randomly{Rand: rand.New(rand.NewPCG(8, 11)), spoilt: 20}
	for range 3000 {
		given := copied([]api.Datum{r.datum(3), r.datum(3)})
		told0 := toldAll(given)
		May(given[0])
		Same(given[0], given[1])
		Same(given[1], given[1])
		text := Write(given[0], false)
		want := string([]byte(text))
		Write(given[0], true)
		if toldAll(given) != told0 {
			t.Fatalf("May, Same or Write changed %s", told0)
		}
		spoil(given)
		if text != want {
			t.Fatalf("Write hangs on what was written: %s", told0)
		}
	}
}
