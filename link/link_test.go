package link

import (
	"fmt"
	"math"
	"math/rand/v2"
	"slices"
	"strings"
	"testing"

	"pennant/api"
	"pennant/asm"
	"pennant/mach"
)

// The numbers of the chapters, written out so that nothing here leans on the package.
const (
	opAdd, opBeq, opBltu = 1, 26, 30
	maxImage             = 67108864
)

func object(name string, items ...api.Item) api.Object { return api.Object{Name: name, Items: items} }
func label(name string) api.Item                       { return api.Item{Kind: 2, Label: name} }
func word(w uint32) api.Item                           { return api.Item{Kind: 6, Word: w} }
func space(n uint32) api.Item                          { return api.Item{Kind: 8, Word: n} }
func ref(l string, w uint32) api.Item                  { return api.Item{Kind: 7, Label: l, Word: w} }
func jump(d int, l string) api.Item {
	return api.Item{Kind: 4, Inst: api.Inst{D: d}, Label: l}
}
func branch(op, a, b int, l string) api.Item {
	return api.Item{Kind: 3, Inst: api.Inst{Op: op, A: a, B: b}, Label: l}
}
func addr(d int, l string, w uint32) api.Item {
	return api.Item{Kind: 5, Inst: api.Inst{D: d}, Label: l, Word: w}
}

// linked wants these words, and these labels with their addresses, in order.
func linked(t *testing.T, objects []api.Object, base int, words []uint32, places ...api.Place) {
	t.Helper()
	m, e := Link(objects, base)
	if e != api.OK || !slices.Equal(m.Words, words) || !slices.Equal(m.Places, places) {
		t.Errorf("Link(%.300s, %d) = %.300s, %d, not %.300s, %v", fmt.Sprint(objects), base, fmt.Sprint(m), e, fmt.Sprint(words), places)
	}
}

// refused wants this error, with nothing beside it.
func refused(t *testing.T, objects []api.Object, base int, want api.Errno) {
	t.Helper()
	if m, e := Link(objects, base); e != want || len(m.Words) != 0 || len(m.Places) != 0 {
		t.Errorf("Link(%.300s, %d) = %.300s, %d, not %d", fmt.Sprint(objects), base, fmt.Sprint(m), e, want)
	}
}

// model is what Link has to answer, by the words of P4.1: pair by pair, item by item, with new items that have the relevant fields alone.
func model(objects []api.Object, base int) ([]uint32, []api.Place, api.Errno) {
	for i := range objects {
		for j := range i {
			if objects[i].Name == objects[j].Name {
				return nil, nil, api.ErrTwice
			}
		}
	}
	var all []api.Item
	for _, o := range objects {
		if o.Name == "" || o.Name[0] == '.' {
			return nil, nil, api.ErrArg
		}
		for _, x := range o.Items {
			y := api.Item{Kind: x.Kind, Inst: x.Inst, Word: x.Word}
			if x.Kind == 2 || x.Kind == 3 || x.Kind == 4 || x.Kind == 5 || x.Kind == 7 {
				y.Label = x.Label
				if x.Label != "" && x.Label[0] == '.' {
					y.Label = fmt.Sprint(o.Name, x.Label)
				}
			}
			all = append(all, y)
		}
	}
	return asm.Assemble(all, base)
}

// P4.1: the image

func TestExamples(t *testing.T) {
	linked(t, []api.Object{
		object("a", label(".x"), word(7), ref(".x", 0)),
		object("b", label(".x"), ref(".x", 0)),
	}, 0, []uint32{7, 0, 8}, api.Place{Label: "a.x", At: 0}, api.Place{Label: "b.x", At: 2})
	linked(t, []api.Object{object("a", ref("y", 0)), object("b", label("y"), word(1))}, 0, []uint32{4, 1}, api.Place{Label: "y", At: 1})
	refused(t, []api.Object{object("a"), object("a")}, 0, api.ErrTwice)
	refused(t, []api.Object{object(".b")}, 0, api.ErrArg)
}

// No objects, and objects without items, or without words, have an image without words at every base.
func TestNothing(t *testing.T) {
	for _, base := range []int{0, 1, 65536, maxImage - 1, maxImage} {
		linked(t, nil, base, nil)
		linked(t, []api.Object{}, base, nil)
		linked(t, []api.Object{object("a"), {Name: "b", Items: []api.Item{}}, object("c")}, base, nil)
		linked(t, []api.Object{object("a", label(".x")), object("b"), object("c", space(0), label("x"), label(".x"))}, base, nil,
			api.Place{Label: "a.x", At: base}, api.Place{Label: "x", At: base}, api.Place{Label: "c.x", At: base})
	}
	linked(t, []api.Object{object("a"), object("b", word(5), label(".")), object("c")}, 3, []uint32{5}, api.Place{Label: "b.", At: 4})
}

// Every kind of item that uses a label, ahead and behind, finds its own object's label.
func TestLocalLabels(t *testing.T) {
	items := []api.Item{
		label(".top"), branch(opBeq, 1, 2, ".end"), branch(opBltu, 3, 4, ".top"), jump(5, ".end"), jump(6, ".top"),
		addr(7, ".end", 2), ref(".top", 1), ref(".end", 0), label(".end"),
	}
	at := func(base uint32) []uint32 {
		return []uint32{
			26<<26 | 1<<21 | 2<<16 | 7, 30<<26 | 3<<21 | 4<<16 | 0xfffe, 32<<26 | 5<<21 | 5, 32<<26 | 6<<21 | (1<<21 - 4),
			23<<26 | 7<<21, 17<<26 | 7<<21 | 7<<16 | (base + 10), 4*base + 1, 4 * (base + 8),
		}
	}
	objects := []api.Object{object("a", items...), object("ab", items...), object("a.b", items...)}
	linked(t, objects, 100, slices.Concat(at(100), at(108), at(116)),
		api.Place{Label: "a.top", At: 100}, api.Place{Label: "a.end", At: 108},
		api.Place{Label: "ab.top", At: 108}, api.Place{Label: "ab.end", At: 116},
		api.Place{Label: "a.b.top", At: 116}, api.Place{Label: "a.b.end", At: 124})
}

// Global labels are seen from everywhere; a dot that a label does not begin with means nothing.
func TestGlobalLabels(t *testing.T) {
	linked(t, []api.Object{
		object("first", ref("x", 0), ref("x.y", 0), ref("x.", 0), ref("", 0), ref("first", 0)),
		object("second", label("x"), word(0), label("x.y"), word(0), label("x."), word(0), label(""), word(0), label("first")),
		object("third", ref("x", 0), ref("x.y", 0), ref("x.", 0), ref("", 0), ref("first", 0)),
	}, 10, []uint32{60, 64, 68, 72, 76, 0, 0, 0, 0, 60, 64, 68, 72, 76},
		api.Place{Label: "x", At: 15}, api.Place{Label: "x.y", At: 16}, api.Place{Label: "x.", At: 17}, api.Place{Label: "", At: 18}, api.Place{Label: "first", At: 19})
}

// A label that is only a dot, or more dots, is local, too.
func TestDots(t *testing.T) {
	objects := []api.Object{
		object("a", label("."), ref(".", 0), label(".."), ref("..", 0), label("..x"), ref("..x", 0)),
		object("a-", label("."), ref(".", 0), label(".."), ref("..", 0)),
	}
	linked(t, objects, 1, []uint32{4, 8, 12, 16, 20}, api.Place{Label: "a.", At: 1}, api.Place{Label: "a..", At: 2},
		api.Place{Label: "a..x", At: 3}, api.Place{Label: "a-.", At: 4}, api.Place{Label: "a-..", At: 5})
}

// A local label stands for the text of its object's name and its own: where another object's label has this text, it is the same label.
func TestReadAsOthers(t *testing.T) {
	// defined by both
	refused(t, []api.Object{object("a", label(".x")), object("b", label("a.x"))}, 0, api.ErrTwice)
	refused(t, []api.Object{object("b", label("a.x")), object("a", label(".x"))}, 0, api.ErrTwice)
	refused(t, []api.Object{object("a", label(".x"), label("a.x"))}, 0, api.ErrTwice)
	refused(t, []api.Object{object("a", label(".b.x")), object("a.b", label(".x"))}, 0, api.ErrTwice)
	// defined by one, used by both under either name
	linked(t, []api.Object{object("a", label(".x"), ref(".x", 0), ref("a.x", 0)), object("b", ref("a.x", 0))}, 5, []uint32{20, 20, 20}, api.Place{Label: "a.x", At: 5})
	linked(t, []api.Object{object("b", ref("a.x", 0), label("a.x")), object("a", ref(".x", 0))}, 5, []uint32{24, 24}, api.Place{Label: "a.x", At: 6})
	// close, but not the same
	refused(t, []api.Object{object("a", ref(".x", 0)), object("b", label(".a.x"), label("ax"), label("A.x"), label("a..x"), label("a.x "), label("x"))}, 0, api.ErrLabel)
	refused(t, []api.Object{object("a", label(".x")), object("b", ref(".x", 0))}, 0, api.ErrLabel)
	refused(t, []api.Object{object("a", label(".x")), object("b", ref("x", 0))}, 0, api.ErrLabel)
	refused(t, []api.Object{object("a", label("x")), object("b", ref(".x", 0))}, 0, api.ErrLabel)
}

// Labels of items that have none mean nothing, be they local, undefined, or defined elsewhere.
func TestLabelsOfNoMeaning(t *testing.T) {
	for _, l := range []string{"", ".", ".x", "x", "a.x", "nowhere"} {
		items := []api.Item{
			{Kind: 1, Inst: api.Inst{Op: opAdd, D: 1, A: 2, B: 3}, Label: l}, {Kind: 6, Word: 9, Label: l}, {Kind: 8, Word: 2, Label: l},
		}
		linked(t, []api.Object{object("a", items...), object("b", items...), object("c", label("a.x"), label("x"))}, 0,
			[]uint32{1<<26 | 1<<21 | 2<<16 | 3<<11, 9, 0, 0, 1<<26 | 1<<21 | 2<<16 | 3<<11, 9, 0, 0},
			api.Place{Label: "a.x", At: 8}, api.Place{Label: "x", At: 8})
	}
}

// Objects stand in the order in which they come, whatever their names are.
func TestOrder(t *testing.T) {
	var objects []api.Object
	var words []uint32
	var places []api.Place
	for i, name := range []string{"z", "a", "m", "aa", "Z", "0", "a.", "a b", "\x00", "\xff", "\u00e4", strings.Repeat("long", 1000)} {
		objects = append(objects, object(name, word(uint32(i)), label(".here"), ref(".here", 0)))
		words = append(words, uint32(i), uint32(4*(2*i+1)))
		places = append(places, api.Place{Label: name + ".here", At: 2*i + 1})
	}
	linked(t, objects, 0, words, places...)
}

// Branches and jumps grow across objects as they do in one.
func TestFarObjects(t *testing.T) {
	near := []api.Object{object("a", branch(opBeq, 1, 2, "end"), jump(3, "end")), object("b", space(32766)), object("c", label("end"))}
	m, e := Link(near, 0)
	if e != api.OK || len(m.Words) != 32768 || m.Words[0] != 26<<26|1<<21|2<<16|32767 || m.Words[1] != 32<<26|3<<21|32766 {
		t.Errorf("near: %d words, %x, %d", len(m.Words), m.Words[:2], e)
	}
	far := []api.Object{object("a", branch(opBeq, 1, 2, "end"), jump(3, "end")), object("b", space(32767)), object("c", label("end"))}
	m, e = Link(far, 0)
	if e != api.OK || len(m.Words) != 32770 || m.Words[0] != 27<<26|1<<21|2<<16|1 || m.Words[1] != 32<<26|32768 || m.Words[2] != 32<<26|3<<21|32767 {
		t.Errorf("far: %d words, %x, %d", len(m.Words), m.Words[:3], e)
	}
}

// P4.1: the errors

func TestNames(t *testing.T) {
	for _, name := range []string{"", ".", ".b", "..", ".b.c", ". "} {
		refused(t, []api.Object{object(name)}, 0, api.ErrArg)
		refused(t, []api.Object{object("a"), object(name, word(1)), object("b")}, 0, api.ErrArg)
		refused(t, []api.Object{object("a"), object("b"), object(name)}, maxImage, api.ErrArg)
	}
	for _, name := range []string{"b", "b.", "b.c", " .b", "\x00", "\xff", "a", "\u2024"} {
		linked(t, []api.Object{object("A", word(1)), object(name, word(2))}, 0, []uint32{1, 2})
		refused(t, []api.Object{object(name, word(1)), object(name, word(2))}, 0, api.ErrTwice)
		refused(t, []api.Object{object("A"), object(name), object("B"), object("C"), object(name)}, 0, api.ErrTwice)
	}
	// names are held against names alone
	linked(t, []api.Object{object("a", label("b")), object("b", label("a"))}, 0, nil, api.Place{Label: "b", At: 0}, api.Place{Label: "a", At: 0})
}

func TestBase(t *testing.T) {
	for _, base := range []int{-1, maxImage + 1, math.MinInt, math.MaxInt, 1 << 32, -1 << 32} {
		refused(t, nil, base, api.ErrArg)
		refused(t, []api.Object{object("a", word(1))}, base, api.ErrArg)
	}
	linked(t, []api.Object{object("a", label(".x"), ref(".x", 0))}, maxImage-1, []uint32{4 * (maxImage - 1)}, api.Place{Label: "a.x", At: maxImage - 1})
	refused(t, []api.Object{object("a", label(".x"), ref(".x", 0))}, maxImage, api.ErrLong)
}

func TestErrorsOfItems(t *testing.T) {
	for _, c := range []struct {
		item api.Item
		want api.Errno
	}{
		{api.Item{}, api.ErrForm}, {api.Item{Kind: 9}, api.ErrForm}, {api.Item{Kind: -1, Label: ".x"}, api.ErrForm},
		{api.Item{Kind: 1}, api.ErrInst}, {branch(opAdd, 1, 2, ".x"), api.ErrInst}, {branch(opBeq, 32, 0, ".x"), api.ErrInst}, {jump(-1, ".x"), api.ErrInst}, {addr(32, ".x", 0), api.ErrInst},
		{label(".x"), api.ErrTwice}, {label("y"), api.ErrTwice}, {label("a.x"), api.ErrTwice},
		{jump(0, ".y"), api.ErrLabel}, {ref("x", 0), api.ErrLabel}, {ref("", 0), api.ErrLabel}, {addr(1, ".", 0), api.ErrLabel}, {branch(opBeq, 0, 0, "c.x"), api.ErrLabel},
		{space(maxImage), api.ErrLong}, {space(1<<32 - 1), api.ErrLong},
	} {
		refused(t, []api.Object{object("a", label(".x"), c.item, word(1)), object("b", label("y"), label(".y"))}, 0, c.want)
	}
	refused(t, []api.Object{object("a", label("x")), object("b", label("x"))}, 0, api.ErrTwice)
}

// Of two errors, the one that P4.1 names first is told, wherever they stand.
func TestFirstError(t *testing.T) {
	form, inst, undefined, long := api.Item{Kind: 99}, api.Item{Kind: 1}, jump(0, ".nowhere"), space(maxImage+1)
	for _, c := range []struct {
		objects []api.Object
		base    int
		want    api.Errno
	}{
		{[]api.Object{object(""), object("")}, 0, api.ErrTwice},
		{[]api.Object{object(".b"), object(".b")}, -1, api.ErrTwice},
		{[]api.Object{object(""), object("a"), object(".b"), object("a")}, 0, api.ErrTwice},
		{[]api.Object{object("a", form, inst, undefined, long), object("a")}, -1, api.ErrTwice},
		{[]api.Object{object("a", form, inst, undefined, long), object("")}, 0, api.ErrArg},
		{[]api.Object{object("a", label(".x"), label(".x")), object(".b")}, 0, api.ErrArg},
		{[]api.Object{object("a", label(".x"), label(".x"), form)}, -1, api.ErrArg},
		{[]api.Object{object("a", long), object("b", form)}, maxImage + 1, api.ErrArg},
		{[]api.Object{object("a", inst), object("b", form)}, 0, api.ErrInst},
		{[]api.Object{object("a", form), object("b", inst)}, 0, api.ErrForm},
		{[]api.Object{object("a", undefined), object("b", label(".x"), label(".x"))}, 0, api.ErrTwice},
		{[]api.Object{object("a", long), object("b", undefined)}, 0, api.ErrLabel},
		{[]api.Object{object("a", long), object("b", label("x")), object("c", label("x"))}, 0, api.ErrTwice},
		{[]api.Object{object("a", long), object("b", inst)}, 0, api.ErrInst},
	} {
		refused(t, c.objects, c.base, c.want)
	}
}

// Just MaxImage words are an image at 0. One more is told by asm, whose ErrLong is named ahead of ErrFull.
func TestFull(t *testing.T) {
	for _, n := range []uint32{0, 1} {
		objects := []api.Object{object("a", label(".x"), word(3), space(maxImage/2-1)), object("b", space(maxImage/2-2), ref(".end", 0), ref("a.x", 7), label(".end")), object("c", space(n))}
		m, e := Link(objects, 0)
		if n == 1 {
			refused(t, objects, 0, api.ErrLong)
			continue
		}
		if e != api.OK || len(m.Words) != maxImage || m.Words[0] != 3 || m.Words[maxImage-2] != 4*maxImage || m.Words[maxImage-1] != 7 {
			t.Fatalf("full: %d words, %d", len(m.Words), e)
		}
		if want := []api.Place{{Label: "a.x", At: 0}, {Label: "b.end", At: maxImage}}; !slices.Equal(m.Places, want) {
			t.Errorf("full: %v", m.Places)
		}
		refused(t, objects, 1, api.ErrLong)
		refused(t, objects, maxImage, api.ErrLong)
	}
	refused(t, []api.Object{object("a", word(1)), object("b", space(1<<32-1)), object("c", space(1<<32-1))}, 0, api.ErrLong)
}

// piece is an item of any kind that uses one of the labels.
func piece(r *rand.Rand, labels []string) api.Item {
	to, d := labels[r.IntN(len(labels))], r.IntN(32)
	all := []api.Item{
		branch(opBeq+r.IntN(6), d, r.IntN(32), to), jump(d, to), addr(d, to, r.Uint32()), ref(to, r.Uint32()), word(r.Uint32()), space(uint32(r.IntN(5))),
		{Kind: 1, Inst: api.Inst{Op: opAdd, D: d, A: r.IntN(32), B: r.IntN(32)}, Label: to},
	}
	return all[r.IntN(len(all))]
}

// Objects with labels of few texts, so that names and labels meet in every way: the errors, too, are those of the model.
func TestAnyObjects(t *testing.T) {
	r := rand.New(rand.NewPCG(1, 2))
	names := []string{"a", "b", "a.b", "b.a", "a.", "c", "d", "e", "f", "", ".a"}
	labels := []string{".x", ".b.x", "a.x", "a.b.x", "x", ".", "b.", "", "..x", "a.."}
	met := map[api.Errno]int{}
	for range 30000 {
		var objects []api.Object
		for range r.IntN(4) {
			o := object(names[r.IntN(len(names)-r.IntN(3))])
			for _, l := range labels {
				if r.IntN(4) == 0 {
					o.Items = append(o.Items, label(l))
				}
				for r.IntN(6) == 0 {
					o.Items = append(o.Items, piece(r, labels))
				}
			}
			if r.IntN(20) == 0 {
				o.Items = append(o.Items, api.Item{Kind: r.IntN(12), Inst: api.Inst{Op: r.IntN(40), D: r.IntN(40)}, Label: ".x"})
			}
			objects = append(objects, o)
		}
		base := r.IntN(1000)
		words, places, e := model(objects, base)
		met[e]++
		if e != api.OK {
			refused(t, objects, base, e)
			continue
		}
		linked(t, objects, base, words, places...)
	}
	for _, e := range []api.Errno{api.OK, api.ErrTwice, api.ErrArg, api.ErrLabel, api.ErrForm, api.ErrInst} {
		if met[e] < 50 {
			t.Errorf("the error %d was met only %d times", e, met[e])
		}
	}
}

// P4.2

// found wants the label at this address.
func found(t *testing.T, m api.Image, l string, want int) {
	t.Helper()
	if at, ok := Find(m, l); at != want || !ok {
		t.Errorf("Find(%v, %q) = %d, %v, not %d", m.Places, l, at, ok, want)
	}
}

// missing wants no such label.
func missing(t *testing.T, m api.Image, labels ...string) {
	t.Helper()
	for _, l := range labels {
		if at, ok := Find(m, l); at != 0 || ok {
			t.Errorf("Find(%v, %q) = %d, %v", m.Places, l, at, ok)
		}
	}
}

func TestFind(t *testing.T) {
	m, e := Link([]api.Object{
		object("a", label(".x"), word(7), label("y"), word(8)), object("b", label(".x"), word(9)), object("end", label(""), label("end")),
	}, 0)
	if e != api.OK {
		t.Fatal(e)
	}
	found(t, m, "a.x", 0)
	found(t, m, "y", 1)
	found(t, m, "b.x", 2)
	found(t, m, "", 3)
	found(t, m, "end", 3)
	missing(t, m, ".x", "x", "a", "b", "a.y", ".y", "Y", "y ", "end.", "a.x.x", "\x00", "c.x")
}

func TestFindInAnyImage(t *testing.T) {
	missing(t, api.Image{}, "", ".", "x")
	missing(t, api.Image{Words: []uint32{1, 2}, Places: []api.Place{}}, "", ".", "x")
	m := api.Image{Places: []api.Place{{Label: "y", At: 9}, {Label: "x", At: 5}, {Label: "y", At: 1}, {Label: "x", At: 5}, {Label: "y", At: 4}, {Label: ".z", At: -7}, {Label: "", At: 1 << 40}, {Label: "", At: 0}}}
	found(t, m, "y", 9) // the first one, which is neither the least nor the last
	found(t, m, "x", 5)
	found(t, m, ".z", -7)
	found(t, m, "", 1<<40)
	missing(t, m, "z", ".", ".zz", "xy")
}

// Each label of an image is found where its words are.
func TestFindAll(t *testing.T) {
	var objects []api.Object
	for i := range 200 {
		objects = append(objects, object(fmt.Sprint("o", i), label(fmt.Sprint("g", i)), word(uint32(3*i)), label(".l"), word(uint32(3*i+1)), label(".m"), word(uint32(3*i+2))))
	}
	m, e := Link(objects, 0)
	if e != api.OK {
		t.Fatal(e)
	}
	for i := range 200 {
		found(t, m, fmt.Sprint("g", i), 3*i)
		found(t, m, fmt.Sprint("o", i, ".l"), 3*i+1)
		found(t, m, fmt.Sprint("o", i, ".m"), 3*i+2)
	}
}

func TestSize(t *testing.T) {
	for _, c := range []struct {
		objects []api.Object
		want    int
	}{
		{nil, 0}, {[]api.Object{}, 0}, {[]api.Object{{}}, 0}, {[]api.Object{object("a"), object("a")}, 0},
		{[]api.Object{object("a", label("x"), label(".y"), label("x"))}, 0},
		{[]api.Object{object("a", word(1))}, 1},
		{[]api.Object{object("a", space(1000), addr(1, "x", 0), label("x"), jump(0, "x")), object("b", label("x"), branch(opBeq, 0, 0, "x"), ref("x", 0)), object("c"), object("", api.Item{Kind: 1})}, 6},
		{[]api.Object{object("a", api.Item{}, api.Item{Kind: -2}, api.Item{Kind: 9}, api.Item{Kind: 2 + 1<<32}, api.Item{Kind: 2})}, 4}, // whatever they are
	} {
		if n := Size(c.objects); n != c.want {
			t.Errorf("Size(%v) = %d, not %d", c.objects, n, c.want)
		}
	}
}

// P4.3

// own is an object whose items use its own labels alone, of both sorts.
func own(r *rand.Rand, name string) api.Object {
	o := object(name)
	labels := []string{".x", ".y", ".z", name + "!", name + "?"}
	for _, l := range labels {
		for range r.IntN(12) {
			o.Items = append(o.Items, piece(r, labels))
		}
		o.Items = append(o.Items, label(l))
	}
	for range r.IntN(12) {
		o.Items = append(o.Items, piece(r, labels))
	}
	return o
}

// An object that refers to none of the others is in the image as it is alone at that address.
func TestAloneButMoved(t *testing.T) {
	r := rand.New(rand.NewPCG(3, 4))
	for range 300 {
		var objects []api.Object
		for i := range 1 + r.IntN(6) {
			objects = append(objects, own(r, fmt.Sprint("o", i)))
		}
		base := r.IntN(1 << 20)
		m, e := Link(objects, base)
		if e != api.OK {
			t.Fatal(e)
		}
		at, place := base, 0
		for _, o := range objects {
			alone, e := Link([]api.Object{o}, at)
			if e != api.OK {
				t.Fatal(e)
			}
			n, places := len(alone.Words), len(alone.Places)
			if !slices.Equal(m.Words[at-base:at-base+n], alone.Words) || !slices.Equal(m.Places[place:place+places], alone.Places) {
				t.Fatalf("%v at %d is not as it is alone", o, at)
			}
			at, place = at+n, place+places
		}
		if at != base+len(m.Words) || place != len(m.Places) {
			t.Fatalf("%d words and %d places, not %d and %d", len(m.Words), len(m.Places), at-base, place)
		}
	}
}

// Other objects that are as long, and have the same labels at the same places, make no difference.
func TestOnlyAddressesMatter(t *testing.T) {
	user := object("user", addr(1, "x", 5), jump(2, "y"), branch(opBeq, 3, 4, "x"), ref("y", 1), label(".x"), jump(0, ".x"))
	one := []api.Object{object("p", word(1), label("x"), jump(9, "y"), label(".q")), user, object("r", ref("x", 4), label("y"), word(2))}
	other := []api.Object{object("other", space(1), label("x"), label(".x"), word(77)), user, object("s", word(8), label("y"), ref("other.x", 0))}
	m, e := Link(one, 1000)
	n, f := Link(other, 1000)
	if e != api.OK || f != api.OK || len(m.Words) != 10 || len(n.Words) != 10 || !slices.Equal(m.Words[2:8], n.Words[2:8]) {
		t.Errorf("%x, %d and %x, %d", m.Words, e, n.Words, f)
	}
}

// P4.4

// Objects whose local labels have the same texts, in other orders: on the machine, each jump stays in its object, and so does each address.
func TestOwnLabelsAlone(t *testing.T) {
	r := rand.New(rand.NewPCG(5, 6))
	texts := []string{".a", ".b", ".c", ".", "..", ".a.b"}
	for range 50 {
		var objects []api.Object
		want := map[string]int{}
		at := 1
		for i := range 8 {
			o := object(fmt.Sprint("n", i))
			for _, j := range r.Perm(len(texts)) {
				want[o.Name+texts[j]] = at
				o.Items = append(o.Items, label(texts[j]), word(0))
				at++
			}
			for _, l := range texts {
				o.Items = append(o.Items, jump(1, l), ref(l, 0))
				at += 2
			}
			objects = append(objects, o)
		}
		m, e := Link(objects, 1)
		if e != api.OK || len(m.Places) != len(want) {
			t.Fatalf("%d, %v", e, m.Places)
		}
		for l, place := range want {
			found(t, m, l, place)
		}
		run, e := mach.New(append([]uint32{0}, m.Words...), 4096, nil)
		if e != api.OK {
			t.Fatal(e)
		}
		for i, o := range objects {
			for j, l := range texts {
				from := 1 + i*3*len(texts) + len(texts) + 2*j
				run.Go(uint32(from))
				run.Step()
				if to := want[o.Name+l]; int(run.Place()) != to || int(m.Words[from]) != 4*to {
					t.Fatalf("the object %s goes to %s at %d, refers to %d; not %d", o.Name, l, run.Place(), m.Words[from]/4, to)
				}
			}
		}
	}
}

// What one object defines is not there for another one's local label of the same text.
func TestOthersLabelsAreNotThere(t *testing.T) {
	for _, x := range []api.Item{jump(0, ".x"), branch(opBeq, 1, 2, ".x"), addr(3, ".x", 0), ref(".x", 0)} {
		for _, name := range []string{"b", "aa", "a.", "A", "x"} {
			refused(t, []api.Object{object("a", label(".x")), object(name, x)}, 0, api.ErrLabel)
			refused(t, []api.Object{object(name, x), object("a", label(".x")), object("c", label("x"))}, 0, api.ErrLabel)
		}
	}
}

// Arguments and results

// sameObjects reports whether two lists of objects are alike in everything.
func sameObjects(x, y []api.Object) bool {
	return slices.EqualFunc(x, y, func(a, b api.Object) bool { return a.Name == b.Name && slices.Equal(a.Items, b.Items) })
}

func TestArgumentsAreNotChanged(t *testing.T) {
	items := func() []api.Item {
		return []api.Item{label(".x"), jump(1, ".x"), ref(".y", 2), label(".y"), branch(opBeq, 1, 2, "all"), word(3), {Kind: 6, Label: ".x"}, label(".behind"), ref(".behind", 4)}
	}
	shared := items() // by two objects, the first of which has room behind its end
	make0 := func(list []api.Item) []api.Object {
		return []api.Object{object("a", list[:7]...), object("b", list...), object("c", label("all")), object("d"), object("", word(1))}
	}
	room := make0(shared)
	objects := room[:4]
	m, e := Link(objects, 20)
	if e != api.OK || Size(objects) != 11 || !sameObjects(room, make0(items())) || !slices.Equal(shared, items()) {
		t.Fatalf("%d; the objects are now %v", e, room)
	}
	words, places, _ := model(make0(items())[:4], 20)
	if !slices.Equal(m.Words, words) || !slices.Equal(m.Places, places) {
		t.Fatalf("%v, not %v, %v", m, words, places)
	}
	before := slices.Clone(m.Places)
	found(t, m, "b.y", 27)
	missing(t, m, "e")
	if !slices.Equal(m.Places, before) || !slices.Equal(m.Words, words) {
		t.Errorf("Find changes the image: %v", m)
	}
}

func TestResultsAreNew(t *testing.T) {
	objects := []api.Object{object("a", label(".x"), jump(1, ".x"), ref(".x", 2)), object("b", word(5), label("y"))}
	m, _ := Link(objects, 20)
	words, places := slices.Clone(m.Words), slices.Clone(m.Places)
	again, _ := Link(objects, 20)
	clear(objects[0].Items)
	clear(objects)
	clear(again.Words[:cap(again.Words)])
	clear(again.Places[:cap(again.Places)])
	if !slices.Equal(m.Words, words) || !slices.Equal(m.Places, places) {
		t.Errorf("the image hangs on the objects, or on another image: %v", m)
	}
	found(t, m, "y", 23)
	third, e := Link([]api.Object{object("a", label(".x"), jump(1, ".x"), ref(".x", 2)), object("b", word(5), label("y"))}, 20)
	if e != api.OK || !slices.Equal(third.Words, words) || !slices.Equal(third.Places, places) {
		t.Errorf("the same objects have another image: %v, %d", third, e)
	}
}

// Whatever the objects are, each call ends, with what the model answers.
func TestNoPanic(t *testing.T) {
	r := rand.New(rand.NewPCG(7, 8))
	numbers := []int{math.MinInt, -1 << 32, -1, 0, 1, 2, 3, 4, 5, 6, 7, 8, 9, 26, 31, 32, 36, 1 << 26, 1<<26 + 1, 1 << 32, math.MaxInt}
	number := func() int { return numbers[r.IntN(len(numbers))] }
	texts := []string{"", ".", "..", ".x", "x", "a", "a.x", "\xff", ".\x00"}
	text := func() string { return texts[r.IntN(len(texts))] }
	for range 20000 {
		var objects []api.Object
		for range r.IntN(4) {
			o := object(text())
			for range r.IntN(4) {
				o.Items = append(o.Items, api.Item{
					Kind: number(), Inst: api.Inst{Op: number(), D: number(), A: number(), B: number(), Imm: number()}, Label: text(),
					Word: []uint32{0, 1, 1 << 15, 1<<26 + 1, 1<<32 - 1}[r.IntN(5)],
				})
			}
			objects = append(objects, o)
		}
		base := number()
		words, places, e := model(objects, base)
		if e != api.OK {
			refused(t, objects, base, e)
		} else {
			linked(t, objects, base, words, places...)
		}
		Size(objects)
		Find(api.Image{Places: []api.Place{{Label: text(), At: number()}}}, text())
	}
}
