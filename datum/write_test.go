package datum

import (
	"math/rand/v2"
	"strconv"
	"strings"
	"testing"

	"pennant/api"
)

// P8.2

// writes checks both texts of d, and that it is valid.
func writes(t *testing.T, d api.Datum, written, displayed string) {
	t.Helper()
	if s := Write(d, false); s != written {
		t.Errorf("%s is written %s, asked %s", brief(told(d, true)), brief(s), brief(written))
	}
	if s := Write(d, true); s != displayed {
		t.Errorf("%s is displayed %s, asked %s", brief(told(d, true)), brief(s), brief(displayed))
	}
	if !May(d) {
		t.Errorf("%s is not valid", brief(told(d, true)))
	}
}

// may checks that each datum is valid, and has a text; also within others.
func may(t *testing.T, l ...api.Datum) {
	t.Helper()
	for _, d := range l {
		for _, d := range around(d) {
			if !May(d) {
				t.Errorf("%s is not valid", brief(told(d, true)))
			}
			if Write(d, false) == "" {
				t.Errorf("%s has no text", brief(told(d, true)))
			}
		}
	}
}

// mayNot checks that each datum is not valid, and has no text; also deep inside others.
func mayNot(t *testing.T, l ...api.Datum) {
	t.Helper()
	for _, d := range l {
		for _, d := range around(d) {
			if May(d) {
				t.Errorf("%s is valid", brief(told(d, true)))
			}
			if s := Write(d, false) + Write(d, true); s != "" {
				t.Errorf("%s has the text %s", brief(told(d, true)), brief(s))
			}
		}
	}
}

// around is d, and data that contain it at different places.
func around(d api.Datum) []api.Datum {
	a := symbol("a")
	deep, long := d, []api.Datum{}
	for range 50 {
		deep = vector(a, list(a, deep), a)
	}
	for range 1000 {
		long = append(long, a)
	}
	return []api.Datum{
		d, pair(d, a), pair(a, d), vector(d), vector(a, d), vector(d, a), list(a, d), list(a, d, a), dotted(d, a, a),
		pair(pair(a, d), a), vector(vector(), pair(vector(a, d), a)), deep, dotted(d, long...), list(append(long, d)...), vector(append(long, d)...),
	}
}

// with is d with these Kids.
func with(d api.Datum, kids ...api.Datum) api.Datum {
	d.Kids = kids
	return d
}

// named is d with this number and this text.
func named(d api.Datum, n int, text string) api.Datum {
	d.N, d.Text = n, text
	return d
}

func TestPlainTexts(t *testing.T) {
	writes(t, nothing(), "()", "()")
	writes(t, truth(0), "#f", "#f")
	writes(t, truth(1), "#t", "#t")
	writes(t, whole("0"), "0", "0")
	writes(t, whole("-12"), "-12", "-12")
	writes(t, whole("123456789012345678901234567890"), "123456789012345678901234567890", "123456789012345678901234567890")
	writes(t, symbol("x->y"), "x->y", "x->y")
	writes(t, eof(), "#!eof", "#!eof")
	writes(t, none(), "#!none", "#!none")
	writes(t, bytevector(""), "#u8()", "#u8()")
	writes(t, bytevector("\x07"), "#u8(7)", "#u8(7)")
	writes(t, bytevector("\x00\x01\x7F\x80\xFF\"\\a"), "#u8(0 1 127 128 255 34 92 97)", "#u8(0 1 127 128 255 34 92 97)")
}

// TestSymbolTexts: a symbol is its Text, whatever is in it, and whatever its alias is.
func TestSymbolTexts(t *testing.T) {
	for _, s := range []string{"a", "A b", "\"", "\\", "()", ";", "\n", "\x00", "12", "#t", ".", "é€\U0001f600", "\ufffd", " "} {
		writes(t, symbol(s), s, s)
		writes(t, named(symbol(s), 7, s), s, s)
		writes(t, named(symbol(s), -1, s), s, s)
	}
}

func TestChars(t *testing.T) {
	for _, x := range []struct {
		code    int
		written string
	}{
		{' ', `#\space`}, {'\n', `#\newline`}, {'\t', `#\tab`},
		{0, `#\x0`}, {1, `#\x1`}, {8, `#\x8`}, {11, `#\xb`}, {12, `#\xc`}, {13, `#\xd`}, {15, `#\xf`}, {16, `#\x10`}, {0x1B, `#\x1b`}, {0x1F, `#\x1f`}, {0x7F, `#\x7f`},
		{'!', `#\!`}, {'a', `#\a`}, {'x', `#\x`}, {'Z', `#\Z`}, {'0', `#\0`}, {'(', `#\(`}, {')', `#\)`}, {'"', `#\"`}, {'\\', `#\\`}, {';', `#\;`}, {'\'', `#\'`}, {'#', `#\#`}, {'~', `#\~`}, {'.', `#\.`},
		{0x80, "#\\\xC2\x80"}, {0x9F, "#\\\xC2\x9F"}, {0xA0, "#\\\xC2\xA0"}, {0xE9, "#\\\xC3\xA9"}, {0x7FF, "#\\\xDF\xBF"}, {0x800, "#\\\xE0\xA0\x80"}, {0x20AC, "#\\\xE2\x82\xAC"}, {0xD7FF, "#\\\xED\x9F\xBF"}, {0xE000, "#\\\xEE\x80\x80"}, {0xFFFD, "#\\\xEF\xBF\xBD"}, {0xFFFF, "#\\\xEF\xBF\xBF"}, {0x10000, "#\\\xF0\x90\x80\x80"}, {0x10FFFF, "#\\\xF4\x8F\xBF\xBF"},
	} {
		writes(t, char(x.code), x.written, string(rune(x.code)))
		writes(t, list(char(x.code)), "("+x.written+")", "("+string(rune(x.code))+")")
	}
}

func TestStrings(t *testing.T) {
	for _, x := range [][2]string{
		{"", `""`}, {"a", `"a"`}, {"a b", `"a b"`}, {" ", `" "`}, {"(;'#|)", `"(;'#|)"`},
		{`"`, `"\""`}, {`\`, `"\\"`}, {`\"`, `"\\\""`}, {`\n`, `"\\n"`}, {"\n", `"\n"`}, {"\t", `"\t"`}, {"a\nb\tc", `"a\nb\tc"`}, {"\n\n", `"\n\n"`},
		{"\x00", `"\x0;"`}, {"\x01", `"\x1;"`}, {"\x08\x0B\x0C\x0D\x0E\x0F", `"\x8;\xb;\xc;\xd;\xe;\xf;"`}, {"\x10\x1A\x1F", `"\x10;\x1a;\x1f;"`}, {"\x7F", `"\x7f;"`}, {"a\x00;", `"a\x0;;"`}, {"~!", `"~!"`},
		{"é€\U0001f600\u0080\ufffd\U0010ffff", "\"\xC3\xA9\xE2\x82\xAC\xF0\x9F\x98\x80\xC2\x80\xEF\xBF\xBD\xF4\x8F\xBF\xBF\""},
		{"\u2028\u00a0\ufeff", "\"\u2028\u00a0\ufeff\""},
	} {
		writes(t, str(x[0]), x[1], x[0])
		writes(t, vector(str(x[0])), "#("+x[1]+")", "#("+x[0]+")")
	}
}

// TestEachChar: every char, as a char and in a string, beginning with those that are written otherwise.
func TestEachChar(t *testing.T) {
	for c := 0; c <= 0x10FFFF; c++ {
		if c >= 0xD800 && c <= 0xDFFF {
			mayNot(t, char(c))
			c = 0xDFFF
			continue
		}
		text := string(rune(c))
		if Write(char(c), true) != text || Write(char(c), false) != modelChar(c, false) || Write(str(text), true) != text || c < 0x100 && Write(str(text), false) != `"`+modelQuoted(text)+`"` || c >= 0x100 && Write(str(text), false) != `"`+text+`"` {
			t.Fatalf("char %x", c)
		}
	}
}

func TestLists(t *testing.T) {
	a, b, c := symbol("a"), str("b"), char('c')
	writes(t, list(a), "(a)", "(a)")
	writes(t, list(a, b, c), `(a "b" #\c)`, "(a b c)")
	writes(t, pair(a, b), `(a . "b")`, "(a . b)")
	writes(t, dotted(c, a, b), `(a "b" . #\c)`, "(a b . c)")
	writes(t, pair(a, pair(b, c)), `(a "b" . #\c)`, "(a b . c)")
	writes(t, dotted(list(a, b), c, c), `(#\c #\c a "b")`, "(c c a b)")
	writes(t, pair(nothing(), nothing()), "(())", "(())")
	writes(t, pair(pair(a, a), a), "((a . a) . a)", "((a . a) . a)")
	writes(t, pair(list(a), list(a)), "((a) a)", "((a) a)")
	writes(t, pair(a, vector(b)), `(a . #("b"))`, "(a . #(b))")
	writes(t, pair(a, bytevector("\x01")), "(a . #u8(1))", "(a . #u8(1))")
	writes(t, pair(a, none()), "(a . #!none)", "(a . #!none)")
	writes(t, pair(a, truth(0)), "(a . #f)", "(a . #f)")
	writes(t, pair(a, str("")), `(a . "")`, "(a . )")
	writes(t, list(symbol("quote"), a), "(quote a)", "(quote a)")
	writes(t, list(str(""), str("")), `("" "")`, "( )")
	writes(t, vector(), "#()", "#()")
	writes(t, vector(a), "#(a)", "#(a)")
	writes(t, vector(a, b, vector(c, nothing())), `#(a "b" #(#\c ()))`, "#(a b #(c ()))")
	writes(t, vector(pair(a, a)), "#((a . a))", "#((a . a))")
	writes(t, list(vector(bytevector(""), eof())), "(#(#u8() #!eof))", "(#(#u8() #!eof))")
}

// TestValid: data of each kind; what a kind does not use may be anything.
func TestValid(t *testing.T) {
	may(t, nothing(), truth(0), truth(1), eof(), none(), vector(), vector(nothing()), pair(nothing(), nothing()), bytevector(""), bytevector("\xFF\x80\x00"))
	may(t, whole("0"), whole("1"), whole("9"), whole("-1"), whole("10"), whole("-10"), whole("100200"), whole("-9"), whole("99999999999999999999999999"), whole("-1"+strings.Repeat("0", 100000)))
	may(t, char(0), char('a'), char(0xD7FF), char(0xE000), char(0x10FFFF), char(0xFFFD))
	may(t, str(""), str("a"), str("\x00\n\"\\"), str("é€\U0001f600"), str("\xED\x9F\xBF\xEE\x80\x80\xF4\x8F\xBF\xBF\xEF\xBF\xBD"))
	may(t, symbol("a"), symbol("12"), symbol("("), symbol("\x00"), symbol(" "), symbol("é€\U0001f600"), symbol("\xEF\xBF\xBD"))
	may(t, named(nothing(), 5, "\xFF"), named(truth(1), 1, "\xFF"), named(whole("1"), -7, "1"), named(char('a'), 'a', "\xFF"), named(str("a"), -7, "a"), named(symbol("a"), 7, "a"), named(symbol("a"), -7, "a"))
	may(t, named(pair(nothing(), nothing()), -7, "\xFF"), named(vector(), -7, "\xFF"), named(bytevector("a"), -7, "a"), named(eof(), -7, "\xFF"), named(none(), -7, "\xFF"))
	may(t, at(-7, nothing()), at(1<<40, pair(at(-1, nothing()), nothing())))
	for _, d := range atoms() {
		may(t, with(d, []api.Datum{}...))
		d.Kids = []api.Datum{}
		may(t, d)
	}
}

// atoms is one datum of each kind that has no Kids.
func atoms() []api.Datum {
	return []api.Datum{nothing(), truth(0), truth(1), whole("7"), char('a'), str("b"), symbol("c"), bytevector("d"), eof(), none()}
}

func TestWrongKids(t *testing.T) {
	a := symbol("a")
	for _, d := range atoms() {
		mayNot(t, with(d, a), with(d, a, a), with(d, nothing(), a, nothing()))
	}
	mayNot(t, api.Datum{Kind: 6}, with(pair(a, a)), with(pair(a, a), a), with(pair(a, a), a, a, a), with(pair(a, a), a, nothing(), nothing(), nothing()))
}

func TestWrongKinds(t *testing.T) {
	a := symbol("a")
	for _, kind := range []int{-1, 11, 12, 13, 16, 64, 255, 256, 1 << 20, 1 << 32, 1<<32 + 6, -1 << 63, 1<<63 - 1, 6 - 1<<32} {
		mayNot(t, api.Datum{Kind: kind}, api.Datum{Kind: kind, N: 1, Text: "0"}, api.Datum{Kind: kind, Kids: []api.Datum{a}}, api.Datum{Kind: kind, Kids: []api.Datum{a, a}})
	}
}

func TestWrongNumbers(t *testing.T) {
	for _, n := range []int{-1, 2, 3, 255, 256, 1 << 32, 1<<32 + 1, -1 << 63} {
		mayNot(t, truth(n))
	}
	for _, n := range []int{-1, 0xD800, 0xD801, 0xDBFF, 0xDC00, 0xDFFF, 0x110000, 0x110001, 1 << 31, 1 << 32, 1<<32 + 'a', -1 << 63, 1<<63 - 1} {
		mayNot(t, char(n))
	}
}

func TestWrongIntegers(t *testing.T) {
	for _, s := range []string{"", "-", "+", "+1", "+0", "-0", "00", "01", "-01", "-00", "007", "--1", "-+1", "+-1", "1-", "1+", "-1-", " 1", "1 ", "- 1", "1.", ".", "1.0", "1e5", "0x1", "x1", "1a", "a", "1_0", "1,0", "１", "\x00", "1\x00", "\xFF", "1\xFF", "1\n", "\n1", "1/", "1:", "/1", ":1", "1" + strings.Repeat("0", 100000) + "a", strings.Repeat("0", 100000), "-" + strings.Repeat("0", 1000) + "1"} {
		mayNot(t, whole(s))
	}
}

func TestWrongTexts(t *testing.T) {
	mayNot(t, symbol(""), named(symbol(""), 7, ""))
	for _, s := range []string{"\x80", "\xBF", "\xC0", "\xFF", "\xFE", "\xC3", "a\xC3", "\xC3a", "\xC0\x80", "\xC1\xBF", "\xE0\x80\x80", "\xE2\x82", "a\xE2\x82b", "\xED\xA0\x80", "\xED\xBF\xBF", "\xF0\x80\x80\x80", "\xF0\x9F\x98", "\xF4\x90\x80\x80", "\xF8\x88\x80\x80\x80", "é\xA9", "\xEF\xBF\xBD\xFF", strings.Repeat("a", 100000) + "\xFF"} {
		mayNot(t, str(s), symbol(s), named(symbol(s), 3, s))
		may(t, bytevector(s))
	}
}

// changed is d with one field changed, in each way.
func changed(d api.Datum) []api.Datum {
	l := make([]api.Datum, 7)
	for i := range l {
		l[i] = d
	}
	l[0].Kind = (d.Kind + 1) % 11
	l[1].N++
	l[2].N = -1
	l[3].Text += "a"
	l[4].Text = "\x00" + d.Text
	l[5].Kids = append([]api.Datum{nothing()}, d.Kids...)
	l[6].Kids = append(l[6].Kids[:len(d.Kids):len(d.Kids)], eof())
	for i := range d.Kids {
		shorter := d
		shorter.Kids = append(append([]api.Datum{}, d.Kids[:i]...), d.Kids[i+1:]...)
		l = append(l, shorter)
	}
	return l
}

// same checks that Same of a and b, in both orders, is as asked.
func same(t *testing.T, a, b api.Datum, want bool) {
	t.Helper()
	if Same(a, b) != want || Same(b, a) != want {
		t.Errorf("Same(%s, %s) = %v %v, asked %v", brief(told(a, true)), brief(told(b, true)), Same(a, b), Same(b, a), want)
	}
}

// differ checks that a and b are not the same, neither alone nor within others that are.
func differ(t *testing.T, a, b api.Datum) {
	t.Helper()
	l := around(b)
	for i, d := range around(a) {
		same(t, d, l[i], false)
	}
}

// agree checks that a and b are the same, alone and within others that are.
func agree(t *testing.T, a, b api.Datum) {
	t.Helper()
	l := around(b)
	for i, d := range around(a) {
		same(t, d, l[i], true)
	}
}

func TestSame(t *testing.T) {
	all := append(atoms(), vector(), vector(nothing()), vector(nothing(), nothing()), bytevector(""), str(""), str("c"), symbol("b"), symbol("7"), str("7"), whole("8"), char('b'), pair(nothing(), nothing()), pair(nothing(), eof()), pair(eof(), nothing()), list(symbol("c"), symbol("c")), dotted(symbol("c"), symbol("c"), symbol("c")), pair(list(symbol("c")), symbol("c")))
	for i, a := range all {
		for j, b := range all {
			same(t, a, b, i == j)
			same(t, list(a, nothing(), b), list(b, nothing(), a), i == j)
			same(t, vector(a, b), vector(b, a), i == j)
		}
		agree(t, a, a)
		agree(t, a, at(12, a))
		for _, b := range changed(a) {
			if a.Kind == api.DPair && len(a.Kids) == len(b.Kids) && a.Kind == b.Kind {
				agree(t, a, b)
			} else {
				differ(t, a, b)
			}
		}
	}
}

// TestSameOffsets: data that are equal but for offsets are the same.
func TestSameOffsets(t *testing.T) {
	for _, src := range []string{"(a #(b 12) . c)", "'(a . (b))", "#(#u8(1 2) \"s\" #\\a #t ())", "((()))", "''a"} {
		spread := strings.NewReplacer("#u8(", " #u8( ", "#(", " #( ", "(", " ( ", ")", " ) ", "'", " ' ").Replace(src)
		a, b := one(t, src), one(t, "; c\n"+spread)
		if told(a, true) == told(b, true) {
			t.Errorf("%q and %q have the same offsets", src, spread)
		}
		agree(t, a, b)
	}
}

// TestSameAliases: the number of an alias counts.
func TestSameAliases(t *testing.T) {
	a := symbol("a")
	agree(t, named(a, 7, "a"), named(a, 7, "a"))
	differ(t, a, named(a, 1, "a"))
	differ(t, named(a, 1, "a"), named(a, 2, "a"))
	differ(t, named(a, -1, "a"), named(a, 1, "a"))
	differ(t, named(a, 7, "a"), named(a, 7, "b"))
}

// TestSamePairs: the N and the Text of a pair do not count, but those of what only looks like one, and of all others, do.
func TestSamePairs(t *testing.T) {
	a := symbol("a")
	agree(t, named(pair(a, a), 1, "x"), pair(a, a))
	agree(t, named(pair(a, a), 1, "x"), named(pair(a, a), 2, "y"))
	agree(t, list(a, named(pair(a, a), 1, ""), a), list(a, named(pair(a, a), 0, "y"), a))
	differ(t, named(vector(a, a), 1, ""), vector(a, a))
	differ(t, named(vector(a, a), 0, "x"), vector(a, a))
	differ(t, named(vector(), 0, "x"), vector())
	differ(t, pair(a, a), vector(a, a))
	for _, d := range []api.Datum{nothing(), truth(0), whole("7"), char('a'), str("b"), bytevector("d"), eof(), none()} {
		differ(t, d, named(d, d.N+7, d.Text))
		differ(t, d, named(d, d.N, d.Text+"7"))
	}
	broken := with(pair(a, a), a, a, a)
	agree(t, broken, broken)
	differ(t, broken, named(broken, 1, ""))
	differ(t, broken, named(broken, 0, "x"))
	differ(t, broken, with(broken, a, a))
	differ(t, broken, with(broken, a, a, nothing()))
	differ(t, with(broken, a), with(broken, nothing()))
}

// TestSameKids: no Kids are no Kids, be they nil or empty.
func TestSameKids(t *testing.T) {
	for _, d := range append(atoms(), vector()) {
		empty := d
		d.Kids, empty.Kids = nil, []api.Datum{}
		agree(t, d, empty)
	}
}

// TestRandomData holds May, Write and Same against the model, for valid data and for spoilt ones.
func TestRandomData(t *testing.T) {
	r := randomly{Rand: rand.New(rand.NewPCG(8, 4))}
	valid := 0
	for i := range 50000 {
		r.spoilt = []int{0, 5, 30, 200}[i%4]
		d, other := r.datum(3), r.datum(2)
		if May(d) != modelMay(d) || r.spoilt == 0 && !May(d) {
			t.Fatalf("May(%s) = %v", told(d, true), May(d))
		}
		for _, display := range []bool{false, true} {
			if s := Write(d, display); s != modelWrite(d, display) {
				t.Fatalf("Write(%s, %v) = %q, asked %q", told(d, true), display, s, modelWrite(d, display))
			}
		}
		if !Same(d, d) || Same(d, other) != modelSame(d, other) || Same(other, d) != modelSame(d, other) {
			t.Fatalf("Same(%s, %s) = %v", told(d, true), told(other, true), Same(d, other))
		}
		if modelMay(d) {
			valid++
		}
	}
	if valid < 15000 || valid > 45000 {
		t.Errorf("%d data of 50000 were valid", valid)
	}
}

// P8.4

// TestWrittenAgain: what was read and written is read as the same data.
func TestWrittenAgain(t *testing.T) {
	r := rand.New(rand.NewPCG(8, 5))
	pieces := []string{"(", ")", "'", "#(", "#u8(1 2)", "a . b)", "a", "-07", `"s\n\x41;\x7f;"`, `#\a`, `#\x7f`, `#\space`, "#true", "()", "'()", "(1 . 2)", "#u8()", "\"\u20ac\"", "#\\\u20ac"}
	for range 200000 {
		src := ""
		for range r.IntN(12) {
			src += pieces[r.IntN(len(pieces))] + " "
		}
		l, f := Read([]byte(src))
		if f != (api.Fault{}) {
			continue
		}
		text := ""
		for _, d := range l {
			if !May(d) {
				t.Fatalf("Read(%q): %s is not valid", src, told(d, true))
			}
			text += Write(d, false) + " "
		}
		again := mustRead(t, text)
		if !Same(vector(l...), vector(again...)) || !modelSame(vector(l...), vector(again...)) {
			t.Fatalf("Read(%q) = %s, written %q, read again %s", src, toldAll(l), text, toldAll(again))
		}
	}
}

// TestTextsAreRead: the text of any valid data for which there are tokens is read as the same data.
func TestTextsAreRead(t *testing.T) {
	r := randomly{Rand: rand.New(rand.NewPCG(8, 6))}
	tried := 0
	for range 100000 {
		d := r.datum(4)
		if !readable(d) {
			continue
		}
		tried++
		again := one(t, Write(d, false))
		if !Same(plain(d), again) {
			t.Fatalf("%s, written %q, is read as %s", told(d, true), Write(d, false), told(again, true))
		}
	}
	if tried < 20000 {
		t.Errorf("%d data alone were tried", tried)
	}
}

// TestCharsAreRead: the text of each char, and of each string of one, is read as it.
func TestCharsAreRead(t *testing.T) {
	var src strings.Builder
	var want []api.Datum
	for c := 0; c <= 0x10FFFF; c++ {
		if c == 0xD800 {
			c = 0xE000
		}
		for _, d := range []api.Datum{char(c), str(string(rune(c)))} {
			want = append(want, d)
			src.WriteString(Write(d, false) + " ")
		}
		if len(want) < 20000 && c < 0x10FFFF {
			continue
		}
		if l := mustRead(t, src.String()); !Same(vector(l...), vector(want...)) {
			t.Fatalf("the chars up to %x", c)
		}
		want = want[:0]
		src.Reset()
	}
}

// TestBytesAreRead: so is the text of byte vectors, and of integers.
func TestBytesAreRead(t *testing.T) {
	r := rand.New(rand.NewPCG(8, 7))
	for range 2000 {
		b := make([]byte, r.IntN(300))
		for i := range b {
			b[i] = byte(r.Uint32())
		}
		d := bytevector(string(b))
		if again := one(t, Write(d, false)); !Same(d, again) {
			t.Fatalf("%q is read as %q", b, again.Text)
		}
		d = whole(strconv.FormatInt(int64(r.Uint64()), 10))
		if again := one(t, Write(d, false)); !Same(d, again) {
			t.Fatalf("%s is read as %s", d.Text, again.Text)
		}
	}
}
