package datum

import (
	"math/rand/v2"
	"strconv"
	"strings"
	"testing"

	"pennant/api"
)

// P8.1

// TestNoData: no tokens are no data.
func TestNoData(t *testing.T) {
	for _, src := range []string{"", " ", "; c", "#|a|#", "\n\t"} {
		tells(t, src)
	}
	if l, f := Read(nil); len(l) != 0 || f != (api.Fault{}) {
		t.Errorf("Read(nil) = %v %v", l, f)
	}
}

// TestAtoms: what a TokDatum says is a datum, at its offset.
func TestAtoms(t *testing.T) {
	tells(t, "#t #false 12 -007 #\\a #\\space \"x\\ny\" abc",
		at(0, truth(1)), at(3, truth(0)), at(10, whole("12")), at(13, whole("-7")),
		at(18, char('a')), at(22, char(' ')), at(30, str("x\ny")), at(37, symbol("abc")))
}

// TestListOffsets: the first pair is where the list opens, the others where their first Kids are, the empty list where it closes.
func TestListOffsets(t *testing.T) {
	tells(t, "()", at(0, nothing()))
	tells(t, " ( ) ", at(1, nothing()))
	tells(t, "(a)", at(0, pair(at(1, symbol("a")), at(2, nothing()))))
	tells(t, "( a )", at(0, pair(at(2, symbol("a")), at(4, nothing()))))
	tells(t, "(a  12 #t)",
		at(0, pair(at(1, symbol("a")),
			at(4, pair(at(4, whole("12")),
				at(7, pair(at(7, truth(1)), at(9, nothing()))))))))
	tells(t, "( (a) () )",
		at(0, pair(at(2, pair(at(3, symbol("a")), at(4, nothing()))),
			at(6, pair(at(6, nothing()), at(9, nothing()))))))
	tells(t, "(a #(b) #u8(1) 'c)",
		at(0, pair(at(1, symbol("a")),
			at(3, pair(at(3, vector(at(5, symbol("b")))),
				at(8, pair(at(8, bytevector("\x01")),
					at(15, pair(at(15, pair(at(15, symbol("quote")), at(16, pair(at(16, symbol("c")), at(16, nothing()))))),
						at(17, nothing()))))))))))
}

// TestDotOffsets: the end that stands behind a dot has its own offset.
func TestDotOffsets(t *testing.T) {
	tells(t, "(a . b)", at(0, pair(at(1, symbol("a")), at(5, symbol("b")))))
	tells(t, "(a b . 1)", at(0, pair(at(1, symbol("a")), at(3, pair(at(3, symbol("b")), at(7, whole("1")))))))
	tells(t, "(a . ( ))", at(0, pair(at(1, symbol("a")), at(5, nothing()))))
	tells(t, "(a . (b))", at(0, pair(at(1, symbol("a")), at(5, pair(at(6, symbol("b")), at(7, nothing()))))))
	tells(t, "(a . (b c . d))",
		at(0, pair(at(1, symbol("a")),
			at(5, pair(at(6, symbol("b")), at(8, pair(at(8, symbol("c")), at(12, symbol("d")))))))))
	tells(t, "(a . 'b)",
		at(0, pair(at(1, symbol("a")),
			at(5, pair(at(5, symbol("quote")), at(6, pair(at(6, symbol("b")), at(6, nothing()))))))))
	tells(t, "(a . #(b))", at(0, pair(at(1, symbol("a")), at(5, vector(at(7, symbol("b")))))))
	tells(t, "(a . #u8(0))", at(0, pair(at(1, symbol("a")), at(5, bytevector("\x00")))))
	tells(t, "((a . b) . c)", at(0, pair(at(1, pair(at(2, symbol("a")), at(6, symbol("b")))), at(11, symbol("c")))))
}

// TestQuoteOffsets: the list and the symbol are where the quote is, the second pair and the empty list where the datum is.
func TestQuoteOffsets(t *testing.T) {
	tells(t, "'a", at(0, pair(at(0, symbol("quote")), at(1, pair(at(1, symbol("a")), at(1, nothing()))))))
	tells(t, " ' a", at(1, pair(at(1, symbol("quote")), at(3, pair(at(3, symbol("a")), at(3, nothing()))))))
	tells(t, "'()", at(0, pair(at(0, symbol("quote")), at(1, pair(at(1, nothing()), at(1, nothing()))))))
	tells(t, "' (a)",
		at(0, pair(at(0, symbol("quote")),
			at(2, pair(at(2, pair(at(3, symbol("a")), at(4, nothing()))), at(2, nothing()))))))
	tells(t, "' 'a",
		at(0, pair(at(0, symbol("quote")),
			at(2, pair(at(2, pair(at(2, symbol("quote")), at(3, pair(at(3, symbol("a")), at(3, nothing()))))), at(2, nothing()))))))
	tells(t, "'#(a)", at(0, pair(at(0, symbol("quote")), at(1, pair(at(1, vector(at(3, symbol("a")))), at(1, nothing()))))))
	tells(t, "('a b)",
		at(0, pair(at(1, pair(at(1, symbol("quote")), at(2, pair(at(2, symbol("a")), at(2, nothing()))))),
			at(4, pair(at(4, symbol("b")), at(5, nothing()))))))
	tells(t, "(quote a)", at(0, pair(at(1, symbol("quote")), at(7, pair(at(7, symbol("a")), at(8, nothing()))))))
}

// TestVectorOffsets: vectors and byte vectors are where they open.
func TestVectorOffsets(t *testing.T) {
	tells(t, "#() #( a #( ) ) #u8()", at(0, vector()), at(4, vector(at(7, symbol("a")), at(9, vector()))), at(16, bytevector("")))
	tells(t, " #u8( 0 007 +9 -0 -000 255 ) a", at(1, bytevector("\x00\x07\x09\x00\x00\xFF")), at(29, symbol("a")))
}

// TestAllBytes: each integer from 0 to 255, and no other one, is in byte vectors.
func TestAllBytes(t *testing.T) {
	src, want := "#u8(", ""
	for n := range 256 {
		tells(t, "#u8("+strconv.Itoa(n)+")", at(0, bytevector(string([]byte{byte(n)}))))
		src += strconv.Itoa(n) + " "
		want += string([]byte{byte(n)})
	}
	tells(t, src+")", at(0, bytevector(want)))
	for n := 256; n < 2000; n++ {
		fails(t, "#u8("+strconv.Itoa(n)+")", errSyntax, 4)
		fails(t, "#u8(1 -"+strconv.Itoa(n-255)+")", errSyntax, 6)
	}
}

// TestNoBytes: anything else is told, at its offset.
func TestNoBytes(t *testing.T) {
	for _, src := range []string{
		"256", "-1", "-255", "-256", "257", "300", "1000", "-7", "65536", "4294967296", "4294967297", "18446744073709551616", "18446744073709551617", "-18446744073709551615", "00256",
		"1" + strings.Repeat("0", 100000), "-" + strings.Repeat("9", 100000), strings.Repeat("12", 5000),
		"a", "-", "...", "1+", "#t", "#f", `#\a`, `#\x1`, `"1"`, `""`, "(", "()", "(1)", "'", "'1", "#(", "#(1)", "#u8(", "#u8(1)", ".", ". 1", ". )",
	} {
		fails(t, "#u8("+src, errSyntax, 4)
		fails(t, "#u8("+src+")", errSyntax, 4)
		fails(t, "(a #u8(1 255 "+src+" 256", errSyntax, 13)
		fails(t, "'#(#u8(0) #u8(1 "+src+") .", errSyntax, 16)
	}
}

// TestLexFirst: a fault of the tokens is told ahead of any of the data's.
func TestLexFirst(t *testing.T) {
	for _, src := range []string{"", ")", ". ", "(a . b c)", "(. a)", "(a", "'", "')", "#(. ", "#u8(256)", "#u8(-1 a", strings.Repeat("(", 300), strings.Repeat("'", 201)} {
		for _, bad := range []string{"[", "#q", "\xFF", `"\q"`} {
			pos := len(src) + 1
			if bad[0] == '"' {
				pos++
			}
			fails(t, src+" "+bad, errForm, pos)
			fails(t, src+" "+bad+")", errForm, pos)
		}
		fails(t, src+` "a`, errForm, len(src)+1)
		fails(t, src+" #|a", errForm, len(src)+1)
		fails(t, src+" "+strings.Repeat("#|", 201), errDepth, len(src)+1+400)
	}
	most := 1 << 24
	fails(t, strings.Repeat(" ", most+1), errLong, 0)
	fails(t, strings.Repeat(")", most+1), errLong, 0)
	fails(t, strings.Repeat(" ", most-1)+")", errSyntax, most-1)
	tells(t, strings.Repeat(" ", most-1)+"a", at(most-1, symbol("a")))
}

// TestWrongPlaces: a TokClose or a TokDot where none is allowed, and what follows the end of a list.
func TestWrongPlaces(t *testing.T) {
	for _, x := range []struct {
		src string
		pos int
	}{
		{")", 0}, {" )", 1}, {"a )", 2}, {"())", 2}, {"(a))", 3}, {"#())", 3}, {"#u8())", 5}, {"'a)", 2}, {"'())", 3},
		{"')", 1}, {"(')", 2}, {"('a ')", 5}, {"'')", 2}, {"#(')", 3}, {"(a . ')", 6},
		{".", 0}, {"a .", 2}, {"a . b", 2}, {"() .", 3}, {". a", 0}, {"'.", 1}, {"' . a", 2}, {"'a .", 3},
		{"(. a)", 1}, {"(.)", 1}, {"(.", 1}, {"( . )", 2}, {"(. . a)", 1}, {"((. a))", 2}, {"(a (. b))", 4}, {"(a . (. b))", 6}, {"'(. a)", 2},
		{"(a '. b)", 4}, {"(' . a)", 3}, {"(a . '. b)", 6},
		{"(a . )", 5}, {"(a .)", 4}, {"(a b . )", 7}, {"((a . ) . b)", 6},
		{"(a . . b)", 5}, {"(a . .)", 5}, {"(a . . )", 5},
		{"(a . b c)", 7}, {"(a . b . c)", 7}, {"(a . b .)", 7}, {"(a . b 'c)", 7}, {"(a . b (c))", 7}, {"(a . b ()", 7}, {"(a . b #(c))", 7}, {"(a . b #u8(1))", 7}, {"(a . b \"c\")", 7}, {"(a . () c)", 8}, {"(a . (b) c)", 9}, {"(a . 'b c)", 8}, {"(a . #(b) . c)", 10}, {"(a . #u8(1) 2)", 12}, {"(a . b c", 7}, {"(a . b '", 7}, {"(a . b (", 7}, {"(a . b #u8(256)", 7}, {"(a . b #u8(", 7},
		{"#(.)", 2}, {"#(. a)", 2}, {"#(a . b)", 4}, {"#(a .)", 4}, {"#(a .", 4}, {"(#(a . b) . c)", 5}, {"#((a . b) . c)", 10}, {"'#(a . b)", 5},
		{"#u8(.)", 4}, {"#u8(1 . 2)", 6}, {"#u8(1 .", 6},
		{"a (b c) #(d . e) )", 12}, {"(a . b) (c . d e) )", 15},
	} {
		fails(t, x.src, errSyntax, x.pos)
		fails(t, "(a . b) #u8(1) '() "+x.src, errSyntax, x.pos+19)
		fails(t, x.src+" )", errSyntax, x.pos)
	}
}

// TestNoEnds: the innermost one that has no end is told, when the tokens end.
func TestNoEnds(t *testing.T) {
	for _, x := range []struct {
		src string
		pos int
	}{
		{"(", 0}, {" ( ", 1}, {"(a", 0}, {"(a (b)", 0}, {"(a (b", 3}, {"((", 1}, {"(()", 0}, {"(a . ", 0}, {"(a .", 0}, {"(a . b", 0}, {"(a . (b", 5}, {"(a . (b)", 0}, {"(a . (b .", 5}, {"((a .", 1},
		{"#(", 0}, {"#(a", 0}, {"#(#(", 2}, {"#(#()", 0}, {"(#(a", 1}, {"#((a", 2}, {"(a . #(", 5},
		{"#u8(", 0}, {"#u8(1", 0}, {"#u8(1 255 ", 0}, {"(#u8(", 1}, {"#(#u8(1) #u8(", 9}, {"(a . #u8(1", 5},
		{"'", 0}, {"''", 1}, {"('", 1}, {"#('", 2}, {"'(", 1}, {"'#(", 1}, {"'#u8(", 1}, {"(a . '", 5}, {"(a '", 3}, {"('a", 0}, {"'(a '", 4}, {"(a . 'b", 0}, {"'a '", 3}, {"'('a", 1},
		{"(a) (b", 4}, {"() #() #u8() ' ; c", 13}, {"(a #|)|#", 0}, {"(a ;)\n", 0}, {"(\")\"", 0}, {`(#\)`, 0},
	} {
		fails(t, x.src, errSyntax, x.pos)
		fails(t, "(a . b) #u8(1) '() "+x.src, errSyntax, x.pos+19)
		fails(t, "(a . b) ("+x.src, errSyntax, x.pos+9)
	}
}

// deeper is what brings a datum one level deeper.
func deeper() []struct{ open, shut string } {
	return []struct{ open, shut string }{{"(", ")"}, {"#(", ")"}, {"'", ""}, {"(a ", " b)"}, {"(a . ", ")"}, {"#(a ", " 1)"}, {"(a b . ", " )"}}
}

// TestDepth: lists, vectors, byte vectors and quotes are allowed at the depth 199, not at 200; atoms are at 200.
func TestDepth(t *testing.T) {
	for _, x := range deeper() {
		for _, s := range []string{"()", "(a)", "(a . b)", "#()", "#(a)", "#u8()", "#u8(1 2)", "'a"} {
			for _, n := range []int{0, 1, 100, 198, 199} {
				mustRead(t, nested(n, x.open, s, x.shut))
			}
			for _, n := range []int{200, 201, 300, 5000} {
				fails(t, nested(n, x.open, s, x.shut), errDepth, 200*len(x.open))
				fails(t, "a #u8(7) "+strings.Repeat(x.open, n)+s, errDepth, 9+200*len(x.open))
			}
		}
		for _, s := range []string{"a", "12", "#t", `#\a`, `"s"`} {
			mustRead(t, nested(200, x.open, s, x.shut))
			fails(t, nested(201, x.open, s, x.shut), errDepth, 200*len(x.open))
		}
	}
}

// TestDepthGoesDown: what has ended counts no more.
func TestDepthGoesDown(t *testing.T) {
	deep := nested(199, "(", "", ")")
	mustRead(t, "("+strings.Repeat(deep, 20)+")")
	mustRead(t, "#("+strings.Repeat(deep, 20)+")")
	mustRead(t, "(a . "+deep+")")
	mustRead(t, "'"+deep+"'"+deep)
	mustRead(t, strings.Repeat("'a ", 1000))
	mustRead(t, "("+strings.Repeat("'a ", 1000)+")")
	mustRead(t, strings.Repeat("#u8(1)", 1000))
	fails(t, "(("+deep+"))", errDepth, 2+198)
	fails(t, "('"+deep+")", errDepth, 2+198)
	fails(t, "(a . ("+deep+"))", errDepth, 6+198)
	fails(t, "(a "+deep+" '"+deep+")", errDepth, 3+2*199+2+198)
}

// TestRestsAreNoDepth: the rest of a list is no deeper than its beginning.
func TestRestsAreNoDepth(t *testing.T) {
	for _, s := range []string{"a ", "() ", "'a ", "#(a) ", "#u8(1) "} {
		mustRead(t, nested(199, "(", strings.Repeat(s, 1000), ")"))
		mustRead(t, nested(199, "#(", strings.Repeat(s, 1000), ")"))
	}
	mustRead(t, nested(200, "(", strings.Repeat("a ", 1000)+". b", ")"))
}

// TestDepthAndPlace: of a depth that is passed and a place that is wrong, the one that comes first is told.
func TestDepthAndPlace(t *testing.T) {
	for _, open := range []string{"(", "#(", "'"} {
		deep := strings.Repeat(open, 200)
		for _, next := range []string{"(", "#(", "#u8(", "'"} {
			fails(t, deep+next+") . )", errDepth, len(deep))
			fails(t, deep+next+" . a", errDepth, len(deep))
			fails(t, deep+next+"256", errDepth, len(deep))
			fails(t, ") "+deep+next, errSyntax, 0)
			fails(t, "(a . b c) "+deep+next, errSyntax, 7)
			fails(t, "#u8(256) "+deep+next, errSyntax, 4)
			fails(t, "(a . . "+deep+next, errSyntax, 5)
			fails(t, deep+" . "+next, errSyntax, len(deep)+1)
		}
		fails(t, deep, errSyntax, len(deep)-len(open))
	}
	lists := strings.Repeat("(", 200)
	for _, next := range []string{"(", "#(", "#u8(", "'"} {
		// Of two errors at one token, ErrSyntax is named first.
		fails(t, lists+"a . b "+next, errSyntax, 206)
		fails(t, lists[1:]+"#u8("+next, errSyntax, 203)
		fails(t, lists+"a . "+next, errDepth, 204)
		fails(t, lists+"a . b) "+next, errSyntax, 207)
		fails(t, lists+"a . b) ("+next, errDepth, 208)
		fails(t, lists+") ("+next, errDepth, 203)
		fails(t, lists+"a . ) "+next, errSyntax, 204)
	}
}

// checkRead holds Read of src against the model.
func checkRead(t *testing.T, src []byte) {
	t.Helper()
	want, fault := modelRead(src)
	l, f := Read(src)
	if f != fault || toldAll(l) != toldAll(want) {
		t.Fatalf("Read(%s) = %s %v, asked %s %v", brief(string(src)), brief(toldAll(l)), f, brief(toldAll(want)), fault)
	}
}

// TestShortSources holds Read against the model, for all sources of few tokens.
func TestShortSources(t *testing.T) {
	tokens := []string{"(", ")", "'", "#(", "#u8(", ".", "a", "7", "256"}
	var each func(src string, more int)
	each = func(src string, more int) {
		checkRead(t, []byte(src))
		if more == 0 {
			return
		}
		for _, s := range tokens {
			each(src+s+" ", more-1)
		}
	}
	each("", 6)
}

// TestRandomSources holds Read against the model, for longer sources, most of which are nearly right.
func TestRandomSources(t *testing.T) {
	r := rand.New(rand.NewPCG(8, 1))
	tokens := []string{"(", "(", "(", ")", ")", ")", "'", "#(", "#u8(1 ", "#u8()", "a . b)", ". b)", "a", "7", "\"s\"", `#\a`, "#t", "-1", "256 ", "x", "[", ";\n"}
	for range 200000 {
		src := ""
		for range r.IntN(16) {
			src += tokens[r.IntN(len(tokens))]
			if r.IntN(4) > 0 {
				src += " "
			}
		}
		checkRead(t, []byte(src))
	}
}

// TestRandomBytes: any bytes are answered as the model says.
func TestRandomBytes(t *testing.T) {
	r := rand.New(rand.NewPCG(8, 2))
	for range 100000 {
		b := make([]byte, r.IntN(12))
		for i := range b {
			b[i] = "()'#u8.1a \"\\;|\xFF"[r.IntN(15)]
			if r.IntN(20) == 0 {
				b[i] = byte(r.IntN(256))
			}
		}
		checkRead(t, b)
	}
}

// TestDeepSources holds Read against the model, about the greatest depth.
func TestDeepSources(t *testing.T) {
	r := rand.New(rand.NewPCG(8, 3))
	for range 3000 {
		src := ""
		for range 190 + r.IntN(14) {
			src += pick(randomly{Rand: r}, "(", "(a ", "#(", "'", "(a . ")
		}
		for range r.IntN(30) {
			src += pick(randomly{Rand: r}, "(", ")", "'", "#(", "#u8(", "#u8(1)", ".", " . b", "a ", "7 ", "(a . b)", "'a ")
		}
		checkRead(t, []byte(src))
	}
}
