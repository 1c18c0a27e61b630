package lex

import (
	"bytes"
	"fmt"
	"math/rand/v2"
	"reflect"
	"slices"
	"strings"
	"testing"

	"pennant/api"
)

// The tokens, to be written shortly.

func mark(kind, pos int) api.Token { return api.Token{Kind: kind, Pos: pos} }

func datum(pos, kind, n int, text string) api.Token {
	return api.Token{Kind: api.TokDatum, Pos: pos, Datum: api.Datum{Kind: kind, N: n, Text: text, Pos: pos}}
}

func open(pos int) api.Token                { return mark(1, pos) }
func shut(pos int) api.Token                { return mark(2, pos) }
func quote(pos int) api.Token               { return mark(3, pos) }
func vector(pos int) api.Token              { return mark(4, pos) }
func bytesOpen(pos int) api.Token           { return mark(5, pos) }
func dot(pos int) api.Token                 { return mark(6, pos) }
func truth(pos, n int) api.Token            { return datum(pos, 1, n, "") }
func whole(pos int, text string) api.Token  { return datum(pos, 2, 0, text) }
func char(pos, code int) api.Token          { return datum(pos, 3, code, "") }
func str(pos int, text string) api.Token    { return datum(pos, 4, 0, text) }
func symbol(pos int, text string) api.Token { return datum(pos, 5, 0, text) }

// same reports whether two lists of tokens are equal; no tokens are no tokens.
func same(a, b []api.Token) bool {
	return len(a) == 0 && len(b) == 0 || reflect.DeepEqual(a, b)
}

// brief is the beginning of a text, for what is told.
func brief(b []byte) string {
	if len(b) > 200 {
		return fmt.Sprintf("%q.. (%d bytes)", b[:200], len(b))
	}
	return fmt.Sprintf("%q", b)
}

// tells checks that Lex of src gives these tokens, and no fault.
func tells(t *testing.T, src string, want ...api.Token) {
	t.Helper()
	l, f := Lex([]byte(src))
	if !same(l, want) || f != (api.Fault{}) {
		t.Errorf("Lex(%s) = %v %v, asked %v", brief([]byte(src)), l, f, want)
	}
}

// fails checks that Lex of src gives this fault, and no tokens.
func fails(t *testing.T, src string, e api.Errno, pos int) {
	t.Helper()
	l, f := Lex([]byte(src))
	if len(l) != 0 || f != (api.Fault{Err: e, Pos: pos}) {
		t.Errorf("Lex(%s) = %v %v, asked %d at %d", brief([]byte(src)), l, f, e, pos)
	}
}

// check holds Lex of src against the model.
func check(t *testing.T, src []byte) {
	t.Helper()
	want, fault := modelLex(src)
	if l, f := Lex(src); !same(l, want) || f != fault {
		t.Fatalf("Lex(%s) = %v %v, asked %v %v", brief(src), l, f, want, fault)
	}
}

const (
	errLong  api.Errno = 3
	errForm  api.Errno = 4
	errDepth api.Errno = 5
)

// P7.1

func TestExamples(t *testing.T) {
	tells(t, "(a . #t)", open(0), symbol(1, "a"), dot(3), truth(5, 1), shut(7))
	tells(t, "'#u8(007) ; x", quote(0), bytesOpen(1), whole(5, "7"), shut(8))
	tells(t, `#\x41 #\x #\( "a\x42;"`, char(0, 'A'), char(6, 'x'), char(10, '('), str(14, "aB"))
	tells(t, "+5 -00 1+ ... #|a#|b|#c|# z", whole(0, "5"), whole(3, "0"), symbol(7, "1+"), symbol(10, "..."), symbol(26, "z"))
	fails(t, `"ab`, errForm, 0)
	fails(t, "#q", errForm, 0)
	fails(t, "#ta", errForm, 0)
	fails(t, "a[", errForm, 1)
	fails(t, "#|a", errForm, 0)
	fails(t, `"\q"`, errForm, 1)
}

// TestNothing: no bytes, blanks and comments are no tokens.
func TestNothing(t *testing.T) {
	for _, src := range []string{"", " ", "\t\n\f\r ", ";", "; x", ";\n", ";;;", "#||#", "#|a|#", " #|a|# ; b\n\n", "#||##||#", "; #| \n", "; \" \n", "#| \" |#", "#|;|#"} {
		tells(t, src)
	}
	tells(t, ";(\n(", open(3))
	if l, f := Lex(nil); len(l) != 0 || f != (api.Fault{}) {
		t.Errorf("Lex(nil) = %v %v", l, f)
	}
}

// TestMarks: the tokens without a datum.
func TestMarks(t *testing.T) {
	tells(t, "()'#(#u8(.", open(0), shut(1), quote(2), vector(3), bytesOpen(5), dot(9))
	tells(t, "((", open(0), open(1))
	tells(t, "))''", shut(0), shut(1), quote(2), quote(3))
	tells(t, "#()#u8()", vector(0), shut(2), bytesOpen(3), shut(7))
	tells(t, "(.)", open(0), dot(1), shut(2))
	tells(t, ". .", dot(0), dot(2))
	tells(t, ".(.\".\".;", dot(0), open(1), dot(2), str(3, "."), dot(6))
}

// TestDotsInRuns: a dot is a token of its own only if it is the whole run.
func TestDotsInRuns(t *testing.T) {
	for _, run := range []string{"..", "...", "a.", ".a", "a.b", "1.", ".1", "1.5", "+.", ".+", "-.5", ".-"} {
		tells(t, run, symbol(0, run))
		tells(t, "("+run+")", open(0), symbol(1, run), shut(1+len(run)))
	}
}

// TestEachByteAlone: what each byte is, if nothing else is there.
func TestEachByteAlone(t *testing.T) {
	const symbols = "abcdefghijklmnopqrstuvwxyzABCDEFGHIJKLMNOPQRSTUVWXYZ!$%&*/:<=>?^_~+-@"
	for c := range 256 {
		src := string([]byte{byte(c)})
		switch {
		case c == 9 || c == 10 || c == 12 || c == 13 || c == 32 || c == ';':
			tells(t, src)
		case c == '(':
			tells(t, src, open(0))
		case c == ')':
			tells(t, src, shut(0))
		case c == '\'':
			tells(t, src, quote(0))
		case c == '.':
			tells(t, src, dot(0))
		case '0' <= c && c <= '9':
			tells(t, src, whole(0, src))
		case strings.Contains(symbols, src):
			tells(t, src, symbol(0, src))
		default:
			fails(t, src, errForm, 0)
		}
	}
}

// TestNothingBegins: the fault is at the byte, whatever stands ahead of it.
func TestNothingBegins(t *testing.T) {
	ahead := []string{"", "a ", "(", ")", "'", "#(", "#u8(", "#t ", `#\a `, `"a"`, "12 ", " ", "\n\n", "; c\n", "#|c|#", ";\xC3\xA9\n", "(a . #t) "}
	for _, s := range ahead {
		for _, bad := range []string{"[", "]", "{", "}", "`", ",", "|", "\\", "#", "\x00", "\x0B", "\x1F", "\x7F", "\x80", "\xFF", "\xC3\xA9", "\xEF\xBB\xBF"} {
			for _, behind := range []string{"", " ", " a", "[", "\xFF"} {
				fails(t, s+bad+behind, errForm, len(s))
			}
		}
	}
}

// TestHash: each thing that begins with #, and what is none of them.
func TestHash(t *testing.T) {
	tells(t, "#t", truth(0, 1))
	tells(t, "#true", truth(0, 1))
	tells(t, "#f", truth(0, 0))
	tells(t, "#false", truth(0, 0))
	tells(t, "#t #f(#true)'#false;", truth(0, 1), truth(3, 0), open(5), truth(6, 1), shut(11), quote(12), truth(13, 0))
	for _, src := range []string{"#", "##", "##t", "# t", "#T", "#F", "#tr", "#tru", "#truex", "#True", "#fals", "#falsely", "#tf", "#t.", "#t1", "#1", "#.", "#+", "#'", "#\"a\"", "#;a", "#;", "#)", "#[", "#{", "#!", "#!eof", "#!none", "#u", "#u8", "#u8 (", "#u8[", "#u8)", "#u8'(", "#u8#(", "#u9(", "#u(", "#U8(", "#u88(", "#u8a(", "#a(", "#t8(", "#8(", "# (", "# |a|#", "#x41", "#b1", "#\xC3\xA9", "#\xFF", "#\x00"} {
		fails(t, src, errForm, 0)
		fails(t, "(a "+src, errForm, 3)
		fails(t, ";\n"+src+" b", errForm, 2)
	}
}

// TestBehindTokens: a boolean, a char or a run is followed by a delimiter or the end; the others by anything.
func TestBehindTokens(t *testing.T) {
	bad := []string{"#", "#t", "#(", "#|a|#", `#\a`, "[", "]", "{", "}", "`", ",", "|", "\\", "\x00", "\x0B", "\x7F", "\x80", "\xFF", "\xC3\xA9"}
	for _, src := range []string{"#t", "#f", "#true", "#false", `#\a`, `#\space`, `#\x`, `#\x41`, `#\(`, `#\#`, `#\ `, "#\\\n", "#\\\xC3\xA9", "a", "12", "-", "+5", "-007", ".", "..."} {
		for _, b := range bad {
			fails(t, src+b, errForm, len(src))
			fails(t, "' "+src+b+" z", errForm, 2+len(src))
		}
		for _, delimiter := range []string{"", " ", "\t", "\n", "\f", "\r", "(", ")", "'", "\"\"", ";", ";x"} {
			if l, f := Lex([]byte(src + delimiter)); f != (api.Fault{}) || len(l) == 0 || l[0].Pos != 0 {
				t.Errorf("Lex(%q) = %v %v", src+delimiter, l, f)
			}
		}
	}
	tells(t, `"a"b`, str(0, "a"), symbol(3, "b"))
	tells(t, `"a""b"`, str(0, "a"), str(3, "b"))
	tells(t, `"a"#t`, str(0, "a"), truth(3, 1))
	tells(t, `(#t)#f`, open(0), truth(1, 1), shut(3), truth(4, 0))
	tells(t, "'#t'#\\a'a", quote(0), truth(1, 1), quote(3), char(4, 'a'), quote(7), symbol(8, "a"))
	tells(t, "#||#a", symbol(4, "a"))
	fails(t, "a#||#", errForm, 1)
}

func TestChars(t *testing.T) {
	for _, x := range []struct {
		src  string
		code int
	}{
		{`#\a`, 'a'}, {`#\A`, 'A'}, {`#\x`, 'x'}, {`#\X`, 'X'}, {`#\0`, '0'}, {`#\.`, '.'}, {`#\-`, '-'}, {`#\@`, '@'},
		{`#\(`, '('}, {`#\)`, ')'}, {`#\"`, '"'}, {`#\'`, '\''}, {`#\;`, ';'}, {`#\#`, '#'}, {`#\\`, '\\'}, {`#\|`, '|'}, {`#\[`, '['},
		{`#\ `, ' '}, {"#\\\n", '\n'}, {"#\\\t", '\t'}, {"#\\\x00", 0}, {"#\\\x0B", 11}, {"#\\\x7F", 0x7F},
		{"#\\\xC3\xA9", 0xE9}, {"#\\\xE2\x82\xAC", 0x20AC}, {"#\\\xF0\x9F\x98\x80", 0x1F600}, {"#\\\xEF\xBF\xBD", 0xFFFD}, {"#\\\xF4\x8F\xBF\xBF", 0x10FFFF}, {"#\\\xEF\xBB\xBF", 0xFEFF},
		{`#\space`, 32}, {`#\newline`, 10}, {`#\tab`, 9},
		{`#\s`, 's'}, {`#\n`, 'n'}, {`#\t`, 't'},
		{`#\x0`, 0}, {`#\x00`, 0}, {`#\x41`, 0x41}, {`#\x041`, 0x41}, {`#\xe9`, 0xE9}, {`#\xE9`, 0xE9}, {`#\xa`, 10}, {`#\xF`, 15}, {`#\xABCDE`, 0xABCDE}, {`#\xabcde`, 0xABCDE},
		{`#\xD7FF`, 0xD7FF}, {`#\xe000`, 0xE000}, {`#\x10FFFF`, 0x10FFFF}, {`#\x10ffff`, 0x10FFFF}, {`#\x0000000000000000000010FFFF`, 0x10FFFF},
		{`#\x` + strings.Repeat("0", 100000) + "7", 7}, {`#\x` + strings.Repeat("0", 5000), 0},
	} {
		tells(t, x.src, char(0, x.code))
		tells(t, " ("+x.src+")", open(1), char(2, x.code), shut(2+len(x.src)))
	}
	tells(t, `#\((`, char(0, '('), open(3))
	tells(t, `#\)))`, char(0, ')'), shut(3), shut(4))
	tells(t, `#\;;`, char(0, ';'))
	tells(t, `#\"""`, char(0, '"'), str(3, ""))
	tells(t, `#\''a`, char(0, '\''), quote(3), symbol(4, "a"))
	tells(t, `#\  a`, char(0, ' '), symbol(4, "a"))
	tells(t, `#\x 41`, char(0, 'x'), whole(4, "41"))
}

func TestNoChars(t *testing.T) {
	for _, src := range []string{
		`#\`, "#\\\x80", "#\\\xFF", "#\\\xC3", "#\\\xC3a", "#\\\xE2\x82", "#\\\xE2\x82 ", "#\\\xED\xA0\x80", "#\\\xF4\x90\x80\x80", "#\\\xC0\x80", "#\\\xA9",
		`#\aa`, `#\a1`, `#\1a`, `#\Space`, `#\SPACE`, `#\spac`, `#\spaces`, `#\space1`, `#\newlin`, `#\newlines`, `#\Newline`, `#\ta`, `#\tabs`, `#\Tab`, `#\nul`, `#\null`, `#\linefeed`, `#\return`, `#\delete`,
		`#\(a`, `#\(space`, `#\ space`, `#\;x`, `#\#x41`, "#\\\xC3\xA9x", "#\\\xC3\xA9space", `#\u41`, `#\X41`, `#\xg`, `#\x4g`, `#\xG4`, `#\xx`, `#\xx41`, `#\x-1`, `#\x+1`, `#\x4.`, `#\x0x41`, `#\x@`, `#\x/`, `#\x:`,
		`#\xD800`, `#\xd800`, `#\xDBFF`, `#\xDC00`, `#\xDFFF`, `#\xdfff`, `#\x110000`, `#\x00110000`, `#\x1FFFFF`, `#\xFFFFFFFF`, `#\x100000041`, `#\x10000000000000041`, `#\x` + strings.Repeat("f", 100000), `#\x1` + strings.Repeat("0", 64), `#\x` + strings.Repeat("0", 1000) + "d800",
	} {
		fails(t, src, errForm, 0)
		fails(t, "(b "+src, errForm, 3)
	}
	// What the char and its run say is asked ahead of the byte behind them.
	fails(t, `#\aa[`, errForm, 0)
	fails(t, "#\\xD800\xFF", errForm, 0)
}

// TestSurrogates: no number between D800 and DFFF is a char, in either form.
func TestSurrogates(t *testing.T) {
	for c := 0xD7F0; c < 0xE010; c++ {
		short, escaped := fmt.Sprintf(`#\x%x`, c), fmt.Sprintf(`"\x%X;"`, c)
		if c >= 0xD800 && c <= 0xDFFF {
			fails(t, short, errForm, 0)
			fails(t, escaped, errForm, 1)
		} else {
			tells(t, short, char(0, c))
			tells(t, escaped, str(0, string(rune(c))))
		}
	}
}

func TestIntegers(t *testing.T) {
	for _, x := range [][2]string{
		{"0", "0"}, {"7", "7"}, {"10", "10"}, {"1234567890", "1234567890"},
		{"+5", "5"}, {"-5", "-5"}, {"+0", "0"}, {"-0", "0"}, {"00", "0"}, {"000", "0"}, {"+00", "0"}, {"-00", "0"},
		{"007", "7"}, {"+007", "7"}, {"-007", "-7"}, {"0100", "100"}, {"-0100", "-100"}, {"-00100200", "-100200"}, {"+9", "9"}, {"-90", "-90"},
		{"99999999999999999999999999999999", "99999999999999999999999999999999"},
		{"-00009223372036854775809", "-9223372036854775809"},
		{strings.Repeat("0", 1000), "0"}, {"-" + strings.Repeat("0", 1000), "0"}, {"-" + strings.Repeat("0", 1000) + "3", "-3"},
		{strings.Repeat("1234567890", 1000), strings.Repeat("1234567890", 1000)},
	} {
		tells(t, x[0], whole(0, x[1]))
		tells(t, "#("+x[0]+";", vector(0), whole(2, x[1]))
	}
	tells(t, "1 -2(+3)", whole(0, "1"), whole(2, "-2"), open(4), whole(5, "3"), shut(7))
}

// TestSymbols: what begins like an integer, or has other symbol bytes, is a symbol.
func TestSymbols(t *testing.T) {
	all := "abcdefghijklmnopqrstuvwxyzABCDEFGHIJKLMNOPQRSTUVWXYZ0123456789!$%&*/:<=>?^_~+-.@"
	for _, run := range []string{
		"+", "-", "++", "--", "+-", "-+", "+-5", "-+5", "--5", "++5", "1+", "1-", "-1+", "5-5", "+5-", "1/2", "1e5", "0x41", "0a", "a0", "-a", "+a", "-1a", "1a", "12345a", "+i", "-.", "@", "->", "1.0", "1_000",
		"a", "A", "aB", "lambda", "set!", "call/cc", "%+", "...", "<=?", "=>", "_", "x->y", "true", "f", "t", "u8", "space", all, strings.Repeat("a", 100000),
	} {
		tells(t, run, symbol(0, run))
		tells(t, run+")"+run, symbol(0, run), shut(len(run)), symbol(len(run)+1, run))
	}
}

func TestStrings(t *testing.T) {
	for _, x := range [][2]string{
		{`""`, ""}, {`"a"`, "a"}, {`"a b"`, "a b"}, {`"(;'#|)"`, "(;'#|)"}, {"\"a\nb\r\t\"", "a\nb\r\t"}, {"\"\x00\x0B\x7F\"", "\x00\x0B\x7F"},
		{"\"\xC3\xA9\xE2\x82\xAC\xF0\x9F\x98\x80\xEF\xBF\xBD\"", "\xC3\xA9\xE2\x82\xAC\xF0\x9F\x98\x80\xEF\xBF\xBD"},
		{`"\""`, `"`}, {`"\\"`, `\`}, {`"\n"`, "\n"}, {`"\t"`, "\t"}, {`"\x41;"`, "A"},
		{`"\"\\\n\t\x42;"`, "\"\\\n\tB"}, {`"\\n"`, `\n`}, {`"\\\\"`, `\\`}, {`"\\\""`, `\"`}, {`"a\"b"`, `a"b`}, {`"\nn\tt"`, "\nn\tt"},
		{`"\x0;"`, "\x00"}, {`"\x0000;"`, "\x00"}, {`"\x22;"`, `"`}, {`"\x5C;n"`, `\n`}, {`"\x5c;\x3b;;"`, `\;;`},
		{`"\xe9;\xE9;\x20AC;\x1f600;"`, "\xC3\xA9\xC3\xA9\xE2\x82\xAC\xF0\x9F\x98\x80"},
		{`"\xFFFD;\x10FFFF;\x0010ffff;\xD7FF;\xE000;"`, "\xEF\xBF\xBD\xF4\x8F\xBF\xBF\xF4\x8F\xBF\xBF\xED\x9F\xBF\xEE\x80\x80"},
		{`"\x41;42;"`, "A42;"}, {`"x41;"`, "x41;"}, {`"\x` + strings.Repeat("0", 100000) + `41;"`, "A"},
	} {
		tells(t, x[0], str(0, x[1]))
		tells(t, "'"+x[0]+"a", quote(0), str(1, x[1]), symbol(1+len(x[0]), "a"))
	}
}

// TestStringsThatDoNotEnd: the fault is at the first byte.
func TestStringsThatDoNotEnd(t *testing.T) {
	for _, src := range []string{`"`, `"a`, `"a b `, "\"a\n", `"\`, `"a\`, `"\\\`, `"\n`, `"\t`, `"\\`, `"\"`, `"\"\`, `"\x41;`, `"\x41;\`, `"a\"b\"`, "\"\xC3\xA9", "\"\xC3\xA9\\"} {
		fails(t, src, errForm, 0)
		fails(t, `"" `+src, errForm, 3)
		fails(t, "; c\n"+src, errForm, 4)
	}
}

// TestWrongEscapes: the fault is at the \.
func TestWrongEscapes(t *testing.T) {
	for _, escape := range []string{
		`\q`, `\a`, `\N`, `\T`, `\X41;`, `\0`, `\ `, "\\\n", `\'`, `\;`, `\(`, `\#`, "\\\x00", "\\\xC3\xA9", "\\\xFF", "\\\x80",
		`\x;`, `\x41`, `\x`, `\x4`, `\x4g;`, `\xg;`, `\xG;`, `\x@;`, "\\x`;", `\x/;`, `\x:;`, `\x4/;`, "\\x`4;", `\x 41;`, `\x41 ;`, `\x-41;`, `\x+41;`, `\x0x41;`, `\x41,`, `\x4\x1;`, `\x41\;`, `\x"41;`, "\\x\xFF;", "\\x41\xFF;", "\\x\xC3\xA9;",
		`\xD800;`, `\xdfff;`, `\x110000;`, `\xFFFFFFFF;`, `\x100000041;`, `\x10000000000000041;`, `\x` + strings.Repeat("f", 100000) + ";", `\x` + strings.Repeat("0", 1000) + "D800;",
	} {
		fails(t, `"`+escape+`"`, errForm, 1)
		fails(t, `"`+escape, errForm, 1)
		fails(t, `(a "b\n`+escape+`" [`, errForm, 7)
		fails(t, "\"\xC3\xA9"+escape+"\xFF", errForm, 3)
	}
}

// TestNoCharInStrings: the fault is at the byte, even if the string does not end either.
func TestNoCharInStrings(t *testing.T) {
	for _, bad := range []string{"\x80", "\xFF", "\xC3", "\xE2\x82", "\xED\xA0\x80", "\xF4\x90\x80\x80", "\xC0\x80", "\xF0\x9F\x98"} {
		fails(t, "\""+bad+"\"", errForm, 1)
		fails(t, "\"ab"+bad, errForm, 3)
		fails(t, "\"\xC3\xA9\\n"+bad+"\" [", errForm, 5)
		fails(t, "a \""+bad+"\\q\"", errForm, 3)
		fails(t, "a \"\\q"+bad+"\"", errForm, 3)
	}
}

func TestLineComments(t *testing.T) {
	tells(t, "a;b\nc", symbol(0, "a"), symbol(4, "c"))
	tells(t, ";b\rc\nd", symbol(5, "d"))
	tells(t, ";b\fc\x0Bd\x00[`,\\|#\n'", quote(14))
	tells(t, ";\xC3\xA9\xE2\x82\xAC\xF0\x9F\x98\x80\xEF\xBF\xBD\na", symbol(14, "a"))
	tells(t, "; #|\na ; |#\n#|;|# b", symbol(5, "a"), symbol(18, "b"))
	tells(t, ";\"\na;\"", symbol(3, "a"))
	for _, bad := range []string{"\x80", "\xFF", "\xC3", "\xE2\x82", "\xED\xA0\x80", "\xF4\x90\x80\x80"} {
		fails(t, ";"+bad, errForm, 1)
		fails(t, ";"+bad+"\n", errForm, 1)
		fails(t, "a ;bc\xC3\xA9"+bad+"\n[", errForm, 7)
		fails(t, ";\n"+bad, errForm, 2)
	}
	fails(t, ";\xE2\n\x82\xAC", errForm, 1)
}

func TestNestedComments(t *testing.T) {
	tells(t, "#|a|#b", symbol(5, "b"))
	tells(t, "#|\n;|#b", symbol(6, "b"))
	tells(t, "#|||#b", symbol(5, "b"))
	tells(t, "#|#||#|#b", symbol(8, "b"))
	tells(t, "#|#|a|#|#b", symbol(9, "b"))
	tells(t, "#|#|a|#b|#c", symbol(10, "c"))
	tells(t, "#|#|a|##|b|#c|#d", symbol(15, "d"))
	tells(t, "#|##|a|#|#b", symbol(10, "b"))
	tells(t, "#||#b", symbol(4, "b"))
	tells(t, "#|\"|#b", symbol(5, "b"))
	tells(t, "#|[`,\\{}\x00\x0B|#b", symbol(12, "b"))
	tells(t, "#|\xC3\xA9\xF0\x9F\x98\x80\xEF\xBF\xBD|#b", symbol(13, "b"))
	fails(t, "#||#|#", errForm, 4)
	fails(t, "|#", errForm, 0)
}

// TestNestedCommentsThatDoNotEnd: the fault is at the outermost one.
func TestNestedCommentsThatDoNotEnd(t *testing.T) {
	for _, src := range []string{"#|", "#|a", "#|#", "#||", "#| #", "#|#|", "#|#|a|#", "#|#||#", "#|a#|b|#c", "#|#|#||#|#", "#|\n", "#|\\", "#|a|", "#|| #", "#|#|#", "#|#|#|#", "#|\xC3\xA9"} {
		fails(t, src, errForm, 0)
		fails(t, "#||# "+src, errForm, 5)
		fails(t, "(a \"b\" "+src, errForm, 7)
	}
}

// TestNoCharInNestedComments: the fault is at the byte, even if the comment does not end either.
func TestNoCharInNestedComments(t *testing.T) {
	for _, bad := range []string{"\x80", "\xFF", "\xC3", "\xE2\x82", "\xED\xA0\x80", "\xF4\x90\x80\x80"} {
		fails(t, "#|"+bad+"|#", errForm, 2)
		fails(t, "#|"+bad, errForm, 2)
		fails(t, "a #|b#|c"+bad+"|#|#", errForm, 8)
		fails(t, "#|#||#"+bad+"|#[", errForm, 6)
		fails(t, "#|\xC3\xA9"+bad, errForm, 4)
	}
	fails(t, "#|\xC3|#", errForm, 2)
}

// TestDepth: a comment in 199 others is allowed, one in 200 is not.
func TestDepth(t *testing.T) {
	nested := func(n int) string { return strings.Repeat("#|", n) + strings.Repeat("|#", n) }
	for _, n := range []int{1, 2, 100, 199, 200} {
		tells(t, nested(n)+"a", symbol(4*n, "a"))
		tells(t, "#|"+strings.Repeat(nested(n-1), 3)+"|#")
		fails(t, strings.Repeat("#|", n), errForm, 0)
	}
	for _, n := range []int{201, 202, 300, 10000} {
		fails(t, nested(n), errDepth, 400)
		fails(t, strings.Repeat("#|", n), errDepth, 400)
		fails(t, "a #||#"+strings.Repeat(" #|", n)+"\xFF", errDepth, 6+3*200+1)
	}
	tells(t, strings.Repeat("#|", 199)+"#||##||#"+strings.Repeat("|#", 199))
	tells(t, "#|"+strings.Repeat("#||#", 1000)+"|#")
	fails(t, strings.Repeat("#|", 200)+"#", errForm, 0)
	fails(t, strings.Repeat("#|", 200)+"\xFF#|", errForm, 400)
	fails(t, strings.Repeat("#|", 200)+"#|\xFF", errDepth, 400)
	fails(t, strings.Repeat("#|", 199)+"#||##|#|", errDepth, 2*199+6)
	fails(t, strings.Repeat("#||#", 300)+"#|", errForm, 1200)
}

// TestFirstFault: of several faults, the one that is met first is told.
func TestFirstFault(t *testing.T) {
	fails(t, `a[ "\q"`, errForm, 1)
	fails(t, `"\q" a[`, errForm, 1)
	fails(t, `"\n\q\z"`, errForm, 3)
	fails(t, `(#q #q`, errForm, 1)
	fails(t, "#t# #|", errForm, 2)
	fails(t, "#|a|# [ #|", errForm, 6)
	fails(t, "\xFF"+strings.Repeat("#|", 300), errForm, 0)
	fails(t, strings.Repeat("#|", 201)+"\xFF", errDepth, 400)
}

// TestLength: 2^24 bytes are allowed, one more is not, whatever they are.
func TestLength(t *testing.T) {
	const most = 1 << 24
	for _, c := range []byte(" ;a[0") {
		fails(t, strings.Repeat(string(c), most+1), errLong, 0)
	}
	fails(t, strings.Repeat("[", 2*most), errLong, 0)
	fails(t, "["+strings.Repeat(" ", most-1), errForm, 0)
	fails(t, strings.Repeat(" ", most-1)+"[", errForm, most-1)
	fails(t, strings.Repeat(" ", most-1)+"\"", errForm, most-1)
	fails(t, strings.Repeat(";", most-1)+"\xFF", errForm, most-1)
	tells(t, strings.Repeat(" ", most))
	tells(t, strings.Repeat(";", most-2)+"\na", symbol(most-1, "a"))
	tells(t, "#|"+strings.Repeat("#||#", (most-4)/4)+"|#")
	for _, x := range []struct {
		src  string
		want api.Token
	}{
		{strings.Repeat("a", most), symbol(0, strings.Repeat("a", most))},
		{strings.Repeat("0", most), whole(0, "0")},
		{`"` + strings.Repeat("b", most-2) + `"`, str(0, strings.Repeat("b", most-2))},
		{`#\x` + strings.Repeat("0", most-4) + "9", char(0, 9)},
	} {
		if l, f := Lex([]byte(x.src)); f != (api.Fault{}) || !same(l, []api.Token{x.want}) {
			t.Errorf("Lex of %s: %d tokens, %v", brief([]byte(x.src)), len(l), f)
		}
	}
}

// TestManyTokens: none of a long list is lost.
func TestManyTokens(t *testing.T) {
	src := strings.Repeat(`(a . #t)"b"`, 50000)
	l, f := Lex([]byte(src))
	if len(l) != 6*50000 || f != (api.Fault{}) {
		t.Fatalf("%d tokens, %v", len(l), f)
	}
	for i := 0; i < len(l); i += 6 {
		at := i / 6 * 11
		if want := []api.Token{open(at), symbol(at+1, "a"), dot(at + 3), truth(at+5, 1), shut(at + 7), str(at+8, "b")}; !same(l[i:i+6], want) {
			t.Fatalf("%v, asked %v", l[i:i+6], want)
		}
	}
}

// TestShortSources holds Lex against the model, for all sources of few bytes.
func TestShortSources(t *testing.T) {
	for _, x := range []struct {
		bytes string
		most  int
	}{
		{" \n;()'\"#\\|.+-01aftxu8[\x0B\xC3\xA9\xFF", 3},
		{"#\\|\"xa1; \n\xC3\xA9", 5},
		{"#|a\xFF", 8},
		{"+-0.1 ", 6},
		{"\"\\nx4;\xFF", 6},
		{"#\\xd8f0 ", 6},
	} {
		eachSource(nil, x.bytes, x.most, func(src []byte) { check(t, src) })
	}
}

// eachSource does f for begin with each row of at most so many of these bytes behind it.
func eachSource(begin []byte, from string, most int, f func([]byte)) {
	f(begin)
	if most == 0 {
		return
	}
	for _, c := range []byte(from) {
		eachSource(append(slices.Clone(begin), c), from, most-1, f)
	}
}

// pieces is what sources are made of at random, right and wrong.
func pieces() []string {
	return []string{
		"(", ")", "'", "#(", "#u8(", ".", " ", "\n", "\t", "\r", "\f", "; c\n", ";\xC3\xA9", "#|", "|#", "#|a|#", "#||#",
		"#t", "#f", "#true", "#false", "#", "#u8", "#q", `#\`, `#\a`, `#\x`, `#\x41`, `#\space`, `#\tab`, `#\newline`, `#\(`, `#\xD800`, "#\\\xC3\xA9",
		`"`, `"a"`, `"\n"`, `\`, `\"`, `\x41;`, `"\x10FFFF;"`, `\x`, `\q`, "\"\xE2\x82\xAC\"",
		"a", "z!", "0", "17", "+", "-", "-00", "+5", "...", "x", "41", "\xC3\xA9", "\xFF", "[", "|", "\x00", "\x0B", "\xE2\x82",
	}
}

// TestRandomSources holds Lex against the model, for pieces of tokens in any order, with some bytes spoilt.
func TestRandomSources(t *testing.T) {
	rnd := rand.New(rand.NewPCG(7, 1))
	l := pieces()
	for range 200000 {
		var b []byte
		for range rnd.IntN(8) {
			b = append(b, l[rnd.IntN(len(l))]...)
			if rnd.IntN(3) == 0 {
				b = append(b, ' ')
			}
		}
		if len(b) > 0 && rnd.IntN(4) == 0 {
			b[rnd.IntN(len(b))] = byte(rnd.IntN(256))
		}
		check(t, b)
	}
}

// TestRandomBytes: any bytes are answered as the model says.
func TestRandomBytes(t *testing.T) {
	rnd := rand.New(rand.NewPCG(7, 2))
	for range 50000 {
		b := make([]byte, rnd.IntN(12))
		for i := range b {
			b[i] = byte(rnd.IntN(256))
		}
		check(t, b)
	}
}

// P7.2

// randomTokens is texts of tokens, and what they are, each at offset 0.
func randomTokens(rnd *rand.Rand, n int) (texts []string, want []api.Token) {
	text := []string{"(", ")", "'", "#(", "#u8(", ".", "#t", "#false", `#\a`, `#\x41`, `#\space`, "#\\\xC3\xA9", `"a b"`, `"\n\x42;"`, "abc", "...", "+", "-07", "12", `""`, `#\(`}
	token := []api.Token{open(0), shut(0), quote(0), vector(0), bytesOpen(0), dot(0), truth(0, 1), truth(0, 0), char(0, 'a'), char(0, 'A'), char(0, 32), char(0, 0xE9), str(0, "a b"), str(0, "\nB"), symbol(0, "abc"), symbol(0, "..."), symbol(0, "+"), whole(0, "-7"), whole(0, "12"), str(0, ""), char(0, '(')}
	for range n {
		i := rnd.IntN(len(text))
		texts, want = append(texts, text[i]), append(want, token[i])
	}
	return texts, want
}

// between is blanks and comments, one at least; the first is a blank or a ;, so that it delimits.
func between(rnd *rand.Rand) string {
	first := []string{" ", "\n", "\t", "\r", "\f", "; c\n", ";\n", ";#|\n", ";\xC3\xA9\"\n"}
	others := append([]string{"#||#", "#|a b|#", "#|(#|\"|#;|#", "#|\xE2\x82\xAC\n|#"}, first...)
	s := first[rnd.IntN(len(first))]
	for rnd.IntN(2) == 0 {
		s += others[rnd.IntN(len(others))]
	}
	return s
}

// TestPlaces: offsets ascend, and blanks and comments between tokens count only for them.
func TestPlaces(t *testing.T) {
	rnd := rand.New(rand.NewPCG(7, 3))
	for range 20000 {
		texts, want := randomTokens(rnd, rnd.IntN(8))
		src := ""
		for i := range texts {
			if i > 0 || rnd.IntN(2) == 0 {
				src += between(rnd)
			}
			want[i].Pos = len(src)
			if want[i].Kind == api.TokDatum {
				want[i].Datum.Pos = len(src)
			}
			src += texts[i]
		}
		if rnd.IntN(2) == 0 {
			src += between(rnd)
		}
		l, f := Lex([]byte(src))
		if !same(l, want) || f != (api.Fault{}) {
			t.Fatalf("Lex(%q) = %v %v, asked %v", src, l, f, want)
		}
		if !slices.IsSortedFunc(l, func(a, b api.Token) int { return a.Pos - b.Pos }) {
			t.Fatalf("Lex(%q): offsets of %v", src, l)
		}
	}
}

// TestSpread: any source without a fault gives the same tokens if more blanks and comments stand ahead of them.
func TestSpread(t *testing.T) {
	rnd := rand.New(rand.NewPCG(7, 4))
	l := pieces()
	for range 50000 {
		src := ""
		for range rnd.IntN(6) {
			src += l[rnd.IntN(len(l))]
		}
		tokens, f := Lex([]byte(src))
		if f != (api.Fault{}) {
			continue
		}
		spread, last := "", 0
		for i, x := range tokens {
			if i > 0 && tokens[i-1].Pos >= x.Pos {
				t.Fatalf("Lex(%q) = %v", src, tokens)
			}
			spread += src[last:x.Pos] + between(rnd)
			last = x.Pos
		}
		again, f := Lex([]byte(spread + src[last:]))
		if !same(placeless(again), placeless(tokens)) || f != (api.Fault{}) {
			t.Fatalf("Lex(%q) = %v %v, of %q %v", spread+src[last:], again, f, src, tokens)
		}
	}
}

// placeless is tokens without their offsets.
func placeless(l []api.Token) []api.Token {
	l = slices.Clone(l)
	for i := range l {
		l[i].Pos, l[i].Datum.Pos = 0, 0
	}
	return l
}

// P7.3

// TestTexts: the text of an integer, a symbol, a boolean, and a string between quotation marks, is that one token.
func TestTexts(t *testing.T) {
	rnd := rand.New(rand.NewPCG(7, 5))
	l := append(pieces(), "-0012", "#true", "9876543210987654321", "a.b", "1+", `"x\ty"`, `"\x10FFFF;"`)
	for range 50000 {
		tokens, _ := Lex([]byte(l[rnd.IntN(len(l))] + " " + l[rnd.IntN(len(l))]))
		for _, x := range tokens {
			text := ""
			switch d := x.Datum; {
			case d.Kind == api.DInt || d.Kind == api.DSymbol:
				text = d.Text
			case d.Kind == api.DBool:
				text = []string{"#f", "#t"}[d.N]
			case d.Kind == api.DString && !strings.ContainsAny(d.Text, `"\`):
				text = `"` + d.Text + `"`
			default:
				continue
			}
			x.Pos, x.Datum.Pos = 0, 0
			tells(t, text, x)
		}
	}
}

// TestStringsOfAnyChars: between quotation marks, all chars but " and \ stand for themselves.
func TestStringsOfAnyChars(t *testing.T) {
	var all []rune
	for c := rune(0); c <= 0x10FFFF; c++ {
		if c != '"' && c != '\\' && (c < 0xD800 || c > 0xDFFF) {
			all = append(all, c)
		}
		if len(all) == 1000 || c == 0x10FFFF {
			tells(t, `"`+string(all)+`"`, str(0, string(all)))
			all = all[:0]
		}
	}
}

// P7.4

// TestArguments: no source is changed or kept, and no two answers share memory.
func TestArguments(t *testing.T) {
	const src = "(a 'bc . -0012) #(#t #\\x41 \"de\\nf\" \"gh\") #u8(7) ; c\n #|d|# +12 [x"
	for end := 0; end <= len(src); end++ {
		whole := []byte(src + "behind")
		given := whole[:end]
		l, f := Lex(given)
		if string(whole) != src+"behind" {
			t.Fatalf("Lex of %q changed it", src[:end])
		}
		other, _ := Lex(given)
		for i := range whole {
			whole[i] = '#'
		}
		want, fault := modelLex([]byte(src[:end]))
		if !same(l, want) || f != fault {
			t.Fatalf("Lex of %q hangs on its memory: %v %v", src[:end], l, f)
		}
		spoilt := l[:cap(l)]
		for i := range spoilt {
			spoilt[i] = api.Token{Kind: -1}
		}
		if !same(other, want) {
			t.Fatalf("Lex of %q shares its memory: %v", src[:end], other)
		}
	}
}

// TestBehindTheEnd: what lies in the memory behind the bytes counts for nothing.
func TestBehindTheEnd(t *testing.T) {
	for _, src := range []string{"#|a|#", "#u8(", `#\space`, `#\x41`, `"\x41;"`, `"a"`, "#true", "...", "-12", "#\\\xF0\x9F\x98\x80", ";\xE2\x82\xAC", "\"\xE2\x82\xAC\"", "#|\xE2\x82\xAC|#"} {
		for end := range len(src) + 1 {
			check(t, []byte(src)[:end])
			check(t, bytes.Clone([]byte(src)[:end]))
		}
	}
}
