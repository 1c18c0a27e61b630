package lex

import (
	"math/big"
	"regexp"
	"slices"
	"strings"
	"unicode/utf8"

	"pennant/api"
)

// The chapter's table as patterns, and its limits, written out so that nothing here leans on the package.
const (
	modelMaxSource = 1 << 24
	modelMaxDepth  = 200
	runPattern     = `[a-zA-Z0-9!$%&*/:<=>?^_~+\-.@]`
)

var (
	blankAhead     = regexp.MustCompile(`^[\x09\x0a\x0c\x0d\x20]+`)
	delimiterAhead = regexp.MustCompile(`^(?:[\x09\x0a\x0c\x0d\x20()";']|$)`)
	booleanAhead   = regexp.MustCompile(`^#` + runPattern + `*`)
	wordAhead      = regexp.MustCompile(`^` + runPattern + `+`)
	wholeNumber    = regexp.MustCompile(`^([+\-]?)0*([0-9]+)$`)
	hexOnly        = regexp.MustCompile(`^[0-9a-fA-F]+$`)
	escapeAhead    = regexp.MustCompile(`^\\(?:["\\nt]|x([0-9a-fA-F]+);)`)
)

// charAhead is the char with which s begins, and its bytes; none, if no char begins there.
func charAhead(s string) (c int, b string) {
	r, size := utf8.DecodeRuneInString(s)
	if r == utf8.RuneError && size < 2 {
		return 0, ""
	}
	return int(r), s[:size]
}

// hexChar is the char that a hex number denotes; below 0, if it is no such number.
func hexChar(digits string) int {
	n := new(big.Int)
	if !hexOnly.MatchString(digits) {
		return -1
	}
	n.SetString(digits, 16)
	if n.Cmp(big.NewInt(0x10FFFF)) > 0 || n.Int64() >= 0xD800 && n.Int64() <= 0xDFFF {
		return -1
	}
	return int(n.Int64())
}

// outcome is what a piece of source gives: its bytes, and its token (of kind 0, if it has none), or a fault.
type outcome struct {
	size  int
	token api.Token
	fault api.Fault
}

func wrong(at int) outcome {
	return outcome{fault: api.Fault{Err: api.ErrForm, Pos: at}}
}

func datumOf(size int, d api.Datum) outcome {
	return outcome{size: size, token: api.Token{Kind: api.TokDatum, Datum: d}}
}

// modelLex is what the chapter promises of Lex.
func modelLex(src []byte) ([]api.Token, api.Fault) {
	if len(src) > modelMaxSource {
		return nil, api.Fault{Err: api.ErrLong}
	}
	var l []api.Token
	for at := 0; at < len(src); {
		o := modelPiece(string(src[at:]))
		if o.fault.Err != api.OK {
			return nil, api.Fault{Err: o.fault.Err, Pos: at + o.fault.Pos}
		}
		if o.token.Kind != 0 {
			o.token.Pos = at
			if o.token.Kind == api.TokDatum {
				o.token.Datum.Pos = at
			}
			l = append(l, o.token)
		}
		at += o.size
	}
	return l, api.Fault{}
}

// modelPiece is what begins at the first byte of s; offsets count from there.
func modelPiece(s string) outcome {
	fixed := []struct {
		text string
		kind int
	}{{"(", api.TokOpen}, {")", api.TokClose}, {"'", api.TokQuote}, {"#(", api.TokVector}, {"#u8(", api.TokBytes}}
	for _, x := range fixed {
		if strings.HasPrefix(s, x.text) {
			return outcome{size: len(x.text), token: api.Token{Kind: x.kind}}
		}
	}
	if b := blankAhead.FindString(s); b != "" {
		return outcome{size: len(b)}
	}
	switch {
	case s[0] == ';':
		return modelLine(s)
	case strings.HasPrefix(s, "#|"):
		return modelNested(s)
	case s[0] == '"':
		return modelString(s)
	case strings.HasPrefix(s, `#\`):
		return closed(s, modelChar(s))
	case s[0] == '#':
		return closed(s, modelBoolean(s))
	}
	return closed(s, modelWord(s))
}

// closed is o, unless a byte follows that is no delimiter.
func closed(s string, o outcome) outcome {
	if o.fault.Err == api.OK && !delimiterAhead.MatchString(s[o.size:]) {
		return wrong(o.size)
	}
	return o
}

// firstBad is the first offset of s at which no char begins; below 0, if there is none.
func firstBad(s string) int {
	for at := 0; at < len(s); {
		_, b := charAhead(s[at:])
		if b == "" {
			return at
		}
		at += len(b)
	}
	return -1
}

func modelLine(s string) outcome {
	comment := s
	if end := strings.IndexByte(s, 10); end >= 0 {
		comment = s[:end]
	}
	if bad := firstBad(comment); bad >= 0 {
		return wrong(bad)
	}
	return outcome{size: len(comment)}
}

func modelNested(s string) outcome {
	var open []int
	for at := 0; at < len(s); {
		_, b := charAhead(s[at:])
		pair := s[at:min(at+2, len(s))]
		switch {
		case pair == "#|" && len(open) == modelMaxDepth:
			return outcome{fault: api.Fault{Err: api.ErrDepth, Pos: at}}
		case pair == "#|":
			open = append(open, at)
			at += 2
		case pair == "|#" && len(open) == 1:
			return outcome{size: at + 2}
		case pair == "|#":
			open = open[:len(open)-1]
			at += 2
		case b == "":
			return wrong(at)
		default:
			at += len(b)
		}
	}
	return wrong(0)
}

func modelString(s string) outcome {
	var chars []int
	for at := 1; at < len(s); {
		switch {
		case s[at] == '"':
			return datumOf(at+1, api.Datum{Kind: api.DString, Text: textOf(chars)})
		case s[at] == '\\' && at == len(s)-1:
			return wrong(0)
		case s[at] == '\\':
			m := escapeAhead.FindStringSubmatch(s[at:])
			if m == nil {
				return wrong(at)
			}
			c := map[string]int{`\"`: 0x22, `\\`: 0x5C, `\n`: 10, `\t`: 9}[m[0]]
			if m[1] != "" {
				c = hexChar(m[1])
			}
			if c < 0 {
				return wrong(at)
			}
			chars = append(chars, c)
			at += len(m[0])
		default:
			c, b := charAhead(s[at:])
			if b == "" {
				return wrong(at)
			}
			chars = append(chars, c)
			at += len(b)
		}
	}
	return wrong(0)
}

// textOf is the bytes of chars.
func textOf(chars []int) string {
	var b []byte
	for _, c := range chars {
		b = utf8.AppendRune(b, rune(c))
	}
	return string(b)
}

func modelChar(s string) outcome {
	c, b := charAhead(s[2:])
	if b == "" {
		return wrong(0)
	}
	name := b + wordAhead.FindString(s[2+len(b):])
	size := 2 + len(name)
	switch {
	case name == b:
	case name == "space":
		c = 32
	case name == "newline":
		c = 10
	case name == "tab":
		c = 9
	case name[0] == 'x' && hexChar(name[1:]) >= 0:
		c = hexChar(name[1:])
	default:
		return wrong(0)
	}
	return datumOf(size, api.Datum{Kind: api.DChar, N: c})
}

func modelBoolean(s string) outcome {
	name := booleanAhead.FindString(s)
	truth := slices.Index([]string{"#f", "#t", "#false", "#true"}, name)
	if truth < 0 {
		return wrong(0)
	}
	return datumOf(len(name), api.Datum{Kind: api.DBool, N: truth % 2})
}

func modelWord(s string) outcome {
	run := wordAhead.FindString(s)
	if run == "" {
		return wrong(0)
	}
	if run == "." {
		return outcome{size: 1, token: api.Token{Kind: api.TokDot}}
	}
	m := wholeNumber.FindStringSubmatch(run)
	if m == nil {
		return datumOf(len(run), api.Datum{Kind: api.DSymbol, Text: run})
	}
	digits := m[2]
	if m[1] == "-" && digits != "0" {
		digits = "-" + digits
	}
	return datumOf(len(run), api.Datum{Kind: api.DInt, Text: digits})
}
