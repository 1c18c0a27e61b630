package datum

import (
	"fmt"
	"math/big"
	"regexp"
	"strings"
	"unicode/utf8"

	"pennant/api"
	"pennant/lex"
)

// The chapter's definitions, written out so that nothing here leans on the package: sources are read with a stack instead of calls within calls, and data are held against each other by texts that tell every field.

const modelMaxDepth = 200

// modelOpen is what was opened and has not ended: its token, the data in it, and how far it is behind its dot.
type modelOpen struct {
	token api.Token
	items []api.Datum
	bytes string
	dot   int // 1 behind a TokDot, 2 behind the datum that follows it
	end   api.Datum
}

// modelRead is what the chapter promises of Read.
func modelRead(src []byte) ([]api.Datum, api.Fault) {
	tokens, f := lex.Lex(src)
	if f.Err != api.OK {
		return nil, f
	}
	stack := []modelOpen{{}}
	for _, t := range tokens {
		top := &stack[len(stack)-1]
		if !modelAllowed(top, t) {
			return nil, api.Fault{Err: api.ErrSyntax, Pos: t.Pos}
		}
		switch {
		case t.Kind == api.TokDot:
			top.dot = 1
		case t.Kind == api.TokClose:
			d := modelClosed(top, t)
			stack = modelPut(stack[:len(stack)-1], d)
		case top.token.Kind == api.TokBytes:
			top.bytes += string([]byte{byte(modelNumber(t.Datum.Text).Int64())})
		case t.Kind == api.TokDatum:
			stack = modelPut(stack, t.Datum)
		case len(stack) > modelMaxDepth:
			return nil, api.Fault{Err: api.ErrDepth, Pos: t.Pos}
		default:
			stack = append(stack, modelOpen{token: t})
		}
	}
	if len(stack) > 1 {
		return nil, api.Fault{Err: api.ErrSyntax, Pos: stack[len(stack)-1].token.Pos}
	}
	return stack[0].items, api.Fault{}
}

func modelNumber(text string) *big.Int {
	n, _ := new(big.Int).SetString(text, 10)
	return n
}

// modelAllowed reports whether the token may stand where top is the innermost thing that is open.
func modelAllowed(top *modelOpen, t api.Token) bool {
	kind := top.token.Kind
	if kind == api.TokBytes && t.Kind != api.TokClose {
		return t.Kind == api.TokDatum && t.Datum.Kind == api.DInt && modelNumber(t.Datum.Text).Sign() >= 0 && modelNumber(t.Datum.Text).Cmp(big.NewInt(255)) <= 0
	}
	if top.dot == 2 {
		return t.Kind == api.TokClose
	}
	switch t.Kind {
	case api.TokClose:
		return kind != 0 && kind != api.TokQuote && top.dot == 0
	case api.TokDot:
		return kind == api.TokOpen && top.dot == 0 && len(top.items) > 0
	}
	return true
}

// modelClosed is the list, vector or byte vector that ends with this token.
func modelClosed(top *modelOpen, shut api.Token) api.Datum {
	pos := top.token.Pos
	switch {
	case top.token.Kind == api.TokVector:
		return api.Datum{Kind: api.DVector, Kids: top.items, Pos: pos}
	case top.token.Kind == api.TokBytes:
		return api.Datum{Kind: api.DBytes, Text: top.bytes, Pos: pos}
	case len(top.items) == 0:
		return api.Datum{Kind: api.DNil, Pos: pos}
	case top.dot == 0:
		top.end = api.Datum{Kind: api.DNil, Pos: shut.Pos}
	}
	list := modelList(top.items, top.end)
	list.Pos = pos
	return list
}

// modelList is the list of these data, at least one, made from its beginning on.
func modelList(items []api.Datum, end api.Datum) api.Datum {
	list := api.Datum{Kids: make([]api.Datum, 2)}
	at := &list
	for i, d := range items {
		at.Kind, at.Pos, at.Kids[0] = api.DPair, d.Pos, d
		if i == len(items)-1 {
			at.Kids[1] = end
			break
		}
		at = &at.Kids[1]
		at.Kids = make([]api.Datum, 2)
	}
	return list
}

// modelPut puts a datum into the innermost thing that is open, and ends the quotes that it is quoted by.
func modelPut(stack []modelOpen, d api.Datum) []modelOpen {
	for {
		top := &stack[len(stack)-1]
		switch {
		case top.token.Kind == api.TokQuote:
			at := top.token.Pos
			symbol := api.Datum{Kind: api.DSymbol, Text: "quote", Pos: at}
			last := api.Datum{Kind: api.DPair, Kids: []api.Datum{d, {Kind: api.DNil, Pos: d.Pos}}, Pos: d.Pos}
			d = api.Datum{Kind: api.DPair, Kids: []api.Datum{symbol, last}, Pos: at}
			stack = stack[:len(stack)-1]
			continue
		case top.dot == 1:
			top.end, top.dot = d, 2
		default:
			top.items = append(top.items, d)
		}
		return stack
	}
}

var modelInteger = regexp.MustCompile(`^(0|-?[1-9][0-9]*)$`)

// modelMay is what the chapter promises of May.
func modelMay(d api.Datum) bool {
	kids := 0
	right := true
	switch d.Kind {
	case 0, 8, 9, 10:
	case 1:
		right = d.N == 0 || d.N == 1
	case 2:
		right = modelInteger.MatchString(d.Text)
	case 3:
		right = d.N >= 0 && d.N < 0xD800 || d.N > 0xDFFF && d.N <= 0x10FFFF
	case 4:
		right = utf8.ValidString(d.Text)
	case 5:
		right = len(d.Text) > 0 && utf8.ValidString(d.Text)
	case 6:
		kids = 2
	case 7:
		kids = len(d.Kids)
	default:
		return false
	}
	for _, kid := range d.Kids {
		right = right && modelMay(kid)
	}
	return right && len(d.Kids) == kids
}

// modelWrite is what the chapter promises of Write.
func modelWrite(d api.Datum, display bool) string {
	if !modelMay(d) {
		return ""
	}
	return modelText(d, display)
}

func modelText(d api.Datum, display bool) string {
	switch d.Kind {
	case api.DBool:
		return map[int]string{0: "#f", 1: "#t"}[d.N]
	case api.DInt, api.DSymbol:
		return d.Text
	case api.DChar:
		return modelChar(d.N, display)
	case api.DString:
		if display {
			return d.Text
		}
		return `"` + modelQuoted(d.Text) + `"`
	case api.DPair:
		text := "(" + modelText(d.Kids[0], display)
		for d = d.Kids[1]; d.Kind == api.DPair; d = d.Kids[1] {
			text += " " + modelText(d.Kids[0], display)
		}
		if d.Kind != api.DNil {
			text += " . " + modelText(d, display)
		}
		return text + ")"
	case api.DVector:
		var texts []string
		for _, kid := range d.Kids {
			texts = append(texts, modelText(kid, display))
		}
		return "#(" + strings.Join(texts, " ") + ")"
	case api.DBytes:
		return "#u8(" + strings.Trim(fmt.Sprint([]byte(d.Text)), "[]") + ")"
	}
	return map[int]string{api.DNil: "()", api.DEof: "#!eof", api.DNone: "#!none"}[d.Kind]
}

func modelChar(c int, display bool) string {
	name, known := map[int]string{0x20: "space", 0xA: "newline", 9: "tab"}[c]
	switch {
	case display:
		return string(rune(c))
	case known:
		return `#\` + name
	case c < 0x20 || c == 0x7F:
		return fmt.Sprintf(`#\x%x`, c)
	}
	return `#\` + string(rune(c))
}

func modelQuoted(text string) string {
	text = strings.ReplaceAll(text, `\`, `\\`)
	text = strings.ReplaceAll(text, `"`, `\"`)
	text = strings.ReplaceAll(text, "\n", `\n`)
	text = strings.ReplaceAll(text, "\t", `\t`)
	for c := range 0x80 {
		if c < 0x20 || c == 0x7F {
			text = strings.ReplaceAll(text, string(rune(c)), fmt.Sprintf(`\x%x;`, c))
		}
	}
	return text
}

// modelSame is what the chapter promises of Same.
func modelSame(a, b api.Datum) bool {
	return told(a, false) == told(b, false)
}

// told is a text that tells every field of d; without the offsets, and the N and the Text of pairs, if it is so asked.
func told(d api.Datum, all bool) string {
	var b strings.Builder
	tell(&b, d, all)
	return b.String()
}

func tell(b *strings.Builder, d api.Datum, all bool) {
	shuts := 1
	for {
		pair := d.Kind == api.DPair && len(d.Kids) == 2
		fmt.Fprintf(b, "[%d", d.Kind)
		if all || !pair {
			fmt.Fprintf(b, " %d %q", d.N, d.Text)
		}
		if all {
			fmt.Fprintf(b, " @%d", d.Pos)
		}
		if !pair {
			break
		}
		tell(b, d.Kids[0], all)
		d = d.Kids[1]
		shuts++
	}
	for _, kid := range d.Kids {
		tell(b, kid, all)
	}
	b.WriteString(strings.Repeat("]", shuts))
}

// toldAll is the texts of data, with all of their fields.
func toldAll(l []api.Datum) string {
	var b strings.Builder
	for _, d := range l {
		tell(&b, d, true)
	}
	return b.String()
}
