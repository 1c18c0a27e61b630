package datum

import (
	"strconv"
	"strings"

	"pennant/api"
)

// writer is a text that grows, and whether chars and strings are displayed in it.
type writer struct {
	text    strings.Builder
	display bool
}

// Write is the text of d, displayed or written; none, if d is not valid.
func Write(d api.Datum, display bool) string {
	if !May(d) {
		return ""
	}
	w := writer{display: display}
	w.datum(d)
	return w.text.String()
}

// datum writes d, which is valid.
func (w *writer) datum(d api.Datum) {
	switch d.Kind {
	case api.DPair:
		w.list(d)
	case api.DVector:
		w.vector(d.Kids)
	case api.DBytes:
		w.bytes(d.Text)
	case api.DChar:
		w.char(rune(d.N))
	case api.DString:
		w.str(d.Text)
	default:
		w.text.WriteString(plainText(d))
	}
}

// plainText is the text of data that are displayed and written alike, and have no parts.
func plainText(d api.Datum) string {
	switch d.Kind {
	case api.DNil:
		return "()"
	case api.DBool:
		if d.N == 0 {
			return "#f"
		}
		return "#t"
	case api.DEof:
		return "#!eof"
	case api.DNone:
		return "#!none"
	}
	return d.Text
}

// list writes the data of a list, and its end.
func (w *writer) list(d api.Datum) {
	before := "("
	for isPair(d) {
		w.text.WriteString(before)
		w.datum(d.Kids[0])
		before = " "
		d = d.Kids[1]
	}
	if d.Kind != api.DNil {
		w.text.WriteString(" . ")
		w.datum(d)
	}
	w.text.WriteByte(')')
}

func (w *writer) vector(l []api.Datum) {
	w.text.WriteString("#(")
	for i, d := range l {
		if i > 0 {
			w.text.WriteByte(' ')
		}
		w.datum(d)
	}
	w.text.WriteByte(')')
}

func (w *writer) bytes(b string) {
	w.text.WriteString("#u8(")
	for i := range len(b) {
		if i > 0 {
			w.text.WriteByte(' ')
		}
		w.text.WriteString(strconv.Itoa(int(b[i])))
	}
	w.text.WriteByte(')')
}

func (w *writer) char(r rune) {
	if w.display {
		w.text.WriteRune(r)
		return
	}
	w.text.WriteString(`#\`)
	w.text.WriteString(charName(r))
}

// charName is what stands behind #\ for a char.
func charName(r rune) string {
	switch {
	case r == ' ':
		return "space"
	case r == '\n':
		return "newline"
	case r == '\t':
		return "tab"
	case isControl(r):
		return "x" + hexDigits(r)
	}
	return string(r)
}

func (w *writer) str(text string) {
	if w.display {
		w.text.WriteString(text)
		return
	}
	w.text.WriteByte('"')
	for _, r := range text {
		w.charInString(r)
	}
	w.text.WriteByte('"')
}

// charInString writes a char as it stands between quotation marks.
func (w *writer) charInString(r rune) {
	switch {
	case r == '"' || r == '\\':
		w.text.WriteByte('\\')
		w.text.WriteRune(r)
	case r == '\n':
		w.text.WriteString(`\n`)
	case r == '\t':
		w.text.WriteString(`\t`)
	case isControl(r):
		w.text.WriteString(`\x` + hexDigits(r) + ";")
	default:
		w.text.WriteRune(r)
	}
}

// isControl reports whether r cannot be seen, so that its number is written.
func isControl(r rune) bool {
	return r < 0x20 || r == 0x7F
}

func hexDigits(r rune) string {
	return strconv.FormatInt(int64(r), 16)
}
