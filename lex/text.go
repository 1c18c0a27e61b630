package lex

import (
	"bytes"

	"pennant/api"
	"pennant/utf"
)

// text reads a string.
func (l *lexer) text() api.Fault {
	var chars []rune
	for at := l.at + 1; at < len(l.src); {
		if l.src[at] == '"' {
			l.datum(api.Datum{Kind: api.DString, Text: string(chars)}, at+1)
			return api.Fault{}
		}
		if l.src[at] == '\\' && at+1 == len(l.src) {
			break
		}
		r, size := l.textChar(at)
		if size == 0 {
			return formFault(at)
		}
		chars = append(chars, r)
		at += size
	}
	return formFault(l.at)
}

// textChar is the char of a string that stands at this offset, by itself or as an escape, and how many bytes it takes: 0, if there is none.
func (l *lexer) textChar(at int) (r rune, size int) {
	if l.src[at] == '\\' {
		return escape(l.src[at:])
	}
	c, size, e := utf.Get(l.src, at)
	if e != api.OK {
		return 0, 0
	}
	return rune(c), size
}

// escape is the char that the escape stands for with which b (two bytes at least) begins, and how many bytes it takes: 0, if it is not valid.
func escape(b []byte) (r rune, size int) {
	switch b[1] {
	case '"', '\\':
		return rune(b[1]), 2
	case 'n':
		return '\n', 2
	case 't':
		return '\t', 2
	case 'x':
		return hexEscape(b)
	}
	return 0, 0
}

// hexEscape is escape of \x, a hex number and a semicolon.
func hexEscape(b []byte) (r rune, size int) {
	digits := bytes.IndexByte(b[2:], ';')
	if digits < 0 {
		return 0, 0
	}
	r, valid := hexNumber(b[2 : 2+digits])
	if !valid {
		return 0, 0
	}
	return r, 2 + digits + 1
}
