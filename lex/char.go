package lex

import (
	"pennant/api"
	"pennant/utf"
)

// char reads a #\, a char and a run.
func (l *lexer) char() api.Fault {
	first := l.at + len(`#\`)
	c, size, e := utf.Get(l.src, first)
	if e != api.OK {
		return formFault(l.at)
	}
	run := l.runAt(first + size)
	code, known := charOf(rune(c), run)
	if !known {
		return formFault(l.at)
	}
	end := first + size + len(run)
	if f := l.delimited(end); f.Err != api.OK {
		return f
	}
	l.datum(api.Datum{Kind: api.DChar, N: int(code)}, end)
	return api.Fault{}
}

// charOf is the char that a char and a run behind it stand for, and whether they stand for one.
func charOf(first rune, run []byte) (r rune, known bool) {
	if len(run) == 0 {
		return first, true
	}
	switch string(first) + string(run) {
	case "space":
		return ' ', true
	case "newline":
		return '\n', true
	case "tab":
		return '\t', true
	}
	if first != 'x' {
		return 0, false
	}
	return hexNumber(run)
}

// hexNumber is the char that hexadecimal digits denote, and whether they are such digits and denote one.
func hexNumber(digits []byte) (r rune, valid bool) {
	if len(digits) == 0 {
		return 0, false
	}
	n := 0
	for _, c := range digits {
		value := hexDigit(c)
		n = n*16 + value
		// Digits go on without end, so that a number is given up before it overflows.
		if value < 0 || n > api.MaxChar {
			return 0, false
		}
	}
	return rune(n), utf.Is(n)
}

// hexDigit is the value of a hexadecimal digit; below 0, if c is none.
func hexDigit(c byte) int {
	switch {
	case isDigit(c):
		return int(c - '0')
	case 'a' <= c && c <= 'f':
		return int(c-'a') + 10
	case 'A' <= c && c <= 'F':
		return int(c-'A') + 10
	}
	return -1
}
