package lex

import "strings"

// marks is the symbol bytes that are neither letters nor digits.
const marks = "!$%&*/:<=>?^_~+-.@"

func isBlank(c byte) bool {
	return c == ' ' || c == '\t' || c == '\n' || c == '\f' || c == '\r'
}

func isDelimiter(c byte) bool {
	return isBlank(c) || strings.IndexByte(`()";'`, c) >= 0
}

func isDigit(c byte) bool {
	return '0' <= c && c <= '9'
}

func isSymbolByte(c byte) bool {
	return 'a' <= c && c <= 'z' || 'A' <= c && c <= 'Z' || isDigit(c) || strings.IndexByte(marks, c) >= 0
}

// runAt is the run that begins at this offset; it may be empty.
func (l *lexer) runAt(at int) []byte {
	end := at
	for end < len(l.src) && isSymbolByte(l.src[end]) {
		end++
	}
	return l.src[at:end]
}
