package lex

import (
	"bytes"

	"pennant/api"
	"pennant/utf"
)

// lineComment passes over a comment up to the end of its line.
func (l *lexer) lineComment() api.Fault {
	for l.at < len(l.src) && l.src[l.at] != '\n' {
		if f := l.passChar(); f.Err != api.OK {
			return f
		}
	}
	return api.Fault{}
}

// nestedComment passes over a comment between #| and |#, and those that are nested in it.
func (l *lexer) nestedComment() api.Fault {
	start, open := l.at, 0
	for l.at < len(l.src) {
		rest := l.src[l.at:]
		switch {
		case bytes.HasPrefix(rest, []byte("#|")):
			if open == api.MaxDepth {
				return api.Fault{Err: api.ErrDepth, Pos: l.at}
			}
			open++
			l.at += 2
		case bytes.HasPrefix(rest, []byte("|#")):
			open--
			l.at += 2
			if open == 0 {
				return api.Fault{}
			}
		default:
			if f := l.passChar(); f.Err != api.OK {
				return f
			}
		}
	}
	return formFault(start)
}

// passChar passes over the char that begins here.
func (l *lexer) passChar() api.Fault {
	_, size, e := utf.Get(l.src, l.at)
	if e != api.OK {
		return formFault(l.at)
	}
	l.at += size
	return api.Fault{}
}
