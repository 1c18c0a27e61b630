package lex

import (
	"strings"

	"pennant/api"
)

// word reads a run: a dot, an integer or a symbol.
func (l *lexer) word() api.Fault {
	run := string(l.runAt(l.at))
	end := l.at + len(run)
	if f := l.delimited(end); f.Err != api.OK {
		return f
	}
	if run == "." {
		l.mark(api.TokDot, 1)
	} else if text, whole := integer(run); whole {
		l.datum(api.Datum{Kind: api.DInt, Text: text}, end)
	} else {
		l.datum(api.Datum{Kind: api.DSymbol, Text: run}, end)
	}
	return api.Fault{}
}

// integer is the text of the integer that a run says, and whether it says one.
func integer(run string) (text string, whole bool) {
	digits := run
	if run[0] == '+' || run[0] == '-' {
		digits = run[1:]
	}
	if digits == "" || strings.ContainsFunc(digits, noDigit) {
		return "", false
	}
	digits = strings.TrimLeft(digits, "0")
	switch {
	case digits == "":
		return "0", true
	case run[0] == '-':
		return "-" + digits, true
	}
	return digits, true
}

func noDigit(r rune) bool {
	return r < '0' || '9' < r
}

// boolean reads a # and a run.
func (l *lexer) boolean() api.Fault {
	run := l.runAt(l.at + 1)
	truth := 0
	switch string(run) {
	case "t", "true":
		truth = 1
	case "f", "false":
	default:
		return formFault(l.at)
	}
	end := l.at + 1 + len(run)
	if f := l.delimited(end); f.Err != api.OK {
		return f
	}
	l.datum(api.Datum{Kind: api.DBool, N: truth}, end)
	return api.Fault{}
}
