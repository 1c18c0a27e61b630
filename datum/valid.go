package datum

import (
	"slices"

	"pennant/api"
	"pennant/utf"
)

// May reports whether d is valid.
func May(d api.Datum) bool {
	var invalid func(part api.Datum) bool
	invalid = func(part api.Datum) bool {
		for isPair(part) {
			if invalid(part.Kids[0]) {
				return true
			}
			part = part.Kids[1]
		}
		return !mayBe(part) || slices.ContainsFunc(part.Kids, invalid)
	}
	return !invalid(d)
}

// mayBe reports whether d is valid if its Kids are.
func mayBe(d api.Datum) bool {
	switch d.Kind {
	case api.DPair:
		return isPair(d)
	case api.DVector:
		return true
	}
	return len(d.Kids) == 0 && mayBeAtom(d)
}

// mayBeAtom reports whether d is one of the data without Kids, and valid; its Kids do not count.
func mayBeAtom(d api.Datum) bool {
	switch d.Kind {
	case api.DNil, api.DBytes, api.DEof, api.DNone:
		return true
	case api.DBool:
		return d.N == 0 || d.N == 1
	case api.DInt:
		return isInteger(d.Text)
	case api.DChar:
		return utf.Is(d.N)
	case api.DString:
		return isChars(d.Text)
	case api.DSymbol:
		return d.Text != "" && isChars(d.Text)
	}
	return false
}

// isInteger reports whether text is the one text of an integer.
func isInteger(text string) bool {
	if text == "0" {
		return true
	}
	if text != "" && text[0] == '-' {
		text = text[1:]
	}
	if text == "" || text[0] == '0' {
		return false
	}
	for i := range len(text) {
		if text[i] < '0' || text[i] > '9' {
			return false
		}
	}
	return true
}

// isChars reports whether text consists of the bytes of chars.
func isChars(text string) bool {
	_, e := utf.Codes(text)
	return e == api.OK
}
