package big

import (
	"strconv"

	"pennant/api"
)

// Texts are read and written four decimal digits at a time: as one digit in base 10000.
const (
	groupLen = 4
	groups   = 10000
)

// Parse is the number that is written in decimal digits, with or without a sign; ErrForm, if s is nothing of that form.
func Parse(s string) (Int, api.Errno) {
	neg := false
	if s != "" && (s[0] == '-' || s[0] == '+') {
		neg = s[0] == '-'
		s = s[1:]
	}
	if !isDecimal(s) {
		return Int{}, api.ErrForm
	}
	return signed(neg, rebased(grouped(s), groups, base)), api.OK
}

// isDecimal reports whether s consists of decimal digits, at least one.
func isDecimal(s string) bool {
	for i := range len(s) {
		if s[i] < '0' || s[i] > '9' {
			return false
		}
	}
	return s != ""
}

// grouped is the digits in base 10000 of what is written in decimal digits.
func grouped(s string) []uint16 {
	var digits []uint16
	for end := len(s); end > 0; end -= groupLen {
		var d uint16
		for _, c := range []byte(s[max(end-groupLen, 0):end]) {
			d = d*10 + uint16(c-'0')
		}
		digits = append(digits, d)
	}
	return digits
}

// Text is the number's decimal digits, after a minus, if it is below 0.
func Text(a Int) string {
	t := tidied(a)
	if len(t.Digits) == 0 {
		return "0"
	}
	digits := rebased(t.Digits, base, groups)
	var text []byte
	if t.Neg {
		text = append(text, '-')
	}
	top := len(digits) - 1
	text = strconv.AppendUint(text, uint64(digits[top]), 10)
	for i := range top {
		d := digits[top-1-i]
		text = append(text, byte('0'+d/1000), byte('0'+d/100%10), byte('0'+d/10%10), byte('0'+d%10))
	}
	return string(text)
}

// rebased is the digits, in base to, of the number that has these digits, at least one, in base from. Neighbours are joined, the results joined again, and so on: each product has two long factors, so that even very long numbers are quick.
func rebased(digits []uint16, from, to uint64) []uint16 {
	parts := make([][]uint16, len(digits))
	for i, d := range digits {
		parts[i] = carried([]uint64{uint64(d)}, to)
	}
	weight := carried([]uint64{from}, to)
	for {
		parts = joined(parts, weight, to)
		if len(parts) == 1 {
			return parts[0]
		}
		weight = times(weight, weight, to)
	}
}

// joined is each two neighbours as one number, the second one with this weight.
func joined(parts [][]uint16, weight []uint16, radix uint64) [][]uint16 {
	var pairs [][]uint16
	for i := 0; i < len(parts); i += 2 {
		pair := parts[i]
		if i+1 < len(parts) {
			pair = plus(pair, times(parts[i+1], weight, radix), radix)
		}
		pairs = append(pairs, pair)
	}
	return pairs
}
