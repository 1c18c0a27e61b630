package big

import "cmp"

// The digits of an Int are digits in this base.
const (
	digitBits = 16
	base      = 1 << digitBits
)

// trim is digits without the zeros at the end.
func trim(digits []uint16) []uint16 {
	n := len(digits)
	for n > 0 && digits[n-1] == 0 {
		n--
	}
	return digits[:n]
}

// carried is the digits, in base radix (at most 2^16), of the number whose digits are sums, however great these are.
func carried(sums []uint64, radix uint64) []uint16 {
	digits := make([]uint16, len(sums))
	var carry uint64
	for i := range len(sums) {
		// The carry is added to what is left of a sum, not to the sum, which may be near 2^64.
		low := sums[i]%radix + carry
		digits[i] = uint16(low % radix)
		carry = sums[i]/radix + low/radix
	}
	for ; carry > 0; carry /= radix {
		digits = append(digits, uint16(carry%radix))
	}
	return trim(digits)
}

// compare is -1, 0 or 1, if a is less than b, equal to it, or greater; the last digits of both are not 0.
func compare(a, b []uint16) int {
	if len(a) != len(b) {
		return cmp.Compare(len(a), len(b))
	}
	for i := range len(a) {
		at := len(a) - 1 - i
		if a[at] != b[at] {
			return cmp.Compare(a[at], b[at])
		}
	}
	return 0
}

// plus is a + b.
func plus(a, b []uint16, radix uint64) []uint16 {
	if len(a) < len(b) {
		a, b = b, a
	}
	sums := widened(a)
	for i, d := range b {
		sums[i] += uint64(d)
	}
	return carried(sums, radix)
}

// minus is a - b; a is not less than b.
func minus(a, b []uint16) []uint16 {
	rest := append([]uint16(nil), a...)
	var carry int64
	for i := range len(rest) {
		carry += int64(rest[i])
		if i < len(b) {
			carry -= int64(b[i])
		}
		rest[i] = uint16(carry)
		carry >>= digitBits
	}
	return trim(rest)
}

// divide is the quotient of a and b, and the remainder; the last digit of b is not 0.
func divide(a, b []uint16) (quotient, rest []uint16) {
	rest = append([]uint16(nil), a...)
	if len(a) < len(b) {
		return nil, rest
	}
	rest = append(rest, 0)
	quotient = make([]uint16, len(a)-len(b)+1)
	for i := range len(quotient) {
		at := len(quotient) - 1 - i
		top := at + len(b)
		// Three digits over two are never too few, and at most one too many, as b's last digit is not 0.
		guess := leading(rest, top, 3) / leading(b, len(b)-1, 2)
		if takeTimes(rest[at:top+1], b, guess) {
			giveBack(rest[at:top+1], b)
			guess--
		}
		quotient[at] = uint16(guess)
	}
	return trim(quotient), trim(rest)
}

// leading is the number that n digits make, from the one at a place on downward; below the lowest one stand zeros.
func leading(digits []uint16, at, n int) uint64 {
	var sum uint64
	for i := range n {
		sum *= base
		if at-i >= 0 {
			sum += uint64(digits[at-i])
		}
	}
	return sum
}

// takeTimes takes n times b from rest, which has a digit more than b, and reports whether that was too much: then 1 is missing above the last digit.
func takeTimes(rest, b []uint16, n uint64) bool {
	var carry int64
	for i := range len(b) {
		carry += int64(rest[i]) - int64(n)*int64(b[i])
		rest[i] = uint16(carry)
		carry >>= digitBits
	}
	carry += int64(rest[len(b)])
	rest[len(b)] = uint16(carry)
	return carry < 0
}

// giveBack adds b to rest, which has a digit more; what is carried beyond that fills up what was missing there.
func giveBack(rest, b []uint16) {
	var carry uint64
	for i := range len(b) {
		carry += uint64(rest[i]) + uint64(b[i])
		rest[i] = uint16(carry)
		carry >>= digitBits
	}
	rest[len(b)] += uint16(carry)
}
