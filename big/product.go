package big

// fewSums is how many sums a product of the plain kind is quicker for.
const fewSums = 40

// times is a * b.
func times(a, b []uint16, radix uint64) []uint16 {
	return carried(product(widened(a), widened(b)), radix)
}

func widened(digits []uint16) []uint64 {
	sums := make([]uint64, len(digits))
	for i, d := range digits {
		sums[i] = uint64(d)
	}
	return sums
}

// product is the sums that digits have in a product, ahead of carrying: at each place, of the products of all pairs of digits whose places add up to it. All of it is modulo 2^64: parts may wrap round, the whole is too small to.
func product(a, b []uint64) []uint64 {
	if len(a) < len(b) {
		a, b = b, a
	}
	if len(b) == 0 {
		return nil
	}
	sums := make([]uint64, len(a)+len(b)-1)
	half := (len(a) + 1) / 2
	switch {
	case len(b) < fewSums:
		for i, d := range b {
			addTimes(sums[i:], a, d)
		}
	case len(b) <= half:
		addTimes(sums, product(a[:half], b), 1)
		addTimes(sums[half:], product(a[half:], b), 1)
	default:
		productOfHalves(sums, a, b, half)
	}
	return sums
}

// productOfHalves adds the product of a and b to sums by three products of halves instead of four: (a0 + a1)(b0 + b1) is a0 b0 + a1 b1 + what belongs to the middle.
func productOfHalves(sums, a, b []uint64, half int) {
	low := product(a[:half], b[:half])
	high := product(a[half:], b[half:])
	middle := product(folded(a, half), folded(b, half))
	addTimes(middle, low, minusOne)
	addTimes(middle, high, minusOne)
	addTimes(sums, low, 1)
	addTimes(sums[half:], middle, 1)
	addTimes(sums[2*half:], high, 1)
}

const minusOne = 1<<64 - 1

// folded is the sum of a's first half and the rest.
func folded(a []uint64, half int) []uint64 {
	sums := append([]uint64(nil), a[:half]...)
	addTimes(sums, a[half:], 1)
	return sums
}

// addTimes adds n times a to the first sums.
func addTimes(sums, a []uint64, n uint64) {
	sums = sums[:len(a)]
	for i := range len(a) {
		sums[i] += n * a[i]
	}
}
