package asm

// tallies are numbers that are counted up one at a time, while sums of the first of them are asked for: a Fenwick tree, since adding them up anew each time would take too long for many items.
type tallies []int

// add counts number i up by n.
func (c tallies) add(i, n int) {
	for i++; i < len(c); i += i & -i {
		c[i] += n
	}
}

// before is the sum of the numbers before number i.
func (c tallies) before(i int) int {
	sum := 0
	for ; i > 0; i -= i & -i {
		sum += c[i]
	}
	return sum
}
