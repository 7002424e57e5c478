package alarm

import "math/bits"

// mask is a set of parts: a bit for each part, the lowest one for part 0.
type mask uint32

func maskOf(parts []int) mask {
	var m mask
	for _, part := range parts {
		m |= 1 << part
	}
	return m
}

// allOf has all of so many parts.
func allOf(parts int) mask { return 1<<parts - 1 }

// list has the parts in increasing order.
func (m mask) list() []int {
	var l []int
	for ; m != 0; m &= m - 1 {
		l = append(l, bits.TrailingZeros32(uint32(m)))
	}
	return l
}
