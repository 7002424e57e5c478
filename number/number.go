// Package number has what all layers ask of whole numbers, of their lists and texts,
// and of fractions.
package number

// Within reports whether n is from least to most.
func Within(n, least, most int) bool { return least <= n && n <= most }

// IsIndex reports whether n is the index of one of count elements.
func IsIndex(n, count int) bool { return Within(n, 0, count-1) }

// AreIndices reports whether the numbers of l are indices of some of count elements,
// in strictly increasing order.
func AreIndices(l []int, count int) bool {
	for i, n := range l {
		if !IsIndex(n, count) || i > 0 && n <= l[i-1] {
			return false
		}
	}
	return true
}

// Floor divides a by b, which is above 0, towards the lesser number.
func Floor(a, b int) int {
	q := a / b
	if a%b < 0 {
		q--
	}
	return q
}

// Ceil divides a by b, which is above 0, towards the greater number.
func Ceil(a, b int) int {
	q := a / b
	if a%b > 0 {
		q++
	}
	return q
}

// Modulo is the number from 0 to n - 1 that differs from a by a multiple of n,
// which is above 0.
func Modulo(a, n int) int {
	m := a % n
	if m < 0 {
		m += n
	}
	return m
}
