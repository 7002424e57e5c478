// Package number has what all layers ask of whole numbers, of their texts and of
// fractions.
package number

// Within reports whether n is from least to most.
func Within(n, least, most int) bool { return least <= n && n <= most }

// IsIndex reports whether n is the index of one of count elements.
func IsIndex(n, count int) bool { return Within(n, 0, count-1) }

// Floor divides a by b, which is above 0, towards the lesser number.
func Floor(a, b int) int {
	q := a / b
	if a%b < 0 {
		q--
	}
	return q
}

// Ceil divides a by b, which is above 0, towards the greater number.
func Ceil(a, b int) int {
	q := a / b
	if a%b > 0 {
		q++
	}
	return q
}

// Modulo is the number from 0 to n - 1 that differs from a by a multiple of n,
// which is above 0.
func Modulo(a, n int) int {
	m := a % n
	if m < 0 {
		m += n
	}
	return m
}
