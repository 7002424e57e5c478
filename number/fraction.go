package number

import (
	"cmp"

	"meridian/api"
)

// Lowest is n / d in lowest terms; d is above 0.
func Lowest(n, d int) api.Ratio {
	g := divisor(n, d)
	return api.Ratio{N: n / g, D: d / g}
}

// IsLowest reports whether r is a fraction in lowest terms.
func IsLowest(r api.Ratio) bool { return r.D >= 1 && divisor(r.N, r.D) == 1 }

// Compare is -1 if a is less than b, 0 if they are equal, and 1 otherwise. An int
// holds each product of the numerator of one and the denominator of the other.
func Compare(a, b api.Ratio) int { return cmp.Compare(a.N*b.D, b.N*a.D) }

// divisor is the greatest number that divides both a and b, which is above 0.
func divisor(a, b int) int {
	for b != 0 {
		a, b = b, a%b
	}
	return max(a, -a)
}
