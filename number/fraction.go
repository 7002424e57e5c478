package number

import "meridian/api"

// Lowest is n / d in lowest terms; d is above 0.
func Lowest(n, d int) api.Ratio {
	g := divisor(n, d)
	return api.Ratio{N: n / g, D: d / g}
}

// IsLowest reports whether r is a fraction in lowest terms.
func IsLowest(r api.Ratio) bool { return r.D >= 1 && divisor(r.N, r.D) == 1 }

// divisor is the greatest number that divides both a and b, which is above 0.
func divisor(a, b int) int {
	for b != 0 {
		a, b = b, a%b
	}
	return max(a, -a)
}
