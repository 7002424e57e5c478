package standard

import (
	"math"

	"meridian/api"
	"meridian/number"
)

// Lowest returns a fraction in lowest terms.
func Lowest(n, d int) (api.Ratio, api.Errno) {
	if n == math.MinInt || d == math.MinInt {
		return api.Ratio{}, api.ErrRange
	}
	return attempt(func() api.Ratio { return quotient(n, d) })
}

// Add adds two fractions.
func Add(a, b api.Ratio) (api.Ratio, api.Errno) { return ofTwo(a, b, add) }

// Multiply multiplies two fractions.
func Multiply(a, b api.Ratio) (api.Ratio, api.Errno) { return ofTwo(a, b, multiply) }

// Compare compares two fractions.
func Compare(a, b api.Ratio) (int, api.Errno) { return ofTwo(a, b, number.Compare) }

// ofTwo is what f does with two fractions, if they are numbers of this layer.
func ofTwo[T any](a, b api.Ratio, f func(a, b api.Ratio) T) (T, api.Errno) {
	if !isNumber(a) || !isNumber(b) {
		var none T
		return none, api.ErrArg
	}
	return attempt(func() T { return f(a, b) })
}

// attempt is what f returns, or the error with which it panics.
func attempt[T any](f func() T) (x T, e api.Errno) {
	defer func() {
		if p := recover(); p != nil {
			e = p.(api.Errno)
		}
	}()
	return f(), api.OK
}

// The numbers below are numbers of this layer: an int holds a sum of two
// products of their parts. A result that is none is a panic.

func add(a, b api.Ratio) api.Ratio { return quotient(a.N*b.D+b.N*a.D, a.D*b.D) }

func subtract(a, b api.Ratio) api.Ratio { return add(a, negate(b)) }

func multiply(a, b api.Ratio) api.Ratio { return quotient(a.N*b.N, a.D*b.D) }

func divide(a, b api.Ratio) api.Ratio { return quotient(a.N*b.D, a.D*b.N) }

func square(a api.Ratio) api.Ratio { return multiply(a, a) }

func negate(a api.Ratio) api.Ratio { return api.Ratio{N: -a.N, D: a.D} }

func whole(n int) api.Ratio { return api.Ratio{N: n, D: 1} }

// quotient is n / d; neither is the least int, which has no opposite.
func quotient(n, d int) api.Ratio {
	if d == 0 {
		panic(api.ErrDivide)
	}
	if d < 0 {
		n, d = -n, -d
	}
	r := number.Lowest(n, d)
	if !isNumber(r) {
		panic(api.ErrLarge)
	}
	return r
}

func isNumber(r api.Ratio) bool {
	return number.IsLowest(r) && number.Within(r.N, -MaxPart, MaxPart) && r.D <= MaxPart
}
