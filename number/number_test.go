package number_test

import (
	"math"
	"testing"

	"meridian/number"
)

func TestWithin(t *testing.T) {
	for n, want := range map[int]bool{2: false, 3: true, 4: true, 5: true, 6: false, math.MinInt: false, math.MaxInt: false} {
		if is := number.Within(n, 3, 5); is != want {
			t.Error(n, is)
		}
	}
	for n, want := range map[int]bool{-1: false, 0: true, 1: true, 2: false, math.MinInt: false, math.MaxInt: false} {
		if is := number.IsIndex(n, 2); is != want {
			t.Error(n, is)
		}
	}
	if number.IsIndex(0, 0) {
		t.Error("an empty list has an index")
	}
}

// R7: a modulo n is from 0 to n - 1; the quotients are on both sides of a / b.
func TestQuotients(t *testing.T) {
	for _, b := range []int{1, 2, 3, 7, 1000, math.MaxInt} {
		for _, a := range []int{0, 1, -1, 2, -2, 6, -6, 7, -7, 8, -8, 999, -999, 1000, -1000, -1001, math.MaxInt, math.MinInt + 1, math.MinInt} {
			m := number.Modulo(a, b)
			low, high := number.Floor(a, b), number.Ceil(a, b)
			if m < 0 || m >= b || low*b+m != a {
				t.Error(a, b, low, m)
			}
			if m == 0 && high != low || m != 0 && high != low+1 {
				t.Error(a, b, low, high)
			}
		}
	}
}
