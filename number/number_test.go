package number_test

import (
	"math"
	"testing"

	"meridian/number"
)

func TestWithin(t *testing.T) {
	for n, want := range map[int]bool{2: false, 3: true, 4: true, 5: true, 6: false, math.MinInt: false, math.MaxInt: false} {
		if is := number.Within(n, 3, 5); is != want {
			t.Error(n, is)
		}
	}
	for n, want := range map[int]bool{-1: false, 0: true, 1: true, 2: false, math.MinInt: false, math.MaxInt: false} {
		if is := number.IsIndex(n, 2); is != want {
			t.Error(n, is)
		}
	}
	if number.IsIndex(0, 0) {
		t.Error("an empty list has an index")
	}
}

func TestAreIndices(t *testing.T) {
	for _, x := range []struct {
		l     []int
		count int
		want  bool
	}{
		{nil, 0, true}, {nil, 3, true}, {nil, -1, true}, {[]int{}, 0, true}, {[]int{0}, 1, true}, {[]int{2}, 3, true}, {[]int{0, 1, 2}, 3, true}, {[]int{0, 2}, 3, true},
		{[]int{0}, 0, false}, {[]int{0}, -1, false}, {[]int{3}, 3, false}, {[]int{-1}, 3, false}, {[]int{-1, 0}, 3, false}, {[]int{0, 3}, 3, false}, {[]int{1, 3, 4}, 3, false},
		{[]int{1, 1}, 3, false}, {[]int{1, 0}, 3, false}, {[]int{0, 2, 1}, 3, false}, {[]int{0, 2, 2}, 3, false}, {[]int{0, 1, 0}, 3, false},
		{[]int{math.MinInt}, 3, false}, {[]int{math.MaxInt}, 3, false}, {[]int{0, math.MinInt}, math.MaxInt, false}, {[]int{0, math.MaxInt - 1}, math.MaxInt, true},
	} {
		if is := number.AreIndices(x.l, x.count); is != x.want {
			t.Error(x, is)
		}
	}
}

// R7: a modulo n is from 0 to n - 1; the quotients are on both sides of a / b.
func TestQuotients(t *testing.T) {
	for _, b := range []int{1, 2, 3, 7, 1000, math.MaxInt} {
		for _, a := range []int{0, 1, -1, 2, -2, 6, -6, 7, -7, 8, -8, 999, -999, 1000, -1000, -1001, math.MaxInt, math.MinInt + 1, math.MinInt} {
			m := number.Modulo(a, b)
			low, high := number.Floor(a, b), number.Ceil(a, b)
			if m < 0 || m >= b || low*b+m != a {
				t.Error(a, b, low, m)
			}
			if m == 0 && high != low || m != 0 && high != low+1 {
				t.Error(a, b, low, high)
			}
		}
	}
}
