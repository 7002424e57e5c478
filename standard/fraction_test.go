package standard_test

import (
	"math"
	"math/big"
	"math/rand"
	"testing"

	"meridian/api"
	"meridian/standard"
)

// hasResult checks a result against the exact one.
func hasResult(t *testing.T, x api.Ratio, e api.Errno, want *big.Rat) {
	t.Helper()
	if fits(want) && (e != api.OK || !equal(x, want)) || !fits(want) && (e != api.ErrLarge || x != api.Ratio{}) {
		t.Error(x, e, want)
	}
}

// P5.1: n / d in lowest terms, whatever the signs, at the limits and beyond.
func TestLowest(t *testing.T) {
	r := rand.New(rand.NewSource(1))
	l := []int{1, 2, 3, 4, 6, 97, 1000, part - 1, part, next, 2 * part, 2 * next, 3 * part, 1 << 40, part * part, math.MaxInt - 1, math.MaxInt}
	for range 100 {
		l = append(l, 1+r.Intn(1+r.Intn(1<<(1+r.Intn(62)))))
	}
	for _, d := range l {
		for _, n := range l {
			for _, signs := range [][2]int{{1, 1}, {1, -1}, {-1, 1}, {-1, -1}, {0, 1}, {0, -1}} {
				x, e := standard.Lowest(signs[0]*n, signs[1]*d)
				hasResult(t, x, e, big.NewRat(int64(signs[0]*n), int64(signs[1]*d)))
			}
		}
	}
}

// P5.1: the errors of Lowest in their order.
func TestLowestErrors(t *testing.T) {
	for i, c := range []struct {
		n, d int
		e    api.Errno
	}{
		{math.MinInt, 1, api.ErrRange}, {math.MinInt, 0, api.ErrRange}, {math.MinInt, math.MinInt, api.ErrRange},
		{1, math.MinInt, api.ErrRange}, {0, math.MinInt, api.ErrRange}, {next, math.MinInt, api.ErrRange},
		{0, 0, api.ErrDivide}, {1, 0, api.ErrDivide}, {-1, 0, api.ErrDivide}, {next, 0, api.ErrDivide}, {math.MaxInt, 0, api.ErrDivide}, {math.MinInt + 1, 0, api.ErrDivide},
		{next, 1, api.ErrLarge}, {-next, 1, api.ErrLarge}, {next, -1, api.ErrLarge}, {1, next, api.ErrLarge}, {1, -next, api.ErrLarge}, {math.MinInt + 1, 1, api.ErrLarge}, {1, math.MinInt + 1, api.ErrLarge},
	} {
		if x, e := standard.Lowest(c.n, c.d); e != c.e || x != (api.Ratio{}) {
			t.Error(i, x, e)
		}
	}
}

// P5.1: sums, products and comparisons of numbers, at the limits and elsewhere.
func TestTwoNumbers(t *testing.T) {
	r := rand.New(rand.NewSource(2))
	l := edges()
	for range 150 {
		l = append(l, anyRatio(r, 1+r.Intn(1<<(1+r.Intn(29)))))
	}
	for _, a := range l {
		for _, b := range l {
			x, e := standard.Add(a, b)
			hasResult(t, x, e, plus(rat(a), rat(b)))
			x, e = standard.Multiply(a, b)
			hasResult(t, x, e, times(rat(a), rat(b)))
			if n, e := standard.Compare(a, b); n != rat(a).Cmp(rat(b)) || e != api.OK {
				t.Error(a, b, n, e)
			}
		}
	}
}

// P5.1: results that just fit, and just do not.
func TestTwoNumbersAtLimits(t *testing.T) {
	for i, c := range []struct {
		f    func(a, b api.Ratio) (api.Ratio, api.Errno)
		a, b api.Ratio
		want api.Ratio
		e    api.Errno
	}{
		{standard.Add, ratio(1, 6), ratio(1, 3), ratio(1, 2), api.OK},
		{standard.Add, whole(part), whole(-1), whole(part - 1), api.OK},
		{standard.Add, whole(part - 1), whole(1), whole(part), api.OK},
		{standard.Add, whole(part), whole(1), api.Ratio{}, api.ErrLarge},
		{standard.Add, whole(-part), whole(-1), api.Ratio{}, api.ErrLarge},
		{standard.Add, whole(part), whole(-part), whole(0), api.OK},
		{standard.Add, ratio(1, part), ratio(-1, part), whole(0), api.OK},
		{standard.Add, ratio(1, part), ratio(1, part-1), api.Ratio{}, api.ErrLarge},
		{standard.Add, ratio(part-1, part), ratio(1, part), whole(1), api.OK},
		{standard.Multiply, whole(31622), whole(31622), whole(999950884), api.OK},
		{standard.Multiply, whole(100000), whole(-10000), whole(-part), api.OK},
		{standard.Multiply, whole(100000), whole(10001), api.Ratio{}, api.ErrLarge},
		{standard.Multiply, ratio(1, 100000), ratio(1, 10000), ratio(1, part), api.OK},
		{standard.Multiply, ratio(1, 100000), ratio(1, 10001), api.Ratio{}, api.ErrLarge},
		{standard.Multiply, whole(part), ratio(1, part), whole(1), api.OK},
		{standard.Multiply, whole(0), whole(part), whole(0), api.OK},
		{standard.Multiply, whole(0), ratio(-1, part), whole(0), api.OK},
	} {
		if x, e := c.f(c.a, c.b); x != c.want || e != c.e {
			t.Error(i, x, e)
		}
	}
}

// P5.1: what is no number of the layer is no argument of Add, Multiply and
// Compare, at neither place.
func TestNoNumbers(t *testing.T) {
	for _, wrong := range notNumbers() {
		for _, right := range append(edges(), wrong) {
			for _, p := range [][2]api.Ratio{{wrong, right}, {right, wrong}} {
				if x, e := standard.Add(p[0], p[1]); e != api.ErrArg || x != (api.Ratio{}) {
					t.Error("Add", p, x, e)
				}
				if x, e := standard.Multiply(p[0], p[1]); e != api.ErrArg || x != (api.Ratio{}) {
					t.Error("Multiply", p, x, e)
				}
				if n, e := standard.Compare(p[0], p[1]); e != api.ErrArg || n != 0 {
					t.Error("Compare", p, n, e)
				}
			}
		}
	}
}
