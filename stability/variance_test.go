package stability_test

import (
	"math"
	"math/rand"
	"slices"
	"testing"

	"meridian/api"
	"meridian/stability"
)

// P3.1: the limits of a series, at them and beyond them, in their order.
func TestCheck(t *testing.T) {
	full := make([]int, 128)
	over := make([]int, 129)
	over[0] = math.MinInt
	for i, c := range []struct {
		s    stability.Series
		want api.Errno
	}{
		{series(1), api.OK},
		{series(1000), api.OK},
		{series(1, full...), api.OK},
		{series(1, most, -most), api.OK},
		{series(1, over...), api.ErrMany},
		{series(0, over...), api.ErrMany},
		{series(0), api.ErrRange},
		{series(-1, 1, 2), api.ErrRange},
		{series(1001, 1, 2), api.ErrRange},
		{series(math.MaxInt), api.ErrRange},
		{series(math.MinInt), api.ErrRange},
		{series(5, 0, most+1), api.ErrRange},
		{series(5, 0, 0, -most-1), api.ErrRange},
		{series(5, math.MaxInt), api.ErrRange},
		{series(5, math.MinInt, 0), api.ErrRange},
		{stability.Series{}, api.ErrRange},
	} {
		if e := stability.Check(c.s); e != c.want {
			t.Error(i, e)
		}
	}
}

// P3.1: all variances against the chapter's words, whatever the number of
// phases; there is none just if there is no number to be squared.
func TestVariances(t *testing.T) {
	r := rand.New(rand.NewSource(1))
	for n := range stability.MaxPoints + 1 {
		for m := 1; m <= stability.MaxStep; m++ {
			for _, s := range []stability.Series{anySeries(r, n, most), anySeries(r, n, 3), steep(n, m, 1), steep(n, m, 1000)} {
				for _, v := range all() {
					want := v.slow(s, m)
					got, e := v.f(s, m)
					if want == nil && (got != api.Ratio{} || e != api.ErrNone) || want != nil && (e != api.OK || !equal(got, want)) {
						t.Fatal(v.name, s, m, got, e, want)
					}
				}
			}
		}
	}
}

// P3.1: how many phases each variance needs.
func TestVariancesNeed(t *testing.T) {
	for _, m := range []int{1, 2, 7, 32} {
		for i, needs := range []int{2*m + 1, 2*m + 1, 3 * m, 3*m + 1, 3 * m} {
			v := all()[i]
			if r, e := v.f(series(1, make([]int, needs-1)...), m); r != (api.Ratio{}) || e != api.ErrNone {
				t.Error(v.name, m, r, e)
			}
			if r, e := v.f(series(1, make([]int, needs)...), m); r != ratio(0, 1) || e != api.OK {
				t.Error(v.name, m, r, e)
			}
		}
	}
}

// P3.1: the chapter's first example, and others by hand.
func TestVariancesExamples(t *testing.T) {
	parabola := series(1, 0, 1, 4, 9, 16)
	saw := series(10, 0, 3, 0, 3, 0, 3, 0)
	peak := series(2, 0, 0, 0, 1, 0, 0, 0)
	for i, c := range []struct {
		f    vary
		s    stability.Series
		m    int
		want api.Ratio
		e    api.Errno
	}{
		{stability.Allan, parabola, 1, ratio(2, 1), api.OK},
		{stability.Hadamard, parabola, 1, ratio(0, 1), api.OK},
		{stability.Allan, parabola, 2, ratio(8, 1), api.OK},
		{stability.Modified, parabola, 2, api.Ratio{}, api.ErrNone},
		{stability.Time, parabola, 1, ratio(2, 3), api.OK},
		{stability.Time, saw, 1, ratio(6, 1), api.OK},
		{stability.Allan, saw, 1, ratio(9, 50), api.OK},
		{stability.Hadamard, saw, 1, ratio(6, 25), api.OK},
		{stability.Allan, peak, 1, ratio(6, 40), api.OK},       // 0 1 -2 1 0
		{stability.Allan, peak, 2, ratio(0, 1), api.OK},        // at 0 and 2 only
		{stability.Overlapping, peak, 2, ratio(4, 96), api.OK}, // 0 -2 0
		{stability.Modified, peak, 2, ratio(8, 256), api.OK},   // -2 -2
		{stability.Time, peak, 2, ratio(8, 48), api.OK},
		{stability.Hadamard, peak, 1, ratio(20, 96), api.OK}, // 1 -3 3 -1
		{stability.Hadamard, peak, 2, ratio(0, 1), api.OK},
	} {
		want := c.want
		for d := 2; d <= 256; d++ {
			for want.D > 0 && want.N%d == 0 && want.D%d == 0 {
				want = ratio(want.N/d, want.D/d)
			}
		}
		if r, e := c.f(c.s, c.m); r != want || e != c.e {
			t.Error(i, r, e)
		}
	}
}

// P3.1: the squares of the second differences, in order.
func TestSquares(t *testing.T) {
	r := rand.New(rand.NewSource(2))
	for range 2000 {
		s := anySeries(r, r.Intn(stability.MaxPoints+1), 1+r.Intn(most))
		m := 1 + r.Intn(stability.MaxStep)
		var want []int
		for i := 0; i+2*m < len(s.X); i++ {
			want = append(want, second(s, m, i)*second(s, m, i))
		}
		expected := api.OK
		if len(want) == 0 {
			expected = api.ErrNone
		}
		if l, e := stability.Squares(s, m); !slices.Equal(l, want) || e != expected {
			t.Fatal(s, m, l, e)
		}
	}
	if l, e := stability.Squares(series(10, 0, 1, 4, 9, 17), 1); !slices.Equal(l, []int{4, 4, 9}) || e != api.OK {
		t.Error(l, e)
	}
	if l, e := stability.Squares(steep(3, 1, 1), 1); !slices.Equal(l, []int{16000000000000}) || e != api.OK {
		t.Error(l, e)
	}
}

// P3.1: the errors of the variances and of Squares in their order.
func TestVarianceErrors(t *testing.T) {
	many := make([]int, 129)
	for i, c := range []struct {
		s    stability.Series
		m    int
		want api.Errno
	}{
		{series(0, many...), 0, api.ErrMany},
		{series(0), 0, api.ErrRange},
		{series(1, most+1), 33, api.ErrRange},
		{series(1, 5), 0, api.ErrArg},
		{series(1), -1, api.ErrArg},
		{series(1), 33, api.ErrArg},
		{series(1, many[:128]...), 0, api.ErrArg},
		{series(1, many[:128]...), 33, api.ErrArg},
		{series(1, many[:128]...), math.MinInt, api.ErrArg},
		{series(1, many[:128]...), math.MaxInt, api.ErrArg},
		{series(1, many[:128]...), 1 << 62, api.ErrArg},
		{series(1), 1, api.ErrNone},
		{series(1, 1, 2), 1, api.ErrNone},
		{series(1, many[:64]...), 32, api.ErrNone},
		{series(1, many[:128]...), 32, api.OK},
		{series(1, many[:128]...), 1, api.OK},
	} {
		for _, v := range all() {
			if r, e := v.f(c.s, c.m); e != c.want || e != api.OK && r != (api.Ratio{}) {
				t.Error(i, v.name, r, e)
			}
		}
		if l, e := stability.Squares(c.s, c.m); e != c.want || e != api.OK && len(l) != 0 {
			t.Error(i, "Squares", l, e)
		}
	}
}
