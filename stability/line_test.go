package stability_test

import (
	"math"
	"math/big"
	"math/rand"
	"slices"
	"testing"

	"meridian/api"
	"meridian/stability"
)

// fits reports whether a line is the best one: what it leaves adds up to
// nothing, and so does each rest times its place.
func fits(s stability.Series, l stability.Line) bool {
	sum, moments := new(big.Rat), new(big.Rat)
	for i, x := range s.X {
		place := new(big.Rat).SetInt64(int64(i))
		d := new(big.Rat).Mul(rat(l.Slope), place)
		d.Add(d, rat(l.Offset))
		d.Sub(new(big.Rat).SetInt64(int64(x)), d)
		sum.Add(sum, d)
		moments.Add(moments, d.Mul(d, place))
	}
	return sum.Sign() == 0 && moments.Sign() == 0
}

// lines are series for which numbers become great, and others.
func lines() []stability.Series {
	r := rand.New(rand.NewSource(3))
	var l []stability.Series
	for n := 2; n <= stability.MaxPoints; n++ {
		up := steep(n, (n+1)/2, 1)
		down := stability.Series{Tau: 1, X: slices.Clone(up.X)}
		slices.Reverse(down.X)
		l = append(l, up, down, steep(n, 1, 7), steep(n, n, 1000), anySeries(r, n, most), anySeries(r, n, 2))
	}
	return l
}

// P3.2: the line that fits best, in lowest terms, and what it leaves.
func TestFitAndRest(t *testing.T) {
	for _, s := range lines() {
		l, e := stability.Fit(s)
		if e != api.OK || !fits(s, l) || !equal(l.Offset, rat(l.Offset)) || !equal(l.Slope, rat(l.Slope)) {
			t.Fatal(s, l, e)
		}
		rest, e := stability.Rest(s)
		if len(s.X) > 48 {
			if rest != (api.Ratio{}) || e != api.ErrLarge {
				t.Fatal(s, rest, e)
			}
			continue
		}
		if want := leaves(s, rat(l.Offset), rat(l.Slope)); e != api.OK || !equal(rest, want) {
			t.Fatal(s, rest, e, want)
		}
	}
}

// P3.2: the chapter's second example, and others by hand; the slope is that of
// one step, whatever the Tau.
func TestFitExamples(t *testing.T) {
	for i, c := range []struct {
		s                   stability.Series
		offset, slope, rest api.Ratio
	}{
		{series(1, 0, 1, 1), ratio(1, 6), ratio(1, 2), ratio(1, 6)},
		{series(1000, 0, 1, 1), ratio(1, 6), ratio(1, 2), ratio(1, 6)},
		{series(5, 7, 4), ratio(7, 1), ratio(-3, 1), ratio(0, 1)},
		{series(5, 0, 0), ratio(0, 1), ratio(0, 1), ratio(0, 1)},
		{series(5, -3, -3, -3), ratio(-3, 1), ratio(0, 1), ratio(0, 1)},
		{series(5, 1, 0, 1), ratio(2, 3), ratio(0, 1), ratio(2, 3)},
		{series(5, 0, 1, 4, 9, 16), ratio(-2, 1), ratio(4, 1), ratio(14, 1)},
	} {
		if l, e := stability.Fit(c.s); l != (stability.Line{Offset: c.offset, Slope: c.slope}) || e != api.OK {
			t.Error(i, l, e)
		}
		if r, e := stability.Rest(c.s); r != c.rest || e != api.OK {
			t.Error(i, r, e)
		}
	}
}

// P3.2: the errors of Fit and of Rest in their order.
func TestFitErrors(t *testing.T) {
	zeros := make([]int, 129)
	for i, c := range []struct {
		s         stability.Series
		fit, rest api.Errno
	}{
		{series(0, zeros...), api.ErrMany, api.ErrMany},
		{series(0, 5), api.ErrRange, api.ErrRange},
		{series(1001, zeros[:49]...), api.ErrRange, api.ErrRange},
		{series(1, most+1), api.ErrRange, api.ErrRange},
		{series(1, slices.Concat(zeros[:50], []int{-most - 1})...), api.ErrRange, api.ErrRange},
		{series(1), api.ErrNone, api.ErrNone},
		{series(1, 5), api.ErrNone, api.ErrNone},
		{series(1, 5, 5), api.OK, api.OK},
		{series(1, zeros[:48]...), api.OK, api.OK},
		{series(1, zeros[:49]...), api.OK, api.ErrLarge},
		{series(1, zeros[:128]...), api.OK, api.ErrLarge},
	} {
		if l, e := stability.Fit(c.s); e != c.fit || e != api.OK && l != (stability.Line{}) {
			t.Error(i, l, e)
		}
		if r, e := stability.Rest(c.s); e != c.rest || e != api.OK && r != (api.Ratio{}) {
			t.Error(i, r, e)
		}
	}
}

// P3.2: the phases 0, m, 2m and so on.
func TestThin(t *testing.T) {
	counted := make([]int, stability.MaxPoints)
	for i := range counted {
		counted[i] = i
	}
	for n := range stability.MaxPoints + 1 {
		for m := 1; m <= stability.MaxStep; m++ {
			var want []int
			for i := 0; i < n; i += m {
				want = append(want, i)
			}
			if s, e := stability.Thin(series(31, counted[:n]...), m); s.Tau != 31*m || !slices.Equal(s.X, want) || e != api.OK {
				t.Fatal(n, m, s, e)
			}
		}
	}
}

// P3.2: the errors of Thin in their order.
func TestThinErrors(t *testing.T) {
	for i, c := range []struct {
		s    stability.Series
		m    int
		want api.Errno
	}{
		{series(0, make([]int, 129)...), 0, api.ErrMany},
		{series(0, 1, 2), 0, api.ErrRange},
		{series(1, most+1), 0, api.ErrRange},
		{series(1000, 1, 2), 0, api.ErrArg},
		{series(1000, 1, 2), -1, api.ErrArg},
		{series(1000, 1, 2), 33, api.ErrArg},
		{series(1000, 1, 2), math.MaxInt, api.ErrArg},
		{series(1000, 1, 2), math.MinInt, api.ErrArg},
		{series(1, 1, 2), 1 << 62, api.ErrArg},
		{series(501, 1, 2), 2, api.ErrRange},
		{series(1000), 2, api.ErrRange},
		{series(32, 1, 2), 32, api.ErrRange},
		{series(31, 1, 2), 32, api.OK},
		{series(500, 1, 2), 2, api.OK},
		{series(1000, 1, 2), 1, api.OK},
		{series(1000), 1, api.OK},
	} {
		if s, e := stability.Thin(c.s, c.m); e != c.want || e != api.OK && (s.Tau != 0 || len(s.X) != 0) {
			t.Error(i, s, e)
		}
	}
}
