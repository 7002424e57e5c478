package standard_test

import (
	"math"
	"math/big"
	"math/rand"
	"slices"
	"testing"

	"meridian/api"
	"meridian/standard"
)

func estimate(value, variance api.Ratio) standard.Estimate {
	return standard.Estimate{Value: value, Variance: variance}
}

// anyEstimates are up to 8 estimates with parts of up to size.
func anyEstimates(r *rand.Rand, size int) []standard.Estimate {
	var l []standard.Estimate
	for range 1 + r.Intn(standard.MaxEstimates) {
		variance := anyRatio(r, size)
		if variance.N = max(variance.N, -variance.N); variance.N == 0 {
			variance = whole(1)
		}
		l = append(l, estimate(anyRatio(r, size), variance))
	}
	return l
}

// slowMean has the weighted mean, its variance and the chi square, and whether
// all numbers on the way to them are numbers of the layer.
func slowMean(l []standard.Estimate) (results [3]*big.Rat, fit bool) {
	one, weighted, weight, chi := big.NewRat(1, 1), new(big.Rat), new(big.Rat), new(big.Rat)
	fit = true
	check := func(way ...*big.Rat) {
		fit = fit && !slices.ContainsFunc(way, func(x *big.Rat) bool { return !fits(x) })
	}
	for _, x := range l {
		a, b := over(rat(x.Value), rat(x.Variance)), over(one, rat(x.Variance))
		weighted, weight = plus(weighted, a), plus(weight, b)
		check(a, b, weighted, weight)
	}
	mean, variance := over(weighted, weight), over(one, weight)
	check(mean, variance)
	for _, x := range l {
		d := minus(rat(x.Value), mean)
		part := over(times(d, d), rat(x.Variance))
		chi = plus(chi, part)
		check(d, times(d, d), part, chi)
	}
	return [3]*big.Rat{mean, variance, chi}, fit
}

// P5.5: the chapter's third example, and others by hand.
func TestMeanExamples(t *testing.T) {
	two := []standard.Estimate{estimate(whole(10), whole(1)), estimate(whole(14), whole(3))}
	for i, c := range []struct {
		l                    []standard.Estimate
		value, variance, chi api.Ratio
	}{
		{two, whole(11), ratio(3, 4), whole(4)},
		{two[1:], whole(14), whole(3), whole(0)},
		{slices.Repeat(two[:1], 8), whole(10), ratio(1, 8), whole(0)},
		{[]standard.Estimate{estimate(ratio(-1, 2), ratio(1, 2)), estimate(ratio(1, 2), ratio(1, 2))}, whole(0), ratio(1, 4), whole(1)},
		{[]standard.Estimate{estimate(whole(part), whole(part))}, whole(part), whole(part), whole(0)},
		{[]standard.Estimate{estimate(ratio(1, part), ratio(1, part))}, ratio(1, part), ratio(1, part), whole(0)},
	} {
		m, chi, e := standard.Mean(c.l)
		if m != estimate(c.value, c.variance) || chi != c.chi || e != api.OK {
			t.Error(i, m, chi, e)
		}
	}
	for i, want := range []standard.Estimate{two[1], two[0]} {
		if m, e := standard.Without(two, i); m != want || e != api.OK {
			t.Error(i, m, e)
		}
	}
}

// P5.5: any estimates against slow means, all of them and all but one.
func TestMeans(t *testing.T) {
	r := rand.New(rand.NewSource(8))
	seen := map[bool]int{}
	for range 20000 {
		l := anyEstimates(r, 1+r.Intn(1<<(1+r.Intn(1+r.Intn(29)))))
		want, fit := slowMean(l)
		seen[fit]++
		m, chi, e := standard.Mean(l)
		if fit && (e != api.OK || !equal(m.Value, want[0]) || !equal(m.Variance, want[1]) || !equal(chi, want[2])) ||
			!fit && (e != api.ErrLarge || m != standard.Estimate{} || chi != api.Ratio{}) {
			t.Fatal(l, m, chi, e, want, fit)
		}
		for i := range l {
			rest := slices.Delete(slices.Clone(l), i, i+1)
			want, _, expected := standard.Mean(rest)
			if m, e := standard.Without(l, i); m != want || e != expected {
				t.Fatal(l, i, m, e, want, expected)
			}
		}
	}
	if seen[true] < 1000 || seen[false] < 1000 {
		t.Error("the estimates are not as they should be", seen)
	}
}

// P5.5: the errors of Mean in their order, and where a number is too large.
func TestMeanErrors(t *testing.T) {
	good, wrong := estimate(whole(1), whole(1)), estimate(whole(1), whole(0))
	// their weights are together 1 and a little
	most, less, far := estimate(whole(0), ratio(25, 16)), estimate(whole(0), ratio(25, 9)), estimate(whole(0), whole(999002449))
	for i, c := range []struct {
		l []standard.Estimate
		e api.Errno
	}{
		{nil, api.ErrNone},
		{[]standard.Estimate{}, api.ErrNone},
		{slices.Repeat([]standard.Estimate{wrong}, 9), api.ErrMany},
		{slices.Repeat([]standard.Estimate{good}, 9), api.ErrMany},
		{slices.Repeat([]standard.Estimate{good}, 8), api.OK},
		{[]standard.Estimate{wrong}, api.ErrRange},
		{[]standard.Estimate{good, wrong}, api.ErrRange},
		{[]standard.Estimate{estimate(whole(1), whole(-1))}, api.ErrRange},
		{[]standard.Estimate{estimate(whole(part), ratio(1, 2)), wrong}, api.ErrRange},
		{[]standard.Estimate{estimate(whole(part), ratio(1, 2))}, api.ErrLarge},       // Value / Variance
		{[]standard.Estimate{estimate(ratio(1, part), whole(2))}, api.ErrLarge},       // Value / Variance
		{[]standard.Estimate{estimate(whole(part), whole(1)), good}, api.ErrLarge},    // their sum
		{[]standard.Estimate{estimate(whole(0), ratio(1, part)), good}, api.ErrLarge}, // the sum of 1 / Variance
		{[]standard.Estimate{estimate(whole(1), ratio(1, part-1)), good}, api.OK},
		{[]standard.Estimate{estimate(whole(40000), whole(1)), estimate(whole(-40000), whole(1))}, api.ErrLarge}, // the square
		{[]standard.Estimate{estimate(whole(30000), whole(1)), estimate(whole(-30000), whole(1))}, api.ErrLarge}, // the chi square
		{[]standard.Estimate{estimate(whole(20000), whole(1)), estimate(whole(-20000), whole(1))}, api.OK},
		{[]standard.Estimate{most, less, far}, api.OK},
		{[]standard.Estimate{most, far, less}, api.ErrLarge}, // the sum of the first two
	} {
		if m, chi, e := standard.Mean(c.l); e != c.e || e != api.OK && (m != standard.Estimate{} || chi != api.Ratio{}) {
			t.Error(i, m, chi, e)
		}
	}
	for _, x := range notNumbers() {
		for _, l := range [][]standard.Estimate{{estimate(x, whole(1))}, {estimate(whole(1), x)}, {good, estimate(x, whole(1)), good}} {
			if m, chi, e := standard.Mean(l); e != api.ErrRange || m != (standard.Estimate{}) || chi != (api.Ratio{}) {
				t.Error(x, m, chi, e)
			}
		}
	}
}

// P5.5: the errors of Without in their order; the estimate that is left out is
// not looked at.
func TestWithoutErrors(t *testing.T) {
	good, wrong := estimate(whole(1), whole(1)), estimate(whole(1), whole(0))
	nine := slices.Repeat([]standard.Estimate{good}, 9)
	for i, c := range []struct {
		l []standard.Estimate
		i int
		e api.Errno
	}{
		{nil, 0, api.ErrArg},
		{[]standard.Estimate{good}, 1, api.ErrArg},
		{[]standard.Estimate{good}, -1, api.ErrArg},
		{[]standard.Estimate{wrong, wrong}, 2, api.ErrArg},
		{[]standard.Estimate{good, good}, math.MaxInt, api.ErrArg},
		{[]standard.Estimate{good, good}, math.MinInt, api.ErrArg},
		{append(nine, good), 10, api.ErrArg},
		{[]standard.Estimate{good}, 0, api.ErrNone},
		{[]standard.Estimate{wrong}, 0, api.ErrNone},
		{append(nine, wrong), 0, api.ErrMany},
		{nine, 8, api.OK},
		{[]standard.Estimate{good, wrong}, 0, api.ErrRange},
		{[]standard.Estimate{good, wrong}, 1, api.OK},
		{[]standard.Estimate{good, estimate(whole(part), ratio(1, 2))}, 0, api.ErrLarge},
		{[]standard.Estimate{good, estimate(whole(part), ratio(1, 2))}, 1, api.OK},
		{[]standard.Estimate{good, estimate(whole(40000), whole(1)), estimate(whole(-40000), whole(1))}, 0, api.ErrLarge}, // the chi square
	} {
		if m, e := standard.Without(c.l, c.i); e != c.e || (m == standard.Estimate{}) != (e != api.OK) {
			t.Error(i, m, e)
		}
	}
}
