package quality_test

import (
	"math/rand"
	"slices"
	"testing"

	"meridian/api"
	"meridian/quality"
)

// outcome is what a call returned: its error, and whether all else was zero.
type outcome struct {
	call string
	e    api.Errno
	zero bool
}

// ofComparison calls all functions that take one comparison.
func ofComparison(c quality.Comparison, set []int) []outcome {
	var l []outcome
	m, v, e := quality.Reference(c)
	l = append(l, outcome{"Reference", e, m == api.Ratio{} && v == api.Ratio{}})
	d, e := quality.Degrees(c)
	l = append(l, outcome{"Degrees", e, len(d) == 0})
	p, e := quality.Pair(c, 0, 1)
	l = append(l, outcome{"Pair", e, p == quality.Degree{}})
	p, e = quality.Pair(c, -1, 1)
	l = append(l, outcome{"Pair", e, p == quality.Degree{}})
	n, e := quality.Large(c)
	l = append(l, outcome{"Large", e, len(n) == 0})
	m, e = quality.Chi(c, set)
	l = append(l, outcome{"Chi", e, m == api.Ratio{}})
	is, e := quality.Consistent(c, set)
	l = append(l, outcome{"Consistent", e, !is})
	n, e = quality.Largest(c)
	l = append(l, outcome{"Largest", e, len(n) == 0})
	other := comparison(1, result(1, 2, 3))
	m, d, e = quality.Join(c, other)
	l = append(l, outcome{"Join of the first", e, m == api.Ratio{} && len(d) == 0})
	m, d, e = quality.Join(other, c)
	return append(l, outcome{"Join of the second", e, m == api.Ratio{} && len(d) == 0})
}

// refuse checks that all functions return an error of Check first.
func refuse(t *testing.T, c quality.Comparison, want api.Errno) {
	t.Helper()
	if e := quality.Check(c); e != want {
		t.Error("Check", c, e, want)
	}
	for _, set := range [][]int{{0}, nil, {1, 0}, {99}} {
		for _, x := range ofComparison(c, set) {
			if x.e != want || !x.zero {
				t.Error(x, c, want)
			}
		}
	}
}

// P12.1: the example of the chapter.
func TestExampleOfComparison(t *testing.T) {
	c := comparison(100, result(4, 10, 1), result(9, 16, 2))
	mean, variance, e := quality.Reference(c)
	if mean != ratio(14, 1) || variance != ratio(100, 3) || e != api.OK {
		t.Error(mean, variance, e)
	}
	want := []quality.Degree{{Lab: 4, Diff: ratio(-4, 1), Var: ratio(200, 3)}, {Lab: 9, Diff: ratio(2, 1), Var: ratio(50, 3)}}
	if l, e := quality.Degrees(c); !slices.Equal(l, want) || e != api.OK {
		t.Error(l, e)
	}
	if chi, e := quality.Chi(c, []int{0, 1}); chi != ratio(6, 25) || e != api.OK {
		t.Error(chi, e)
	}
}

// P12.1, R1: numbers at the limits are allowed, those beyond are not, whichever
// result has them.
func TestCheckLimits(t *testing.T) {
	for _, x := range []struct {
		name        string
		least, most int
		change      func(c *quality.Comparison, i, n int)
	}{
		{name: "Unit", least: 1, most: 1000000, change: func(c *quality.Comparison, _, n int) { c.Unit = n }},
		{name: "Lab", least: 0, most: 99, change: func(c *quality.Comparison, i, n int) { c.Results[i].Lab = n }},
		{name: "Value", least: -100000, most: 100000, change: func(c *quality.Comparison, i, n int) { c.Results[i].Value = n }},
		{name: "Weight", least: 1, most: 100, change: func(c *quality.Comparison, i, n int) { c.Results[i].Weight = n }},
	} {
		for i := range 3 {
			for _, n := range append(far, x.least-1, x.least, x.most, x.most+1) {
				c := comparison(7, result(11, 5, 1), result(12, -6, 2), result(13, 7, 3))
				x.change(&c, i, n)
				if n < x.least || n > x.most {
					refuse(t, c, api.ErrRange)
				} else if e := quality.Check(c); e != api.OK {
					t.Error(x.name, n, e)
				}
			}
		}
	}
}

// P12.1: there are 1 to 10 results.
func TestCheckCount(t *testing.T) {
	for count := range 30 {
		c := comparison(1)
		for i := range count {
			c.Results = append(c.Results, result(i, i, 1))
		}
		if count >= 1 && count <= 10 {
			if e := quality.Check(c); e != api.OK {
				t.Error(count, e)
			}
			continue
		}
		refuse(t, c, api.ErrMany)
		c.Unit = 0
		for i := range c.Results {
			c.Results[i] = result(1, 1, 0)
		}
		refuse(t, c, api.ErrMany)
	}
}

// P12.1, R1: the order of errors, and equal laboratories wherever they stand.
func TestCheckOrder(t *testing.T) {
	refuse(t, comparison(0, result(1, 0, 1), result(1, 0, 1)), api.ErrRange)
	refuse(t, comparison(1, result(1, 0, 1), result(1, 0, 1), result(2, 0, 0)), api.ErrRange)
	refuse(t, comparison(1, result(100, 0, 1), result(100, 0, 1)), api.ErrRange)
	for a := range 10 {
		for b := range a {
			c := comparison(1)
			for i := range 10 {
				c.Results = append(c.Results, result(90+i, i, 1+i))
			}
			c.Results[a].Lab = c.Results[b].Lab
			refuse(t, c, api.ErrTwice)
		}
	}
}

// P12.1: references and degrees, of all sizes.
func TestDegrees(t *testing.T) {
	r := rand.New(rand.NewSource(1))
	for _, c := range comparisons(r, 500) {
		if e := quality.Check(c); e != api.OK {
			t.Fatal(c, e)
		}
		want, weights := slowMean(c.Results)
		mean, variance, e := quality.Reference(c)
		if e != api.OK || !equal(mean, want) || !equal(variance, times(rat(c.Unit, 1), weights.Inv(weights))) {
			t.Fatal(c, mean, variance, e)
		}
		l := must[[]quality.Degree](t)(quality.Degrees(c))
		var large []int
		for i, d := range l {
			diff, variance := slowDegree(c, i)
			if d.Lab != c.Results[i].Lab || !equal(d.Diff, diff) || !equal(d.Var, variance) {
				t.Fatal(c, i, d, diff, variance)
			}
			if times(diff, diff).Cmp(times(rat(4, 1), variance)) > 0 {
				large = append(large, i)
			}
		}
		if n := must[[]int](t)(quality.Large(c)); len(l) != len(c.Results) || !slices.Equal(n, large) {
			t.Fatal(c, len(l), n, large)
		}
	}
}

// P12.1: a square that is just four times the variance is not large.
func TestJustLarge(t *testing.T) {
	for _, x := range []struct {
		c    quality.Comparison
		want []int
	}{
		{comparison(2, result(1, 0, 1), result(2, 4, 1)), nil},
		{comparison(2, result(1, 0, 1), result(2, -5, 1)), []int{0, 1}},
		{comparison(1, result(1, 0, 1), result(2, 4, 1)), []int{0, 1}},
		{comparison(1, result(1, 100000, 100)), nil},
		{comparison(1000000, result(1, -100000, 1), result(2, 100000, 100)), []int{0, 1}},
	} {
		if l := must[[]int](t)(quality.Large(x.c)); !slices.Equal(l, x.want) {
			t.Error(x, l)
		}
	}
}

// P12.1: degrees of two results, in both orders.
func TestPair(t *testing.T) {
	r := rand.New(rand.NewSource(2))
	for _, c := range comparisons(r, 100) {
		for a, x := range c.Results {
			for b, y := range c.Results {
				d, e := quality.Pair(c, a, b)
				if a == b {
					if (d != quality.Degree{}) || e != api.ErrArg {
						t.Fatal(c, a, d, e)
					}
					continue
				}
				variance := plus(rat(c.Unit, x.Weight), rat(c.Unit, y.Weight))
				if e != api.OK || d.Lab != x.Lab || d.Diff != ratio(x.Value-y.Value, 1) || !equal(d.Var, variance) {
					t.Fatal(c, a, b, d, e)
				}
			}
		}
	}
}

// P12.1: no indices of results.
func TestPairErrors(t *testing.T) {
	c := comparison(3, result(1, 2, 3), result(2, 3, 4), result(3, 4, 5))
	for _, n := range append(far, -1, 3) {
		for _, k := range []int{0, 1, 2, n} {
			for _, x := range [][2]int{{n, k}, {k, n}} {
				if d, e := quality.Pair(c, x[0], x[1]); (d != quality.Degree{}) || e != api.ErrArg {
					t.Error(x, d, e)
				}
			}
		}
	}
}

// P12.5: the degrees, times their weights, add up to nothing, and a shift of all
// values changes none of them.
func TestDegreesAddUp(t *testing.T) {
	r := rand.New(rand.NewSource(3))
	for range 500 {
		c := anyComparison(r, 1+r.Intn(1000000), 1+r.Intn(10), 100, 50000, 100)
		l := must[[]quality.Degree](t)(quality.Degrees(c))
		sum := rat(0, 1)
		for i, d := range l {
			sum = plus(sum, times(rat(c.Results[i].Weight, 1), rat(d.Diff.N, d.Diff.D)))
		}
		if sum.Sign() != 0 {
			t.Fatal(c, sum)
		}
		shifted := comparison(c.Unit, slices.Clone(c.Results)...)
		by := r.Intn(100001) - 50000
		for i := range shifted.Results {
			shifted.Results[i].Value += by
		}
		if g := must[[]quality.Degree](t)(quality.Degrees(shifted)); !slices.Equal(g, l) {
			t.Fatal(c, by, g, l)
		}
	}
}

// slowJoin checks what Join returned.
func slowJoin(t *testing.T, a, b quality.Comparison) {
	t.Helper()
	shift, l, e := quality.Join(a, b)
	sum, count := rat(0, 1), 0
	for i, x := range a.Results {
		for k, y := range b.Results {
			if x.Lab == y.Lab {
				d, _ := slowDegree(a, i)
				f, _ := slowDegree(b, k)
				sum = plus(sum, minus(d, f))
				count++
			}
		}
	}
	if count == 0 {
		if e != api.ErrNone || (shift != api.Ratio{}) || len(l) != 0 {
			t.Fatal(a, b, shift, l, e)
		}
		return
	}
	want := times(sum, rat(1, count))
	if e != api.OK || !equal(shift, want) || len(l) != len(b.Results) {
		t.Fatal(a, b, shift, want, l, e)
	}
	for i, d := range l {
		diff, variance := slowDegree(b, i)
		if d.Lab != b.Results[i].Lab || !equal(d.Diff, plus(diff, want)) || !equal(d.Var, variance) {
			t.Fatal(a, b, i, d)
		}
	}
}

// P12.2: joined degrees, with one, several or no laboratories in both comparisons.
func TestJoin(t *testing.T) {
	r := rand.New(rand.NewSource(4))
	l := comparisons(r, 100)
	for range 5000 {
		slowJoin(t, l[r.Intn(len(l))], l[r.Intn(len(l))])
	}
	none := 0
	for range 1000 {
		a := anyComparison(r, 1+r.Intn(1000000), 1+r.Intn(10), 20, 100000, 100)
		b := anyComparison(r, 1+r.Intn(1000000), 1+r.Intn(10), 20, 100000, 100)
		slowJoin(t, a, b)
		if _, _, e := quality.Join(a, b); e == api.ErrNone {
			none++
		}
	}
	if none == 0 || none == 1000 {
		t.Error(none)
	}
	a, b := comparison(1000000), comparison(999999)
	for i := range 10 {
		a.Results = append(a.Results, result(i, 100000, 100))
		b.Results = append(b.Results, result(9-i, -100000, 99))
	}
	a.Results[3].Weight, b.Results[4].Weight = 97, 1
	a.Results[5].Value, b.Results[6].Value = -99999, 99999
	slowJoin(t, a, b)
	slowJoin(t, b, a)
}

// P12.2: joined with itself, a comparison is not shifted; and the errors of the
// first comparison come before those of the second one, and before ErrNone.
func TestJoinOrder(t *testing.T) {
	c := comparison(100, result(1, 10, 1), result(2, 16, 2))
	shift, l, e := quality.Join(c, c)
	if shift != ratio(0, 1) || !slices.Equal(l, must[[]quality.Degree](t)(quality.Degrees(c))) || e != api.OK {
		t.Error(shift, l, e)
	}
	wrong := map[api.Errno]quality.Comparison{
		api.ErrMany: comparison(1), api.ErrRange: comparison(0, result(3, 1, 1)), api.ErrTwice: comparison(1, result(3, 1, 1), result(3, 1, 1)),
	}
	for want, a := range wrong {
		for other, b := range wrong {
			if shift, l, e := quality.Join(a, b); (shift != api.Ratio{}) || len(l) != 0 || e != want {
				t.Error(want, other, shift, l, e)
			}
		}
	}
}
