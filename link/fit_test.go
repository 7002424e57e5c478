package link_test

import (
	"math"
	"math/big"
	"math/rand"
	"slices"
	"testing"

	"meridian/api"
	"meridian/link"
)

// fit is that of a net that has one.
func fit(t *testing.T, n link.Net, weights []int) []api.Ratio {
	t.Helper()
	x, e := link.Fit(n, weights)
	if e != api.OK || len(x) != n.Labs || x[0] != ratio(0, 1) {
		t.Fatal(n, weights, x, e)
	}
	for _, v := range x {
		if !equal(v, big.NewRat(int64(v.N), int64(v.D))) {
			t.Fatal(n, weights, x)
		}
	}
	return x
}

// P7.4, example 4.
func TestFitExample(t *testing.T) {
	if x := fit(t, three(1), []int{1, 1, 1}); !slices.Equal(x, []api.Ratio{ratio(0, 1), ratio(-35, 3), ratio(-55, 3)}) {
		t.Error(x)
	}
	if x := fit(t, net(1), nil); len(x) != 1 {
		t.Error(x)
	}
	two := net(2, link.Link{A: 1, B: 0, Diff: 10}, link.Link{A: 0, B: 1, Diff: -16})
	if x := fit(t, two, []int{1, 2}); !slices.Equal(x, []api.Ratio{ratio(0, 1), ratio(14, 1)}) {
		t.Error(x)
	}
}

// anyFit is a net that can be fitted, at the limits or not.
func anyFit(r *rand.Rand) link.Net {
	labs := 1 + r.Intn(5)
	size := []int{10, 1000, diff / 30}[r.Intn(3)]
	n := joined(r, labs, r.Intn(14-labs), size, size, 3)
	if r.Intn(4) == 0 {
		for i := range n.Links {
			n.Links[i].Diff = (1 - 2*r.Intn(2)) * diff / 10
		}
	}
	return n
}

// P7.4, P7.5: at each laboratory the weighted rests of the links cancel, which
// no other numbers do; the bounds of the links do not count.
func TestFit(t *testing.T) {
	r := rand.New(rand.NewSource(14))
	fractions := 0
	for range 5000 {
		n := anyFit(r)
		weights := anyWeights(r, n)
		x := fit(t, n, weights)
		for _, rest := range rests(n, weights, x) {
			if rest.Sign() != 0 {
				t.Fatal(n, weights, x, rest)
			}
		}
		if slices.ContainsFunc(x, func(v api.Ratio) bool { return v.D > 1000 }) {
			fractions++
		}
		if e := link.CheckFit(n, weights, x); e != api.OK {
			t.Fatal(n, weights, x, e)
		}
		for i := range n.Links {
			n.Links[i].Bound = r.Intn(diff)
		}
		if y := fit(t, n, weights); !slices.Equal(x, y) {
			t.Fatal(n, weights, x, y)
		}
	}
	if fractions < 500 {
		t.Error("too few fractions", fractions)
	}
}

// P7.4: the sum is greater for numbers that differ from the fit, which CheckFit
// tells from it.
func TestLeast(t *testing.T) {
	r := rand.New(rand.NewSource(15))
	for range 5000 {
		n := anyFit(r)
		if n.Labs == 1 {
			continue
		}
		weights := anyWeights(r, n)
		x := fit(t, n, weights)
		least := loss(n, weights, x)
		k := 1 + r.Intn(n.Labs-1)
		x[k].N += x[k].D * (1 + r.Intn(3)) * (1 - 2*r.Intn(2))
		if loss(n, weights, x).Cmp(least) <= 0 {
			t.Fatal(n, weights, x, least)
		}
		if e := link.CheckFit(n, weights, x); e != api.ErrFalse {
			t.Fatal(n, weights, x, e)
		}
	}
}

// P7.4: the greatest weights and differences, between all laboratories.
func TestFitLimits(t *testing.T) {
	var n link.Net
	n.Labs = 5
	for a := range 5 {
		for b := a + 1; b < 5; b++ {
			n.Links = append(n.Links, link.Link{A: a, B: b})
		}
	}
	n.Links = append(n.Links, link.Link{A: 4, B: 0}, link.Link{A: 3, B: 1})
	weights := slices.Repeat([]int{10}, 12)
	r := rand.New(rand.NewSource(16))
	for range 2000 {
		for i := range n.Links {
			n.Links[i].Diff = (1 - 2*r.Intn(2)) * diff / 10
			weights[i] = 10 - r.Intn(2)
		}
		x := fit(t, n, weights)
		for _, rest := range rests(n, weights, x) {
			if rest.Sign() != 0 {
				t.Fatal(n, weights, x, rest)
			}
		}
	}
}

// P7.5: the fit of a net without contradictions and without bounds is its only
// solution.
func TestFitSolves(t *testing.T) {
	r := rand.New(rand.NewSource(17))
	for range 2000 {
		labs := 1 + r.Intn(5)
		n := joined(r, labs, r.Intn(14-labs), 1000, 0, 0)
		want, e := link.Solve(n)
		if e != api.OK {
			t.Fatal(n, e)
		}
		for i, v := range fit(t, n, anyWeights(r, n)) {
			if v != ratio(want[i], 1) {
				t.Fatal(n, want, i, v)
			}
		}
	}
}

// chain is a row of laboratories with links more than it needs.
func chain(labs, more int) link.Net {
	n := net(labs)
	for k := 1; k < labs; k++ {
		n.Links = append(n.Links, link.Link{A: k, B: k - 1})
	}
	for range more {
		n.Links = append(n.Links, link.Link{A: 0, B: 1})
	}
	return n
}

// P7.4: the errors of Fit, which CheckFit has first, in their order.
func TestFitErrors(t *testing.T) {
	ones := slices.Repeat([]int{1}, 40)
	apart := chain(3, 2)
	apart.Labs = 4
	set := func(n link.Net, i, d int) link.Net {
		n.Links = slices.Clone(n.Links)
		n.Links[i].Diff = d
		return n
	}
	for i, x := range []struct {
		n       link.Net
		weights []int
		want    api.Errno
	}{
		{chain(5, 8), ones[:12], api.OK}, {chain(6, 0), ones[:5], api.ErrMany}, {chain(5, 9), ones[:13], api.ErrMany}, {chain(12, 0), nil, api.ErrMany}, {chain(2, 12), nil, api.ErrMany}, {net(6), nil, api.ErrMany},
		{set(chain(6, 0), 0, diff), nil, api.ErrMany},
		{chain(3, 0), nil, api.ErrArg}, {chain(3, 0), ones[:1], api.ErrArg}, {chain(3, 0), ones[:3], api.ErrArg}, {net(1), ones[:1], api.ErrArg}, {net(3), ones[:1], api.ErrArg},
		{chain(3, 0), []int{0, 1}, api.ErrArg}, {chain(3, 0), []int{1, 11}, api.ErrArg}, {chain(3, 0), []int{10, 1}, api.OK}, {chain(3, 0), []int{-1, 1}, api.ErrArg}, {chain(3, 0), []int{math.MinInt, math.MaxInt}, api.ErrArg},
		{set(chain(3, 0), 0, diff), []int{1, 0}, api.ErrArg}, {set(chain(3, 0), 0, diff), ones[:1], api.ErrArg},
		{set(chain(3, 0), 0, diff/10), ones[:2], api.OK}, {set(chain(3, 0), 1, -diff/10), ones[:2], api.OK}, {set(chain(3, 0), 0, diff/10+1), ones[:2], api.ErrRange}, {set(chain(3, 0), 1, -diff/10-1), ones[:2], api.ErrRange}, {set(chain(3, 0), 1, diff), ones[:2], api.ErrRange},
		{apart, ones[:4], api.ErrState}, {set(apart, 3, diff), ones[:4], api.ErrRange}, {apart, nil, api.ErrArg}, {net(2), nil, api.ErrState}, {net(5), nil, api.ErrState}, {net(1), nil, api.OK},
	} {
		fit, e := link.Fit(x.n, x.weights)
		if e != x.want || e != api.OK && len(fit) != 0 {
			t.Error(i, fit, e)
		}
		f := link.CheckFit(x.n, x.weights, fit)
		bad := link.CheckFit(x.n, x.weights, []api.Ratio{{N: 2, D: 4}})
		if f != x.want || x.want != api.OK && bad != x.want || x.want == api.OK && bad != api.ErrArg {
			t.Error(i, f, bad)
		}
	}
}

// P7.4: what CheckFit says of numbers.
func TestCheckFit(t *testing.T) {
	const far = 1000000000000000000
	zero := ratio(0, 1)
	weights := []int{1, 1, 1}
	good := []api.Ratio{zero, ratio(-35, 3), ratio(-55, 3)}
	for i, x := range []struct {
		x    []api.Ratio
		want api.Errno
	}{
		{good, api.OK},
		{nil, api.ErrArg}, {good[:2], api.ErrArg}, {append(slices.Clone(good), zero), api.ErrArg}, {[]api.Ratio{zero, good[2], good[1]}, api.ErrFalse},
		{[]api.Ratio{zero, ratio(35, -3), good[2]}, api.ErrArg}, {[]api.Ratio{zero, ratio(-70, 6), good[2]}, api.ErrArg}, {[]api.Ratio{ratio(0, 2), good[1], good[2]}, api.ErrArg}, {[]api.Ratio{{}, good[1], good[2]}, api.ErrArg}, {[]api.Ratio{ratio(0, -1), good[1], good[2]}, api.ErrArg},
		{[]api.Ratio{ratio(1, 1), ratio(-32, 3), ratio(-52, 3)}, api.ErrFalse}, {[]api.Ratio{zero, zero, zero}, api.ErrFalse}, {[]api.Ratio{zero, ratio(35, 3), ratio(55, 3)}, api.ErrFalse},
		{[]api.Ratio{zero, good[1], ratio(far, 1)}, api.ErrFalse}, {[]api.Ratio{zero, good[1], ratio(-far, 1)}, api.ErrFalse}, {[]api.Ratio{zero, good[1], ratio(far+1, 1)}, api.ErrArg}, {[]api.Ratio{zero, good[1], ratio(-far-1, 1)}, api.ErrArg},
		{[]api.Ratio{zero, good[1], ratio(1, diff)}, api.ErrFalse}, {[]api.Ratio{zero, good[1], ratio(1, diff+1)}, api.ErrArg}, {[]api.Ratio{ratio(far-1, diff-1), good[1], good[2]}, api.ErrArg}, {[]api.Ratio{ratio(far-1, diff), good[1], good[2]}, api.ErrFalse},
		{[]api.Ratio{ratio(1, 1), good[1], ratio(math.MinInt, math.MinInt)}, api.ErrArg}, {[]api.Ratio{zero, ratio(math.MaxInt, 1), good[2]}, api.ErrArg}, {[]api.Ratio{zero, ratio(math.MinInt, 1), good[2]}, api.ErrArg}, {[]api.Ratio{zero, ratio(1, math.MaxInt), good[2]}, api.ErrArg}, {[]api.Ratio{zero, ratio(1, math.MinInt), good[2]}, api.ErrArg},
	} {
		if e := link.CheckFit(three(1), weights, x.x); e != x.want {
			t.Error(i, e)
		}
	}
	if e := link.CheckFit(three(1), []int{1, 1, 2}, good); e != api.ErrFalse {
		t.Error(e)
	}
	if e := link.CheckFit(net(1), nil, []api.Ratio{zero}); e != api.OK {
		t.Error(e)
	}
	if e := link.CheckFit(net(1), nil, []api.Ratio{ratio(1, 2)}); e != api.ErrFalse {
		t.Error(e)
	}
}
