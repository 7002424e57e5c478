package link_test

import (
	"math"
	"math/big"
	"math/rand"
	"slices"
	"testing"

	"meridian/api"
	"meridian/link"
)

// P7.1, P7.2, P7.4: the chapter's limits.
func TestConstants(t *testing.T) {
	for i, n := range []int{link.MaxSat - 99, link.MaxTracks - 200, link.MaxTime - time, link.MaxDiff - diff, link.MaxLabs - 12, link.MaxLinks - 40, link.MaxStops - 20, link.MaxFit - 5, link.MaxWeight - 10} {
		if n != 0 {
			t.Error(i, n)
		}
	}
}

// longLog has as many tracks as are allowed, and some more.
func longLog(more int) []link.Track {
	var l []link.Track
	for i := range 200 + more {
		l = append(l, link.Track{Sat: i % 100, Second: i / 100, Value: i})
	}
	return l
}

// P7.1: the limits of a log, at them and beyond them, and the order of errors.
func TestCheckLog(t *testing.T) {
	const least, most = math.MinInt, math.MaxInt
	bad, good := link.Track{Sat: -1}, link.Track{Sat: 7, Second: 5, Value: 3}
	twice := link.Track{Sat: 7, Second: 5, Value: 4}
	for i, x := range []struct {
		l    []link.Track
		want api.Errno
	}{
		{nil, api.OK}, {[]link.Track{}, api.OK}, {longLog(0), api.OK}, {longLog(1), api.ErrMany},
		{append([]link.Track{bad}, longLog(0)...), api.ErrMany}, {append(longLog(0), good), api.ErrMany},
		{[]link.Track{{}}, api.OK}, {[]link.Track{{Sat: 99, Second: 1000000, Value: time}, {Value: -time}}, api.OK},
		{[]link.Track{{Sat: 100}}, api.ErrRange}, {[]link.Track{bad}, api.ErrRange}, {[]link.Track{{Sat: least}}, api.ErrRange}, {[]link.Track{{Sat: most}}, api.ErrRange},
		{[]link.Track{{Second: 1000001}}, api.ErrRange}, {[]link.Track{{Second: -1}}, api.ErrRange}, {[]link.Track{{Second: least}}, api.ErrRange}, {[]link.Track{{Second: most}}, api.ErrRange},
		{[]link.Track{{Value: time + 1}}, api.ErrRange}, {[]link.Track{{Value: -time - 1}}, api.ErrRange}, {[]link.Track{{Value: least}}, api.ErrRange}, {[]link.Track{{Value: most}}, api.ErrRange},
		{[]link.Track{good, twice}, api.ErrTwice}, {[]link.Track{good, good}, api.ErrTwice}, {[]link.Track{good, {Sat: 1}, {Sat: 2}, good}, api.ErrTwice},
		{[]link.Track{good, {Sat: 7, Second: 6}, {Sat: 6, Second: 5}, {Sat: 5, Second: 7}}, api.OK},
		{[]link.Track{good, bad, good}, api.ErrRange}, {[]link.Track{good, good, bad}, api.ErrTwice},
		{[]link.Track{good, {Sat: 7, Second: 5, Value: time + 1}}, api.ErrRange},
	} {
		if e := link.CheckLog(x.l); e != x.want {
			t.Error(i, e)
		}
	}
}

// P7.1, example 1, and differences at the limits.
func TestCommonExamples(t *testing.T) {
	a := []link.Track{{Sat: 3, Second: 10, Value: 500}, {Sat: 4, Second: 10, Value: 700}}
	b := []link.Track{{Sat: 3, Second: 10, Value: 350}, {Sat: 5, Second: 10, Value: 1}}
	if v, e := link.Common(a, b, 100, 20); e != api.OK || v != (link.View{Count: 1, Mean: ratio(70, 1), Least: 70, Most: 70}) {
		t.Error(v, e)
	}
	far := []link.Track{{Value: time}, {Sat: 1, Value: time}, {Sat: 2, Value: -time}}
	near := []link.Track{{Sat: 2, Value: time}, {Sat: 1, Value: -time}, {Sat: 0, Value: -time}}
	if v, e := link.Common(far, near, -time, time); e != api.OK || v != (link.View{Count: 3, Mean: ratio(8*time, 3), Least: 0, Most: 4 * time}) {
		t.Error(v, e)
	}
}

// anyLog has up to most tracks of few satellites and seconds, in any order.
func anyLog(r *rand.Rand, most int) []link.Track {
	var l []link.Track
	for _, i := range r.Perm(12)[:r.Intn(most+1)] {
		l = append(l, link.Track{Sat: i % 3, Second: i / 3, Value: around(r, 40)})
	}
	return l
}

// P7.1: Common against all pairs of tracks.
func TestCommon(t *testing.T) {
	r := rand.New(rand.NewSource(1))
	fractions, none := 0, 0
	for range 5000 {
		a, b := anyLog(r, 12), anyLog(r, 12)
		delayA, delayB := around(r, 30), around(r, 30)
		var l []int
		sum := new(big.Rat)
		for _, x := range a {
			for _, y := range b {
				if x.Sat == y.Sat && x.Second == y.Second {
					d := x.Value - delayA - (y.Value - delayB)
					l = append(l, d)
					sum.Add(sum, big.NewRat(int64(d), 1))
				}
			}
		}
		v, e := link.Common(a, b, delayA, delayB)
		if len(l) == 0 {
			none++
			if e != api.ErrNone || v != (link.View{}) {
				t.Fatal(a, b, v, e)
			}
			continue
		}
		mean := sum.Quo(sum, big.NewRat(int64(len(l)), 1))
		if e != api.OK || v.Count != len(l) || !equal(v.Mean, mean) || v.Least != slices.Min(l) || v.Most != slices.Max(l) {
			t.Fatal(a, b, delayA, delayB, v, e)
		}
		if v.Mean.D > 1 {
			fractions++
		}
		back, e := link.Common(b, a, delayB, delayA)
		if e != api.OK || back != (link.View{Count: v.Count, Mean: ratio(-v.Mean.N, v.Mean.D), Least: -v.Most, Most: -v.Least}) {
			t.Fatal(a, b, v, back, e)
		}
	}
	if min(fractions, none) < 100 {
		t.Error("too few of a result", fractions, none)
	}
}

// P7.1: logs and delays at their limits.
func TestCommonLimits(t *testing.T) {
	up, down := longLog(0), longLog(0)
	for i := range up {
		up[i].Value, down[i].Value = time, -time
	}
	slices.Reverse(down)
	if v, e := link.Common(up, down, -time, time); e != api.OK || v != (link.View{Count: 200, Mean: ratio(4*time, 1), Least: 4 * time, Most: 4 * time}) {
		t.Error(v, e)
	}
	up[17].Value--
	if v, e := link.Common(up, down, time, -time); e != api.OK || v != (link.View{Count: 200, Mean: ratio(-1, 200), Least: -1, Most: 0}) {
		t.Error(v, e)
	}
}

// P7.1: the errors of Common in their order.
func TestCommonErrors(t *testing.T) {
	good := []link.Track{{Sat: 1, Second: 2, Value: 3}}
	other := []link.Track{{Sat: 2, Second: 1, Value: 3}}
	twice := append(slices.Clone(good), good...)
	bad := []link.Track{{Sat: 100}}
	for i, x := range []struct {
		a, b           []link.Track
		delayA, delayB int
		want           api.Errno
	}{
		{longLog(1), bad, time + 1, 0, api.ErrMany}, {bad, longLog(1), time + 1, 0, api.ErrRange}, {twice, bad, time + 1, 0, api.ErrTwice},
		{good, longLog(1), time + 1, 0, api.ErrMany}, {good, twice, 0, time + 1, api.ErrTwice}, {good, bad, 0, 0, api.ErrRange},
		{good, other, time + 1, 0, api.ErrRange}, {good, other, 0, -time - 1, api.ErrRange}, {good, good, -time - 1, 0, api.ErrRange}, {good, good, 0, time + 1, api.ErrRange},
		{good, good, math.MinInt, 0, api.ErrRange}, {good, good, 0, math.MaxInt, api.ErrRange},
		{good, good, time, -time, api.OK}, {good, good, -time, time, api.OK},
		{good, other, 0, 0, api.ErrNone}, {nil, nil, 0, 0, api.ErrNone}, {good, nil, 0, 0, api.ErrNone}, {[]link.Track{}, good, 0, 0, api.ErrNone},
	} {
		if v, e := link.Common(x.a, x.b, x.delayA, x.delayB); e != x.want || e != api.OK && v != (link.View{}) {
			t.Error(i, v, e)
		}
	}
}

// P7.1, example 2, and intervals at the limits.
func TestTwoWayExamples(t *testing.T) {
	for i, x := range []struct {
		x    link.Ends
		want api.Span
		e    api.Errno
	}{
		{link.Ends{AtA: 1000, AtB: 400, Skew: 10, Error: 5}, span(303, 307), api.OK},
		{link.Ends{AtA: 1000, AtB: 400, Error: time}, span(-400, 1000), api.OK},
		{link.Ends{}, span(0, 0), api.OK},
		{link.Ends{AtA: -1}, span(0, 0), api.ErrEmpty},
		{link.Ends{AtA: 1}, span(0, 0), api.ErrEmpty}, // 1/2 only
		{link.Ends{AtA: 1, Error: 1}, span(0, 1), api.OK},
		{link.Ends{AtA: time, AtB: time, Error: time}, span(-time/2, time/2), api.OK},
		{link.Ends{AtA: time, AtB: time, Least: time, Error: time}, span(0, 0), api.OK},
		{link.Ends{AtA: time, AtB: -time, Skew: time}, span(0, 0), api.ErrEmpty},
		{link.Ends{AtA: time, AtB: -time, Skew: 0}, span(time, time), api.OK},
		{link.Ends{AtA: -time, AtB: time, Skew: 0}, span(-time, -time), api.OK},
		{link.Ends{AtA: -time, AtB: -time, Least: time, Skew: -time, Error: time}, span(0, 0), api.ErrEmpty},
		{link.Ends{AtA: time, AtB: 0, Skew: -time, Error: 0}, span(0, 0), api.OK},
		{link.Ends{AtA: time, AtB: 0, Skew: -time, Error: 1}, span(0, 0), api.OK},
		{link.Ends{AtA: time, AtB: 0, Skew: -time, Error: time}, span(0, time/2), api.OK},
	} {
		if s, e := link.TwoWay(x.x); e != x.e || s != x.want {
			t.Error(i, s, e)
		}
	}
}

// P7.1: the interval against all differences, for which it is looked whether
// the times that they ask for are allowed.
func TestTwoWay(t *testing.T) {
	r := rand.New(rand.NewSource(2))
	empty, wide := 0, 0
	for range 20000 {
		x := link.Ends{AtA: around(r, 20), AtB: around(r, 20), Least: r.Intn(8), Skew: around(r, 20), Error: r.Intn(12)}
		var l []int
		for d := -200; d <= 200; d++ {
			there, back := x.AtB+d, x.AtA-d
			if there >= x.Least && back >= x.Least && there-back >= x.Skew-x.Error && there-back <= x.Skew+x.Error {
				l = append(l, d)
			}
		}
		s, e := link.TwoWay(x)
		if len(l) == 0 {
			empty++
			if e != api.ErrEmpty || s != (api.Span{}) {
				t.Fatal(x, s, e)
			}
			continue
		}
		if e != api.OK || s != span(l[0], l[len(l)-1]) {
			t.Fatal(x, s, e, l)
		}
		if len(l) > 1 {
			wide++
		}
	}
	if min(empty, wide) < 1000 {
		t.Error("too few of a result", empty, wide)
	}
}

// P7.5: if the times keep what is stated, the interval holds the difference.
func TestTwoWayHolds(t *testing.T) {
	r := rand.New(rand.NewSource(3))
	for range 20000 {
		size := []int{5, 1000, time / 4}[r.Intn(3)]
		d, least := around(r, size), r.Intn(size)
		there, back := least+r.Intn(size), least+r.Intn(size)
		by := r.Intn(size)
		x := link.Ends{AtA: back + d, AtB: there - d, Least: least, Skew: there - back + around(r, by), Error: by}
		s, e := link.TwoWay(x)
		if e != api.OK || d < s.Lo || d > s.Hi {
			t.Fatal(x, d, s, e)
		}
	}
}

// P7.1: the limits of each number of an exchange, at them and beyond them.
func TestTwoWayErrors(t *testing.T) {
	for i, x := range []struct {
		set         func(x *link.Ends, n int)
		least, most int
	}{
		{func(x *link.Ends, n int) { x.AtA = n }, -time, time},
		{func(x *link.Ends, n int) { x.AtB = n }, -time, time},
		{func(x *link.Ends, n int) { x.Least = n }, 0, time},
		{func(x *link.Ends, n int) { x.Skew = n }, -time, time},
		{func(x *link.Ends, n int) { x.Error = n }, 0, time},
	} {
		for n, good := range map[int]bool{x.least: true, x.most: true, x.least - 1: false, x.most + 1: false, math.MinInt: false, math.MaxInt: false} {
			var y link.Ends
			x.set(&y, n)
			if s, e := link.TwoWay(y); (e == api.ErrRange) == good || e != api.OK && s != (api.Span{}) {
				t.Error(i, n, s, e)
			}
		}
	}
}

// P7.1, example 5, and trips at the limits.
func TestTravelExamples(t *testing.T) {
	x, e := link.Travel([]int{100, 250, 180, 130})
	if e != api.OK || x.Closure != 30 || !slices.Equal(x.Delays, []api.Ratio{ratio(140, 1), ratio(60, 1)}) {
		t.Error(x, e)
	}
	l := slices.Repeat([]int{time}, 22)
	l[0] = -time
	x, e = link.Travel(l)
	if e != api.OK || x.Closure != 2*time || len(x.Delays) != 20 {
		t.Fatal(x, e)
	}
	for i, d := range x.Delays {
		if !equal(d, big.NewRat(2*time*int64(20-i), 21)) {
			t.Error(i, d)
		}
	}
}

// P7.1: the delays as fractions of big.
func TestTravel(t *testing.T) {
	r := rand.New(rand.NewSource(4))
	for range 5000 {
		size := []int{3, 100, time}[r.Intn(3)]
		l := make([]int, 3+r.Intn(20))
		for i := range l {
			l[i] = around(r, size)
		}
		x, e := link.Travel(l)
		n := len(l) - 2
		if e != api.OK || x.Closure != l[n+1]-l[0] || len(x.Delays) != n {
			t.Fatal(l, x, e)
		}
		for k := 1; k <= n; k++ {
			want := big.NewRat(int64(k)*int64(x.Closure), int64(n+1))
			if !equal(x.Delays[k-1], want.Sub(big.NewRat(int64(l[k]-l[0]), 1), want)) {
				t.Fatal(l, k, x)
			}
		}
	}
}

// P7.5: a receiver that drifts evenly has the delays of one that does not.
func TestDrift(t *testing.T) {
	r := rand.New(rand.NewSource(5))
	for range 2000 {
		still := make([]int, 3+r.Intn(20))
		for i := range still {
			still[i] = around(r, 1000)
		}
		by := around(r, 1000)
		drifts := slices.Clone(still)
		for i := range drifts {
			drifts[i] += i * by
		}
		x, e := link.Travel(still)
		y, f := link.Travel(drifts)
		if e != api.OK || f != api.OK || !slices.Equal(x.Delays, y.Delays) || y.Closure != x.Closure+by*(len(still)-1) {
			t.Fatal(still, by, x, y)
		}
	}
}

// P7.1: the errors of Travel in their order.
func TestTravelErrors(t *testing.T) {
	bad := slices.Repeat([]int{time + 1}, 23)
	for i, x := range []struct {
		l    []int
		want api.Errno
	}{
		{nil, api.ErrMany}, {[]int{}, api.ErrMany}, {[]int{0}, api.ErrMany}, {bad[:2], api.ErrMany}, {bad, api.ErrMany}, {make([]int, 23), api.ErrMany},
		{make([]int, 22), api.OK}, {make([]int, 3), api.OK}, {[]int{time, -time, time}, api.OK},
		{[]int{time + 1, 0, 0}, api.ErrRange}, {[]int{0, -time - 1, 0}, api.ErrRange}, {[]int{0, 0, math.MinInt}, api.ErrRange}, {[]int{0, math.MaxInt, 0}, api.ErrRange}, {bad[:22], api.ErrRange},
	} {
		if y, e := link.Travel(x.l); e != x.want || e != api.OK && (len(y.Delays) != 0 || y.Closure != 0) {
			t.Error(i, y, e)
		}
	}
}
