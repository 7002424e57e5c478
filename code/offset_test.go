package code_test

import (
	"math"
	"math/rand"
	"slices"
	"testing"

	"meridian/api"
	"meridian/code"
)

const (
	farthest = 1000000000000000
	slowest  = 1000000000000
)

func span(lo, hi int) api.Span { return api.Span{Lo: lo, Hi: hi} }

// P10.5: an offset is in the interval if there are delays with which the poll is
// possible.
func TestBetween(t *testing.T) {
	r := rand.New(rand.NewSource(15))
	for range 3000 {
		x := code.Poll{T1: r.Intn(20) - 10, T2: r.Intn(20) - 10, Out: r.Intn(6), Back: r.Intn(6)}
		x.T4, x.T3 = x.T1+r.Intn(15), x.T2+r.Intn(10)
		want, is := api.Span{}, false
		for offset := -70; offset <= 70; offset++ {
			// the delays by the client's clock
			out, back := x.T2-offset-x.T1, x.T4-(x.T3-offset)
			if out < x.Out || back < x.Back {
				continue
			}
			if !is {
				want, is = span(offset, offset), true
			}
			want.Hi = offset
		}
		wantError := api.OK
		if !is {
			wantError = api.ErrEmpty
		}
		if s, e := code.Between(x); s != want || e != wantError {
			t.Fatal(x, s, e, want)
		}
	}
}

// P10.7: the offset is in the interval, whatever the delays; both ends are reached.
func TestTrueOffset(t *testing.T) {
	r := rand.New(rand.NewSource(16))
	for range 3000 {
		offset := r.Intn(2*slowest) - slowest
		least := func() int { return r.Intn(slowest) * r.Intn(2) }
		x := code.Poll{T1: r.Intn(slowest) - slowest/2, Out: least(), Back: least()}
		out, back, wait := x.Out+r.Intn(3)*r.Intn(slowest), x.Back+r.Intn(3)*r.Intn(slowest), r.Intn(1000)
		x.T2 = x.T1 + out + offset
		x.T3 = x.T2 + wait
		x.T4 = x.T3 - offset + back
		s, e := code.Between(x)
		if e != api.OK || offset < s.Lo || offset > s.Hi {
			t.Fatal(x, offset, s, e)
		}
		if out == x.Out && s.Hi != offset || back == x.Back && s.Lo != offset || s.Hi-s.Lo != out-x.Out+back-x.Back {
			t.Fatal(x, offset, s)
		}
	}
}

// P10.5, example 3; R1: the errors of Between, in their order.
func TestBetweenErrors(t *testing.T) {
	for i, x := range []struct {
		p    code.Poll
		want api.Span
		e    api.Errno
	}{
		{code.Poll{T1: 100, T2: 5200, T3: 5300, T4: 600}, span(4700, 5100), api.OK},
		{code.Poll{T1: 100, T2: 5200, T3: 5300, T4: 600, Out: 50, Back: 50}, span(4750, 5050), api.OK},
		{code.Poll{T1: 100, T2: 5200, T3: 5300, T4: 600, Out: 400}, span(4700, 4700), api.OK},
		{code.Poll{T1: 100, T2: 5200, T3: 5300, T4: 600, Out: 401}, api.Span{}, api.ErrEmpty},
		{code.Poll{T1: 100, T2: 5200, T3: 5701, T4: 600}, api.Span{}, api.ErrEmpty}, {code.Poll{T1: 100, T2: 5200, T3: 5700, T4: 600}, span(5100, 5100), api.OK},
		{code.Poll{}, span(0, 0), api.OK},
		{code.Poll{T1: 1}, api.Span{}, api.ErrOrder}, {code.Poll{T2: 1}, api.Span{}, api.ErrOrder}, {code.Poll{T1: 1, T2: 1, T4: 1, Out: 5}, api.Span{}, api.ErrOrder}, {code.Poll{T1: 1, T3: 9}, api.Span{}, api.ErrOrder},
		{code.Poll{T1: -farthest, T2: farthest, T3: farthest, T4: farthest}, span(0, 2*farthest), api.OK},
		{code.Poll{T1: -farthest, T2: -farthest, T3: -farthest, T4: farthest, Back: slowest}, span(-2*farthest+slowest, 0), api.OK},
		{code.Poll{T1: -farthest, T2: farthest, T3: farthest, T4: farthest, Out: slowest, Back: slowest}, span(slowest, 2*farthest-slowest), api.OK},
		{code.Poll{T1: farthest, T2: -farthest, T3: -farthest, T4: farthest}, span(-2*farthest, -2*farthest), api.OK},
		{code.Poll{T1: -farthest, T2: -farthest, T3: farthest, T4: -farthest}, api.Span{}, api.ErrEmpty},
		{code.Poll{T1: 1, T2: 1, Out: -1}, api.Span{}, api.ErrRange}, {code.Poll{T1: 1, T2: 1, Back: slowest + 1}, api.Span{}, api.ErrRange},
	} {
		if s, e := code.Between(x.p); s != x.want || e != x.e {
			t.Error(i, x, s, e)
		}
	}
	for _, n := range append(far, farthest+1) {
		for _, x := range []code.Poll{{T1: n}, {T2: n}, {T3: n}, {T4: n}, {Out: n}, {Back: n}, {T1: n, T2: n, T3: n, T4: n, Out: n, Back: n}} {
			if s, e := code.Between(x); (s != api.Span{}) || e != api.ErrRange {
				t.Error(x, s, e)
			}
		}
	}
	for _, n := range []int{-1, slowest + 1} {
		for _, x := range []code.Poll{{T4: farthest, Out: n}, {T4: farthest, Back: n}} {
			if s, e := code.Between(x); (s != api.Span{}) || e != api.ErrRange {
				t.Error(x, s, e)
			}
		}
	}
}

// P10.5: intervals after some seconds; R1: the errors of Widen, in their order.
func TestWiden(t *testing.T) {
	const most = 1000000
	for i, x := range []struct {
		s             api.Span
		rate, seconds int
		want          api.Span
		e             api.Errno
	}{
		{span(10, 20), 3, 100, span(-290, 320), api.OK}, {span(-5, -5), 1, 1, span(-6, -4), api.OK}, {span(-5, 7), 0, most, span(-5, 7), api.OK}, {span(-5, 7), most, 0, span(-5, 7), api.OK},
		{span(-farthest, farthest), most, most, span(-farthest-most*most, farthest+most*most), api.OK}, {span(farthest, farthest), 1, 2, span(farthest-2, farthest+2), api.OK}, {span(-farthest, -farthest), 2, 2, span(-farthest-4, -farthest+4), api.OK},
		{span(1, 0), -1, -1, api.Span{}, api.ErrEmpty}, {span(math.MaxInt, math.MinInt), 1, 1, api.Span{}, api.ErrEmpty}, {span(0, -1), 0, 0, api.Span{}, api.ErrEmpty},
		{span(0, 0), -1, 0, api.Span{}, api.ErrRange}, {span(0, 0), most + 1, 0, api.Span{}, api.ErrRange}, {span(0, 0), 0, -1, api.Span{}, api.ErrRange}, {span(0, 0), 0, most + 1, api.Span{}, api.ErrRange},
		{span(-farthest-1, 0), 0, 0, api.Span{}, api.ErrRange}, {span(0, farthest+1), 0, 0, api.Span{}, api.ErrRange}, {span(farthest+1, farthest+1), 0, 0, api.Span{}, api.ErrRange}, {span(-farthest-1, -farthest-1), 0, 0, api.Span{}, api.ErrRange},
		{span(math.MinInt, math.MaxInt), 0, 0, api.Span{}, api.ErrRange}, {span(math.MinInt, math.MinInt), 0, 0, api.Span{}, api.ErrRange}, {span(math.MaxInt, math.MaxInt), 0, 0, api.Span{}, api.ErrRange},
		{span(0, 0), math.MinInt, 1, api.Span{}, api.ErrRange}, {span(0, 0), math.MaxInt, 1, api.Span{}, api.ErrRange}, {span(0, 0), 1, math.MinInt, api.Span{}, api.ErrRange}, {span(0, 0), 1, math.MaxInt, api.Span{}, api.ErrRange},
	} {
		if s, e := code.Widen(x.s, x.rate, x.seconds); s != x.want || e != x.e {
			t.Error(i, x, s, e)
		}
	}
}

// P10.5: what is common to intervals; R1: the errors of Combine, in their order.
func TestCombine(t *testing.T) {
	for i, x := range []struct {
		l    []api.Span
		want api.Span
		e    api.Errno
	}{
		{nil, api.Span{}, api.ErrArg}, {[]api.Span{}, api.Span{}, api.ErrArg},
		{slices.Repeat([]api.Span{span(1, 0)}, 25), api.Span{}, api.ErrMany}, {slices.Repeat([]api.Span{span(1, 3)}, 25), api.Span{}, api.ErrMany}, {slices.Repeat([]api.Span{span(1, 3)}, 24), span(1, 3), api.OK},
		{[]api.Span{span(1, 0)}, api.Span{}, api.ErrEmpty}, {[]api.Span{span(0, 9), span(5, 4), span(0, 9)}, api.Span{}, api.ErrEmpty}, {[]api.Span{span(0, 3), span(4, 9)}, api.Span{}, api.ErrEmpty},
		{[]api.Span{span(0, 9)}, span(0, 9), api.OK}, {[]api.Span{span(0, 9), span(3, 12), span(-5, 7)}, span(3, 7), api.OK}, {[]api.Span{span(0, 4), span(4, 9)}, span(4, 4), api.OK},
		{[]api.Span{span(0, 4), span(2, 9), span(5, 9)}, api.Span{}, api.ErrEmpty},
		{[]api.Span{span(math.MinInt, math.MaxInt)}, span(math.MinInt, math.MaxInt), api.OK}, {[]api.Span{span(math.MinInt, 5), span(5, math.MaxInt)}, span(5, 5), api.OK},
		{[]api.Span{span(math.MaxInt, math.MinInt)}, api.Span{}, api.ErrEmpty}, {[]api.Span{span(math.MinInt, math.MinInt), span(math.MaxInt, math.MaxInt)}, api.Span{}, api.ErrEmpty},
	} {
		if s, e := code.Combine(x.l); s != x.want || e != x.e {
			t.Error(i, x, s, e)
		}
	}
}
