package counter_test

import (
	"math"
	"math/rand"
	"testing"

	"meridian/api"
	"meridian/counter"
)

// slowTurns counts the turns of a shown value that have a number in common with
// a prior, and has those numbers of the last one of them.
func slowTurns(c counter.Counter, m int, prior api.Span) (int, api.Span) {
	count, found := 0, api.Span{}
	off := c.Jitter + c.Grid/2
	least := (c.Factor*prior.Lo+c.Offset-m-off)/c.Range - 2
	greatest := (c.Factor*prior.Hi+c.Offset-m+off)/c.Range + 2
	for k := least; k <= greatest; k++ {
		empty := true
		for d := prior.Lo; d <= prior.Hi; d++ {
			far := c.Factor*d + c.Offset - m - k*c.Range
			if far < -off || far > off {
				continue
			}
			if empty {
				count++
				empty = false
				found.Lo = d
			}
			found.Hi = d
		}
	}
	return count, found
}

// P2.1: what is resolved, against all numbers of the prior and all turns.
func TestResolve(t *testing.T) {
	r := rand.New(rand.NewSource(3))
	seen := map[api.Errno]int{}
	for range 20000 {
		c := small(r)
		m := r.Intn(c.Range) - c.Range/2
		lo := r.Intn(160) - 80
		prior := span(lo, lo+r.Intn(1+r.Intn(60)))
		count, want := slowTurns(c, m, prior)
		expected := api.OK
		if count == 0 {
			expected = api.ErrEmpty
		}
		if count > 1 {
			expected = api.ErrLarge
		}
		if expected != api.OK {
			want = api.Span{}
		}
		if x, e := counter.Resolve(c, m, prior); x != want || e != expected {
			t.Fatal(c, m, prior, x, e, count, want)
		}
		seen[expected]++
	}
	if min(seen[api.OK], seen[api.ErrEmpty], seen[api.ErrLarge]) < 1000 {
		t.Error("too few of a result", seen)
	}
}

// P2.1, P9: the widest prior has far more turns than can be looked at.
func TestResolveManyTurns(t *testing.T) {
	all := span(-phase, phase)
	fine := counter.Counter{Factor: 1000, Grid: 1, Range: 2, Dead: 1}
	coarse := counter.Counter{Factor: 1000, Jitter: counter.MaxJitter, Grid: 1, Range: 2, Dead: 1}
	rare := counter.Counter{Factor: 999, Grid: 1, Range: 998, Dead: 1}
	for i, x := range []struct {
		c     counter.Counter
		off   int
		m     int
		prior api.Span
		want  api.Span
		e     api.Errno
	}{
		{fine, 0, 0, all, span(0, 0), api.ErrLarge},
		{fine, 0, -1, all, span(0, 0), api.ErrEmpty},
		{fine, 1, -1, all, span(0, 0), api.ErrLarge},
		{fine, 1, 0, all, span(0, 0), api.ErrEmpty},
		{fine, 0, 0, span(phase, phase), span(phase, phase), api.OK},
		{fine, 0, 0, span(-phase, -phase), span(-phase, -phase), api.OK},
		{fine, 0, 0, span(7, 8), span(0, 0), api.ErrLarge},
		{coarse, 0, 0, span(5, 5), span(0, 0), api.ErrLarge},
		{coarse, 0, 0, all, span(0, 0), api.ErrLarge},
		// 999 d = 998 k: just each 998th number, and none of 999 turns but one.
		{rare, 0, 0, span(-997, 997), span(0, 0), api.OK},
		{rare, 0, 0, span(0, 998), span(0, 0), api.ErrLarge},
		{rare, 0, 0, span(1, 998), span(998, 998), api.OK},
		{rare, 0, 0, span(1, 997), span(0, 0), api.ErrEmpty},
		{rare, 0, 0, span(1, 1996), span(0, 0), api.ErrLarge},
		{rare, 0, 0, all, span(0, 0), api.ErrLarge},
	} {
		x.c.Offset = x.off
		if y, e := counter.Resolve(x.c, x.m, x.prior); y != x.want || e != x.e {
			t.Error(i, y, e)
		}
	}
	for _, sign := range []int{1, -1} {
		c := widest(sign)
		for _, m := range []int{-c.Range / 2, 0, c.Range/2 - 1} {
			for _, at := range []int{-phase, -phase + 1, 0, phase - 1, phase} {
				prior := span(max(at-5, -phase), min(at+5, phase))
				count, want := slowTurns(c, m, prior)
				y, e := counter.Resolve(c, m, prior)
				if (count == 0) != (e == api.ErrEmpty) || count == 1 && (y != want || e != api.OK) || (count > 1) != (e == api.ErrLarge) {
					t.Error(sign, m, at, y, e, count)
				}
			}
		}
	}
}

// P2.1, examples 2 and 3.
func TestResolveExamples(t *testing.T) {
	for _, x := range []struct {
		factor      int
		prior, want api.Span
		e           api.Errno
	}{
		{1, span(0, 900), span(50, 150), api.OK},
		{1, span(140, 900), span(140, 150), api.OK},
		{1, span(150, 150), span(150, 150), api.OK},
		{1, span(151, 1049), api.Span{}, api.ErrEmpty},
		{1, span(0, 1050), api.Span{}, api.ErrLarge},
		{1, span(0, 1100), api.Span{}, api.ErrLarge},
		{1, span(200, 900), api.Span{}, api.ErrEmpty},
		{10, span(-40, 40), span(5, 15), api.OK},
	} {
		c := chapter()
		c.Factor = x.factor
		if y, e := counter.Resolve(c, 100, x.prior); y != x.want || e != x.e {
			t.Error(x, y, e)
		}
	}
}

// P2.1: the errors of Resolve in their order.
func TestResolveErrors(t *testing.T) {
	for i, x := range []struct {
		m     int
		prior api.Span
		want  api.Errno
	}{
		{-500, span(-500, 0), api.OK}, {499, span(0, 500), api.OK}, {7, span(0, 100), api.OK}, // no multiple of the Grid
		{500, span(1, 0), api.ErrRange}, {-501, span(1, 0), api.ErrRange}, {math.MinInt, span(0, 0), api.ErrRange}, {math.MaxInt, span(0, 0), api.ErrRange},
		{0, span(-phase-1, 0), api.ErrRange}, {0, span(0, phase+1), api.ErrRange}, {0, span(phase+1, 0), api.ErrRange}, {0, span(0, -phase-1), api.ErrRange},
		{0, span(math.MinInt, math.MaxInt), api.ErrRange}, {0, span(math.MaxInt, math.MinInt), api.ErrRange},
		{0, span(1, 0), api.ErrArg}, {0, span(phase, -phase), api.ErrArg},
		{0, span(-phase, phase), api.ErrLarge}, {0, span(-phase, -phase+40), api.OK}, {0, span(phase-30, phase), api.OK},
		{0, span(51, 949), api.ErrEmpty},
	} {
		if y, e := counter.Resolve(chapter(), x.m, x.prior); e != x.want || e != api.OK && y != (api.Span{}) {
			t.Error(i, y, e)
		}
	}
}

// P2.5: whatever the seed, the true difference is in the span that is resolved.
func TestResolvedHoldsTruth(t *testing.T) {
	r := rand.New(rand.NewSource(4))
	resolved := 0
	for range 5000 {
		c := small(r)
		c.Range *= 1 + r.Intn(50)
		s, d := c.Dead*r.Intn(1000), r.Intn(2000)-1000
		m, e := counter.Show(c, r.Uint64(), s, d)
		if e != api.OK {
			t.Fatal(c, s, d, e)
		}
		wide := 1 + c.Range/c.Factor
		prior := span(d-r.Intn(wide), d+r.Intn(wide))
		x, e := counter.Resolve(c, m, prior)
		if e == api.ErrLarge {
			continue
		}
		if e != api.OK || d < x.Lo || d > x.Hi || x.Lo < prior.Lo || x.Hi > prior.Hi {
			t.Fatal(c, m, d, prior, x, e)
		}
		resolved++
	}
	if resolved < 1000 {
		t.Error("too few are resolved", resolved)
	}
}
