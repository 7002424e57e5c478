package counter_test

import (
	"math"
	"math/rand"
	"testing"

	"meridian/api"
	"meridian/counter"
)

func TestConstants(t *testing.T) {
	for i, n := range []int{counter.MaxOffset - 1000000000000, counter.MaxJitter - 1000000000, counter.MaxGrid - 1000000000, counter.MaxRange - phase, counter.MaxBounds - 240, counter.MaxSeries - 2000, counter.Open - 100000000000000000} {
		if n != 0 {
			t.Error(i, n)
		}
	}
}

// P2.1: the limits of each number of a counter, at them and beyond them.
func TestCheck(t *testing.T) {
	for i, c := range []struct {
		set  func(c *counter.Counter, n int)
		good []int
		bad  []int
	}{
		{func(c *counter.Counter, n int) { c.Factor = n }, []int{1, 1000}, []int{0, -1, 1001}},
		{func(c *counter.Counter, n int) { c.Offset = n }, []int{0, 1000000000000, -1000000000000}, []int{1000000000001, -1000000000001}},
		{func(c *counter.Counter, n int) { c.Jitter = n }, []int{0, 1000000000}, []int{-1, 1000000001}},
		{func(c *counter.Counter, n int) { c.Grid = n }, []int{1, 250, 500, 125}, []int{0, -1, -100, 3, 501, 1000, 1000000001}},
		{func(c *counter.Counter, n int) { c.Range = n }, []int{200, 400, 1000000000000000}, []int{0, 100, 201, 300, -200, 1000000000000001, 1000000000000200}},
		{func(c *counter.Counter, n int) { c.Dead = n }, []int{1, 100000}, []int{0, -1, 100001}},
		{func(c *counter.Counter, n int) { c.Id = n }, []int{0, 1000000}, []int{-1, 1000001}},
	} {
		for _, n := range c.good {
			x := chapter()
			c.set(&x, n)
			if e := counter.Check(x); e != api.OK {
				t.Error(i, n, e)
			}
		}
		for _, n := range append(c.bad, math.MinInt, math.MaxInt) {
			x := chapter()
			c.set(&x, n)
			if e := counter.Check(x); e != api.ErrCount {
				t.Error(i, n, e)
			}
		}
	}
	for _, c := range []counter.Counter{widest(1), widest(-1), {Factor: 1, Grid: 1000000000, Range: 2000000000, Dead: 1}, {Factor: 1, Grid: 1, Range: 2, Dead: 1}} {
		if c.Range == counter.MaxRange {
			c.Range -= c.Range % (2 * c.Grid)
		}
		if e := counter.Check(c); e != api.OK {
			t.Error(c, e)
		}
	}
	if e := counter.Check(counter.Counter{Factor: 1, Grid: 1000000001, Range: 2000000002, Dead: 1}); e != api.ErrCount {
		t.Error("a great Grid", e)
	}
}

// P2.1: a number is wrapped to at least -Range / 2, and less than Range / 2.
func TestWrap(t *testing.T) {
	for n, want := range map[int]int{0: 0, 499: 499, 500: -500, 501: -499, -500: -500, -501: 499, 1000: 0, -1000: 0, 1499: 499, 1500: -500, 123456: 456, -123456: -456} {
		if m, e := counter.Wrap(chapter(), n); m != want || e != api.OK {
			t.Error(n, m, e)
		}
	}
	r := rand.New(rand.NewSource(1))
	for range 2000 {
		c := small(r)
		if r.Intn(2) == 0 {
			c.Range = 2 * c.Grid * (1 + r.Intn(counter.MaxRange/2/c.Grid))
		}
		n := []int{r.Intn(2000) - 1000, 1000*phase - r.Intn(3), r.Intn(3) - 1000*phase}[r.Intn(3)]
		if m, e := counter.Wrap(c, n); m != slowWrap(c, whole(n)) || e != api.OK {
			t.Fatal(c, n, m, e)
		}
	}
	for _, n := range []int{1000*phase + 1, -1000*phase - 1, math.MaxInt, math.MinInt} {
		if m, e := counter.Wrap(chapter(), n); m != 0 || e != api.ErrRange {
			t.Error(n, m, e)
		}
	}
}

// P2.1, examples 1 and 3: what is shown is rounded, a half to the greater one,
// and wrapped.
func TestShowExamples(t *testing.T) {
	for d, want := range map[int]int{0: 0, 49: 0, 50: 100, 149: 100, 150: 200, 449: 400, 450: -500, -50: 0, -51: -100, 1049: 0, 1050: 100, -450: -400, -451: -500, -550: -500, -551: 400} {
		if m, e := counter.Show(chapter(), 7, 0, d); m != want || e != api.OK {
			t.Error(d, m, e)
		}
	}
	c := chapter()
	c.Factor = 10
	if m, e := counter.Show(c, 7, 0, 7); m != 100 || e != api.OK {
		t.Error(m, e)
	}
	c.Offset = -70
	if m, e := counter.Show(c, 7, 0, 7); m != 0 || e != api.OK {
		t.Error(m, e)
	}
	odd := counter.Counter{Factor: 1, Grid: 3, Range: 18, Dead: 1}
	for d, want := range map[int]int{0: 0, 1: 0, 2: 3, 3: 3, -1: 0, -2: -3, 7: 6, 8: -9} {
		if m, e := counter.Show(odd, 7, 0, d); m != want || e != api.OK {
			t.Error(d, m, e)
		}
	}
}

// P2.1: what is shown, against the chapter's words followed slowly, up to the
// limits of all numbers.
func TestShow(t *testing.T) {
	r := rand.New(rand.NewSource(2))
	for range 3000 {
		c := small(r)
		c.Jitter *= r.Intn(1000)
		d := r.Intn(400) - 200
		if r.Intn(3) == 0 {
			c = widest(1 - 2*r.Intn(2))
			c.Grid = 1 + r.Intn(counter.MaxGrid)
			c.Range = 2 * c.Grid * (1 + r.Intn(counter.MaxRange/2/c.Grid))
			d = []int{phase, -phase, r.Intn(2*phase) - phase}[r.Intn(3)]
		}
		seed, s := r.Uint64(), c.Dead*r.Intn(last/c.Dead+1)
		if m, e := counter.Show(c, seed, s, d); m != slowShow(c, seed, s, d) || e != api.OK {
			t.Fatal(c, seed, s, d, m, e)
		}
	}
}

// P2.1: the errors of Show in their order.
func TestShowErrors(t *testing.T) {
	c := chapter()
	c.Dead = 10
	for i, x := range []struct {
		s, d int
		want api.Errno
	}{
		{0, phase, api.OK}, {last, -phase, api.OK}, {10, 0, api.OK},
		{5, 0, api.ErrTime}, {1, phase + 1, api.ErrTime}, {-10, 0, api.ErrTime}, {last + 10, 0, api.ErrTime}, {-10, phase + 1, api.ErrTime},
		{math.MinInt, 0, api.ErrTime}, {math.MaxInt, 0, api.ErrTime},
		{10, phase + 1, api.ErrRange}, {10, -phase - 1, api.ErrRange}, {0, math.MinInt, api.ErrRange}, {0, math.MaxInt, api.ErrRange},
	} {
		if m, e := counter.Show(c, 1, x.s, x.d); e != x.want || e != api.OK && m != 0 {
			t.Error(i, m, e)
		}
	}
	if m, e := counter.Show(chapter(), 1, -1, 0); e != api.ErrTime || m != 0 {
		t.Error(m, e)
	}
}
