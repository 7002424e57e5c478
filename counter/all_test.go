package counter_test

import (
	"math"
	"slices"
	"testing"

	"meridian/api"
	"meridian/counter"
	"meridian/world"
)

// R1, R2: the error of Check comes first, and with it there is nothing else.
func TestErrorOfCheckFirst(t *testing.T) {
	bad := chapter()
	bad.Dead = 0
	for _, c := range []counter.Counter{{}, bad, {Factor: math.MinInt, Offset: math.MaxInt, Jitter: math.MinInt, Grid: math.MinInt, Range: math.MinInt, Dead: math.MinInt, Id: math.MinInt}} {
		long := make([]int, counter.MaxSeries+1)
		n, e := counter.Wrap(c, math.MaxInt)
		if n != 0 || e != api.ErrCount {
			t.Error("Wrap", n, e)
		}
		n, e = counter.Show(c, 1, -1, math.MaxInt)
		if n != 0 || e != api.ErrCount {
			t.Error("Show", n, e)
		}
		x, e := counter.Resolve(c, math.MaxInt, span(1, 0))
		if x != (api.Span{}) || e != api.ErrCount {
			t.Error("Resolve", x, e)
		}
		l, e := counter.Unwrap(c, long, -1)
		if len(l) != 0 || e != api.ErrCount {
			t.Error("Unwrap", len(l), e)
		}
		n, e = counter.Observe(c, world.World{}, -1, -1, -1)
		if n != 0 || e != api.ErrCount {
			t.Error("Observe", n, e)
		}
		l, e = counter.Watch(c, world.World{}, -1, -1, -1, 0, -1)
		if len(l) != 0 || e != api.ErrCount {
			t.Error("Watch", l, e)
		}
		spans, e := counter.Follow(c, world.World{}, -1, -1, -1, 0, long, span(1, 0))
		if len(spans) != 0 || e != api.ErrCount {
			t.Error("Follow", spans, e)
		}
	}
}

// R4: no argument is changed, and results share no memory.
func TestMemory(t *testing.T) {
	w := noisy(3)
	w.Clocks[2].Events = nil
	c := every()
	shown, _ := counter.Watch(c, w, 0, 1, 0, 5, 10)
	kept := slices.Clone(shown)
	unwrapped, e := counter.Unwrap(c, shown, 0)
	if e != api.OK {
		t.Fatal(e)
	}
	counter.Follow(c, w, 0, 1, 0, 5, shown, span(-3000000, 3000000))
	unwrapped[0]++
	if !slices.Equal(shown, kept) {
		t.Error("the values are changed", shown, kept)
	}
	before := noisy(3)
	before.Clocks[2].Events = nil
	for k := range w.Clocks {
		x, y := w.Clocks[k], before.Clocks[k]
		if !slices.Equal(x.Events, y.Events) || x.Rate != y.Rate || x.White != y.White {
			t.Error("the world is changed", x, y)
		}
	}
	net := triangle(7)
	u, _ := counter.Contradict(3, net)
	counter.Refute(3, net, u)
	counter.Narrow(3, net)
	if !slices.Equal(net, triangle(7)) {
		t.Error("the net is changed", net)
	}
	m, _ := counter.Narrow(3, triangle(5))
	row := append(m[0], 99)
	row[0] = 77
	if other, _ := counter.Narrow(3, triangle(5)); m[1][0] != -2 || other[0][0] != 0 {
		t.Error("rows share memory", m, other)
	}
}

// R7: what a call returns hangs on its arguments alone.
func TestSameAgain(t *testing.T) {
	for range 5 {
		u, _ := counter.Contradict(3, triangle(7))
		first, _ := counter.Contradict(3, triangle(7))
		if !slices.Equal(u, first) {
			t.Error(u, first)
		}
	}
}

// P9: nothing panics or goes on for ever, whatever the arguments.
func TestAnyArguments(t *testing.T) {
	edges := []int{math.MinInt, -phase, -1, 0, 1, 5, last, phase, counter.MaxRange / 2, math.MaxInt}
	counters := []counter.Counter{{}, chapter(), every(), widest(1), widest(-1), {Factor: 1000, Grid: 1, Range: 2, Dead: 1}, {Factor: 1, Jitter: counter.MaxJitter, Grid: 1, Range: 2, Dead: 1}}
	for _, n := range edges {
		counters = append(counters, counter.Counter{Factor: n, Offset: n, Jitter: n, Grid: n, Range: n, Dead: n, Id: n}, counter.Counter{Factor: 1, Grid: 1, Range: n, Dead: 1})
	}
	worlds := []world.World{{}, quiet(), noisy(2)}
	for _, a := range edges {
		for _, b := range edges {
			for _, c := range counters {
				counter.Wrap(c, a)
				counter.Show(c, uint64(a), a, b)
				counter.Show(c, uint64(a), 0, b)
				counter.Resolve(c, a, span(b, a))
				counter.Resolve(c, 0, span(a, b))
				counter.Unwrap(c, []int{a, b, a}, b)
				counter.Unwrap(c, []int{0, 1}, a)
				for _, w := range worlds {
					counter.Observe(c, w, 0, 1, a)
					counter.Observe(c, w, a, b, 0)
					counter.Watch(c, w, 0, 1, a, b, 3)
					counter.Watch(c, w, 0, 1, 0, a, b)
					counter.Follow(c, w, 0, 1, a, b, []int{0, 0}, span(a, b))
					counter.Follow(c, w, a, b, 0, 1, []int{a, b}, span(b, a))
				}
			}
			net := []counter.Bound{bound(a, b, b, a), bound(0, 1, a, b)}
			uses := []counter.Use{{Bound: a, Up: true}, {Bound: b}}
			for _, l := range [][]counter.Bound{nil, net, net[1:], triangle(7)} {
				for _, n := range []int{a, 2, 16} {
					counter.Narrow(n, l)
					counter.Contradict(n, l)
					counter.Refute(n, l, uses)
				}
			}
		}
	}
}
