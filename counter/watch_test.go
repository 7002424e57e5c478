package counter_test

import (
	"math"
	"math/rand"
	"slices"
	"testing"

	"meridian/api"
	"meridian/counter"
	"meridian/world"
)

// every is a counter that tells all differences of noisy worlds.
func every() counter.Counter {
	return counter.Counter{Factor: 3, Offset: -500, Jitter: 200, Grid: 50, Range: 100000000, Dead: 5, Id: 8}
}

// P2.3: a counter shows what the one clock shows less what the other one shows,
// with the seed of the world.
func TestObserve(t *testing.T) {
	w := quiet()
	for s, want := range map[int]int{0: 6000, 1: 6003, 10: 6030, 1000: 9000} {
		c := counter.Counter{Factor: 1, Grid: 1, Range: 100000, Dead: 1}
		m, e := counter.Observe(c, w, 0, 1, s)
		back, _ := counter.Observe(c, w, 1, 0, s)
		if m != want || back != -want || e != api.OK {
			t.Error(s, m, back, e)
		}
	}
	for seed := range uint64(20) {
		w := noisy(seed)
		for s := 100; s < 1000; s += 105 {
			for _, k := range [][2]int{{0, 1}, {1, 0}, {1, 2}, {2, 0}} {
				a, _ := world.Shown(w, k[0], s)
				b, _ := world.Shown(w, k[1], s)
				m, e := counter.Observe(every(), w, k[0], k[1], s)
				if m != slowShow(every(), seed, s, a-b) || e != api.OK {
					t.Error(seed, s, k, m, e)
				}
			}
		}
	}
}

// P2.3: the errors of Observe in their order.
func TestObserveErrors(t *testing.T) {
	w := noisy(1)
	bad := noisy(1)
	bad.Clocks[1].Walk = -1
	for i, x := range []struct {
		w       world.World
		a, b, s int
		want    api.Errno
	}{
		{w, 0, 2, 95, api.OK},
		{world.World{}, 9, 9, -1, api.ErrMany},
		{bad, 9, 9, -1, api.ErrClock},
		{w, 3, 0, -1, api.ErrClock}, {w, -1, -1, 70, api.ErrClock},
		{w, 0, 3, -1, api.ErrTime}, {w, 0, 3, last + 1, api.ErrTime}, // the second of a comes before b
		{w, 0, 3, 71, api.ErrClock},
		{w, 2, 3, 71, api.ErrStop}, {w, 2, 2, 71, api.ErrStop}, {w, 0, 2, 71, api.ErrStop}, {w, 2, 0, 70, api.ErrStop},
		{w, 0, 0, 71, api.ErrArg}, {w, 2, 2, 95, api.ErrArg},
		{w, 0, 1, 71, api.ErrTime}, {w, 0, 1, 99, api.ErrTime},
	} {
		if m, e := counter.Observe(every(), x.w, x.a, x.b, x.s); e != x.want || e != api.OK && m != 0 {
			t.Error(i, m, e)
		}
	}
}

// P2.3: Watch observes one second after the other.
func TestWatch(t *testing.T) {
	w := noisy(5)
	for _, x := range []struct{ a, b, from, step, count int }{{0, 1, 0, 5, 50}, {1, 0, 25, 100, 9}, {2, 1, 90, 10, 1}, {0, 1, last - 30, 15, 3}, {0, 1, 5, math.MaxInt, 1}, {0, 1, last, 1, 1}} {
		l, e := counter.Watch(every(), w, x.a, x.b, x.from, x.step, x.count)
		if e != api.OK || len(l) != x.count {
			t.Error(x, l, e)
		}
		for i, m := range l {
			if one, _ := counter.Observe(every(), w, x.a, x.b, x.from+i*x.step); m != one {
				t.Error(x, i, m, one)
			}
		}
	}
	c := every()
	c.Dead = 1
	if l, e := counter.Watch(c, quiet(), 0, 1, 0, 1, counter.MaxSeries); e != api.OK || len(l) != counter.MaxSeries {
		t.Error(len(l), e)
	}
}

// P2.3: the errors of Watch: that of the first second that has one.
func TestWatchErrors(t *testing.T) {
	w := noisy(5)
	for i, x := range []struct {
		w                       world.World
		a, b, from, step, count int
		want                    api.Errno
	}{
		{world.World{}, 9, 9, -1, 0, 3, api.ErrArg},
		{world.World{}, 9, 9, -1, -1, 3, api.ErrArg},
		{world.World{}, 9, 9, -1, math.MinInt, 3, api.ErrArg},
		{world.World{}, 9, 9, -1, 5, -1, api.ErrArg},
		{world.World{}, 9, 9, -1, 5, counter.MaxSeries + 1, api.ErrArg},
		{world.World{}, 9, 9, -1, 5, math.MaxInt, api.ErrArg},
		{world.World{}, 9, 9, -1, 5, math.MinInt, api.ErrArg},
		{world.World{}, 9, 9, -1, 5, 3, api.ErrMany},
		{world.World{}, 9, 9, -1, 5, 0, api.OK}, // nothing is observed
		{w, 0, 1, 0, 5, 0, api.OK},
		{w, 0, 1, -5, 5, 3, api.ErrTime},
		{w, 0, 5, 0, 5, 3, api.ErrClock},
		{w, 1, 1, 0, 5, 3, api.ErrArg},
		{w, 1, 1, 1, 5, 3, api.ErrArg},
		{w, 0, 2, 50, 5, 2, api.OK},
		{w, 0, 2, 50, 5, 3, api.ErrStop},
		{w, 0, 2, 50, 11, 2, api.ErrStop},
		{w, 0, 2, 50, 1, 20, api.ErrTime},
		{w, 0, 1, 0, 7, 2, api.ErrTime},
		{w, 0, 1, 0, 7, 1, api.OK},
		{w, 0, 1, last - 10, 5, 3, api.OK},
		{w, 0, 1, last - 10, 5, 4, api.ErrTime},
		{w, 0, 1, 5, math.MaxInt, 2, api.ErrTime},
		{w, 0, 1, 5, math.MaxInt, 2000, api.ErrTime},
		{w, 0, 1, 5, math.MaxInt - 4, 3, api.ErrTime},
		{w, 0, 1, 0, 1 << 62, 5, api.ErrTime},
		{w, 0, 1, 0, last, 2, api.OK},
		{w, 0, 1, 0, last + 1, 2, api.ErrTime},
		{w, 0, 1, math.MaxInt, math.MaxInt, 9, api.ErrTime},
		{w, 0, 1, math.MinInt, math.MaxInt, 9, api.ErrTime},
	} {
		if l, e := counter.Watch(every(), x.w, x.a, x.b, x.from, x.step, x.count); e != x.want || e != api.OK && len(l) != 0 {
			t.Error(i, len(l), e)
		}
	}
}

// slowFollow follows the chapter's words with what Resolve and world.Growth
// return.
func slowFollow(c counter.Counter, w world.World, a, b, from, step int, l []int, first api.Span) ([]api.Span, api.Errno) {
	var spans []api.Span
	for i, m := range l {
		prior := first
		if i > 0 {
			s := from + i*step
			x, _ := world.Growth(w, a, s-step, s)
			y, _ := world.Growth(w, b, s-step, s)
			white := w.Clocks[a].White + w.Clocks[b].White
			before := spans[i-1]
			prior.Lo = max(before.Lo+x.Lo-y.Hi-2*white, -phase)
			prior.Hi = min(before.Hi+x.Hi-y.Lo+2*white, phase)
		}
		x, e := counter.Resolve(c, m, prior)
		if e != api.OK {
			return nil, e
		}
		spans = append(spans, x)
	}
	return spans, api.OK
}

// P2.3, P2.5: Follow against the chapter's words; and whatever the seed, the
// true difference is in each span.
func TestFollow(t *testing.T) {
	r := rand.New(rand.NewSource(7))
	for seed := range uint64(200) {
		w := noisy(seed)
		w.Clocks[2].Events = nil
		c := every()
		c.Range = 100000000 * (1 + r.Intn(100))
		a := r.Intn(3)
		b := (a + 1 + r.Intn(2)) % 3
		from, step, count := 5*r.Intn(50), 5*(1+r.Intn(30)), r.Intn(20)
		l, e := counter.Watch(c, w, a, b, from, step, count)
		if e != api.OK {
			t.Fatal(w, e)
		}
		x, _ := world.Reach(w, a, from)
		y, _ := world.Reach(w, b, from)
		first := span(x.Lo-y.Hi, x.Hi-y.Lo)
		spans, e := counter.Follow(c, w, a, b, from, step, l, first)
		want, expected := slowFollow(c, w, a, b, from, step, l, first)
		if !slices.Equal(spans, want) || e != expected || e != api.OK && e != api.ErrLarge {
			t.Fatal(w, a, b, from, step, l, first, spans, e, want, expected)
		}
		for i, x := range spans {
			m, _ := world.Shown(w, a, from+i*step)
			n, _ := world.Shown(w, b, from+i*step)
			if m-n < x.Lo || m-n > x.Hi {
				t.Fatal(w, a, b, i, m-n, x)
			}
		}
	}
}

// P2.3: each value is resolved with the span before it, made wider by growths
// and noise.
func TestFollowWidens(t *testing.T) {
	w := quiet()
	c := counter.Counter{Factor: 1, Grid: 2, Range: 40, Dead: 10}
	l, e := counter.Watch(c, w, 0, 1, 0, 1000, 3) // 6000, 9000 and 12000
	if e != api.OK || !slices.Equal(l, []int{0, 0, 0}) {
		t.Fatal(l, e)
	}
	want := []api.Span{span(6000, 6001), span(9000, 9001), span(12000, 12001)}
	if spans, e := counter.Follow(c, w, 0, 1, 0, 1000, l, span(6000, 6010)); !slices.Equal(spans, want) || e != api.OK {
		t.Error(spans, e)
	}
	// Wider by 36 the prior ends at 9037, before the next turn, which begins at
	// 9039.
	want = []api.Span{span(6000, 6001), span(8999, 9001), span(11999, 12001)}
	for _, white := range [][2]int{{8, 10}, {18, 0}, {0, 18}} {
		w.Clocks[0].White, w.Clocks[1].White = white[0], white[1]
		if spans, e := counter.Follow(c, w, 0, 1, 0, 1000, l, span(6000, 6010)); !slices.Equal(spans, want) || e != api.OK {
			t.Error(white, spans, e)
		}
	}
	w.Clocks[0].White, w.Clocks[1].White = 8, 11
	if spans, e := counter.Follow(c, w, 0, 1, 0, 1000, l, span(6000, 6010)); len(spans) != 0 || e != api.ErrLarge {
		t.Error(spans, e)
	}
	w.Clocks[1].White = 10
	for k := range 2 {
		w.Clocks[k].Walk = 1 // 10 draws in 1000 seconds
		if spans, e := counter.Follow(c, w, 0, 1, 0, 1000, l, span(6000, 6010)); len(spans) != 0 || e != api.ErrLarge {
			t.Error(k, spans, e)
		}
		w.Clocks[k].Walk = 0
	}
}

// P2.3: a prior is cut off at 10^15, either way.
func TestFollowCutsOff(t *testing.T) {
	w := quiet()
	w.Clocks[0].Kind = world.Quartz
	w.Clocks[0].White = 1000
	c := counter.Counter{Factor: 1, Grid: 1, Range: counter.MaxRange, Dead: 1}
	for _, sign := range []int{1, -1} {
		near := phase - 500
		l := []int{sign * (near - phase), sign * (near - phase + 100)}
		first := span(min(sign*near, sign*phase), max(sign*near, sign*phase))
		spans, e := counter.Follow(c, w, 0, 1, 5, 1, l, first)
		if e != api.OK || !slices.Equal(spans, []api.Span{span(sign*near, sign*near), span(sign*(near+100), sign*(near+100))}) {
			t.Error(sign, spans, e)
		}
	}
	// A prior that is wholly beyond is none that Resolve takes.
	w.Clocks[0].White = 0
	w.Clocks[0].Events = []world.Event{{What: world.Step, At: 6, Size: 1000}}
	if spans, e := counter.Follow(c, w, 0, 1, 5, 1, []int{0, 0}, span(phase, phase)); e != api.ErrRange || len(spans) != 0 {
		t.Error(spans, e)
	}
}

// P2.3: the errors of Follow in their order.
func TestFollowErrors(t *testing.T) {
	w := noisy(5)
	bad := noisy(5)
	bad.Clocks[1].Walk = -1
	long := make([]int, counter.MaxSeries+1)
	off := []int{math.MaxInt, 0}
	all, none := span(-3000000, 3000000), span(1, 0)
	for i, x := range []struct {
		w                world.World
		a, b, from, step int
		l                []int
		first            api.Span
		want             api.Errno
	}{
		{world.World{}, 9, 9, -1, 0, long, none, api.ErrMany},
		{bad, 9, 9, -1, 0, long, none, api.ErrClock},
		{w, 9, 9, -1, 0, long, none, api.ErrClock},
		{w, 0, 9, -1, 0, long, none, api.ErrTime},
		{w, 0, 9, 1, 0, long, none, api.ErrClock},
		{w, 0, 0, last + 1, 0, long, none, api.ErrTime},
		{w, 0, 0, 1, 0, long, none, api.ErrArg},
		{w, 1, 1, 5, 5, nil, all, api.ErrArg},
		{w, 0, 1, 1, 0, long, none, api.ErrTime},
		{w, 0, 1, 5, 0, long, none, api.ErrArg},
		{w, 0, 1, 5, -5, long, none, api.ErrArg},
		{w, 0, 1, 5, math.MinInt, nil, all, api.ErrArg},
		{w, 0, 1, 5, 1, long, none, api.ErrMany},
		{w, 0, 1, 5, 1, off, none, api.ErrTime},
		{w, 0, 1, last - 5, 10, off, none, api.ErrTime},
		{w, 0, 1, 0, math.MaxInt, off, none, api.ErrTime},
		{w, 0, 1, 5, math.MaxInt - 2, long[:2000], none, api.ErrTime},
		{w, 0, 1, 0, 505, long[:2000], none, api.ErrTime},
		{w, 0, 1, last - 5, 5, off, none, api.ErrRange},
		{w, 0, 1, 0, 5, []int{0, math.MinInt}, none, api.ErrArg},
		{w, 0, 1, 0, 5, []int{0}, span(0, phase+1), api.ErrRange},
		{w, 0, 1, 0, 5, []int{0}, span(1000, 2000), api.ErrEmpty},
		{w, 0, 1, 0, 5, []int{0}, span(-phase, phase), api.ErrLarge},
		{w, 0, 1, 0, 5, []int{0, math.MinInt}, all, api.ErrRange},
		{w, 0, 1, 0, 5, []int{0, 49999999}, all, api.ErrEmpty},
		{w, 0, 1, 0, 1, nil, none, api.OK}, // no second but the first one, no value
		{w, 0, 1, last, 1, []int{0}, all, api.OK},
		{w, 0, 2, 70, 1, []int{0}, all, api.OK}, // it does not matter that it has stopped
		{w, 2, 0, 70, 1, []int{0}, all, api.OK},
	} {
		if spans, e := counter.Follow(every(), x.w, x.a, x.b, x.from, x.step, x.l, x.first); e != x.want || e != api.OK && len(spans) != 0 || e == api.OK && len(spans) != len(x.l) {
			t.Error(i, len(spans), e)
		}
	}
}
