package world_test

import (
	"math"
	"math/rand"
	"slices"
	"testing"

	"meridian/api"
	"meridian/world"
)

func later(a, b world.Moment) bool { return a.Sec > b.Sec || a.Sec == b.Sec && a.Fs > b.Fs }

// P1.4: the chapter's fifth example, and readings at the edges of a second.
func TestRead(t *testing.T) {
	for _, c := range []struct {
		phase, s int
		want     world.Moment
	}{
		{-3, 7, world.Moment{Sec: 6, Fs: 999999999999997}},
		{0, 7, world.Moment{Sec: 7}},
		{3, 7, world.Moment{Sec: 7, Fs: 3}},
		{-1, 0, world.Moment{Sec: -1, Fs: 999999999999999}},
		{-100000000000000, last, world.Moment{Sec: last - 1, Fs: 900000000000000}},
		{100000000000000, last, world.Moment{Sec: last, Fs: 100000000000000}},
	} {
		w := one(world.Clock{Phase: c.phase})
		if m, e := world.Read(w, 0, c.s); m != c.want || e != api.OK {
			t.Error(c, m, e)
		}
		if s, e := world.Back(w, 0, c.want); s != c.s || e != api.OK {
			t.Error(c, s, e)
		}
	}
}

// P1.4: a moment just before a reading belongs to the second before.
func TestBackEdges(t *testing.T) {
	early, late := one(world.Clock{Phase: 3}), one(world.Clock{Phase: -3})
	for i, c := range []struct {
		w    world.World
		m    world.Moment
		want int
		e    api.Errno
	}{
		{late, world.Moment{Sec: 6, Fs: 999999999999997}, 7, api.OK},
		{late, world.Moment{Sec: 6, Fs: 999999999999996}, 6, api.OK},
		{late, world.Moment{Sec: -1, Fs: 999999999999997}, 0, api.OK},
		{late, world.Moment{Sec: -1, Fs: 999999999999996}, 0, api.ErrNone},
		{late, world.Moment{Sec: last - 1, Fs: 999999999999997}, last, api.OK},
		{late, world.Moment{Sec: last - 1, Fs: 999999999999996}, last - 1, api.OK},
		{early, world.Moment{Sec: 7, Fs: 3}, 7, api.OK},
		{early, world.Moment{Sec: 7, Fs: 2}, 6, api.OK},
		{early, world.Moment{Sec: 0, Fs: 3}, 0, api.OK},
		{early, world.Moment{Sec: 0, Fs: 2}, 0, api.ErrNone},
		{early, world.Moment{Sec: last, Fs: 2}, last - 1, api.OK},
		{early, world.Moment{Sec: last, Fs: 3}, last, api.OK},
		{early, world.Moment{Sec: last + 1}, last, api.OK},
		{early, world.Moment{Sec: math.MaxInt, Fs: 999999999999999}, last, api.OK},
		{early, world.Moment{Sec: -2, Fs: 999999999999999}, 0, api.ErrNone},
		{early, world.Moment{Sec: math.MinInt}, 0, api.ErrNone},
	} {
		if s, e := world.Back(c.w, 0, c.m); s != c.want || e != c.e {
			t.Error(i, s, e)
		}
	}
}

// P1.4: Back skips the seconds at which a clock does not run.
func TestBackOverStops(t *testing.T) {
	w := one(world.Clock{Events: []world.Event{
		event(world.Stop, 5, 0), event(world.Step, 6, 0), event(world.Stop, 7, 0), event(world.Start, 8, 0), event(world.Stop, 9, 0), event(world.Stop, 10, 0), event(world.Start, 12, 0), event(world.Stop, last, 0),
	}})
	for sec, want := range map[int]int{0: 0, 4: 4, 5: 4, 6: 4, 7: 4, 8: 8, 9: 8, 10: 8, 11: 8, 12: 12, last - 1: last - 1, last: last - 1, 2 * last: last - 1} {
		if s, e := world.Back(w, 0, world.Moment{Sec: sec}); s != want || e != api.OK {
			t.Error(sec, s, e)
		}
	}
	if m, e := world.Read(w, 0, 5); m != (world.Moment{}) || e != api.ErrStop {
		t.Error(m, e)
	}
	never := one(world.Clock{Events: []world.Event{event(world.Stop, 1, 0)}})
	if s, e := world.Back(never, 0, world.Moment{Sec: last}); s != 0 || e != api.OK {
		t.Error(s, e)
	}
}

// P1.4: Back is the greatest second of all that are tried one by one.
func TestBackOfWorlds(t *testing.T) {
	r := rand.New(rand.NewSource(6))
	for range 100 {
		w := anyWorld(r)
		k := r.Intn(len(w.Clocks))
		for i := range w.Clocks[k].Events {
			w.Clocks[k].Events[i].At = 1 + 2*i + r.Intn(2)
		}
		sec := r.Intn(24) - 2
		m := world.Moment{Sec: sec, Fs: r.Intn(world.Second)}
		want, expected := 0, api.ErrNone
		for s := range sec + 3 {
			if x, e := world.Read(w, k, s); e == api.OK && !later(x, m) {
				want, expected = s, api.OK
			}
		}
		if s, e := world.Back(w, k, m); s != want || e != expected {
			t.Fatal(w, k, m, s, e, want)
		}
	}
}

// P1.4: the errors of Back in their order.
func TestBackErrors(t *testing.T) {
	w := one(world.Clock{})
	for i, c := range []struct {
		k    int
		m    world.Moment
		want api.Errno
	}{
		{1, world.Moment{Fs: -1}, api.ErrClock},
		{-1, world.Moment{Fs: -1}, api.ErrClock},
		{0, world.Moment{Sec: -5, Fs: -1}, api.ErrArg},
		{0, world.Moment{Sec: 5, Fs: 1000000000000000}, api.ErrArg},
		{0, world.Moment{Sec: 5, Fs: math.MaxInt}, api.ErrArg},
		{0, world.Moment{Sec: 5, Fs: math.MinInt}, api.ErrArg},
		{0, world.Moment{Sec: -1, Fs: 999999999999999}, api.ErrNone},
	} {
		if s, e := world.Back(w, c.k, c.m); s != 0 || e != c.want {
			t.Error(i, s, e)
		}
	}
}

// P1.5: readings strictly increase, and Back of a reading is its second.
func TestReadingsIncrease(t *testing.T) {
	r := rand.New(rand.NewSource(7))
	worlds := []world.World{extreme(1), extreme(-1)}
	for range 20 {
		worlds = append(worlds, anyWorld(r))
	}
	for _, w := range worlds {
		for k := range w.Clocks {
			from := []int{0, last - 50, r.Intn(last - 50)}[r.Intn(3)]
			before := world.Moment{Sec: -10}
			for s := from; s <= from+50; s++ {
				m, e := world.Read(w, k, s)
				if e == api.ErrStop {
					continue
				}
				if !later(m, before) || m.Fs < 0 || m.Fs >= world.Second {
					t.Fatal(w, k, s, before, m)
				}
				before = m
				if back, e := world.Back(w, k, m); back != s || e != api.OK {
					t.Fatal(w, k, s, m, back, e)
				}
			}
		}
	}
}

// P1.5: without noise, heat, drift and events a phase is exact.
func TestExactPhase(t *testing.T) {
	for _, rate := range []int{0, 1, -1, 999, -999, 1500, -1500, 10000000, -10000000} {
		for _, s := range []int{0, 1, 2, 10, 999, 1000, 123457, last} {
			want := 77 + int(floored(times(rate, s), 1000).Int64())
			if n, e := world.Phase(one(world.Clock{Phase: 77, Rate: rate}), 0, s); n != want || e != api.OK {
				t.Error(rate, s, n, e)
			}
		}
	}
}

// P1.5: the walk of one clock does not change that of another one.
func TestWalksAreApart(t *testing.T) {
	quiet := one(world.Clock{Walk: 1000})
	quiet.Seed = 3
	quiet.Clocks = append(quiet.Clocks, world.Clock{Kind: world.Tube, Walk: 1000})
	loud := copyOf(quiet)
	loud.Clocks[1] = world.Clock{Kind: world.Quartz, Walk: 5, White: 9, Rate: 3}
	a, _ := world.Track(quiet, 0, 0, 100, 50)
	b, _ := world.Track(loud, 0, 0, 100, 50)
	if !slices.Equal(a, b) {
		t.Error("a walk hangs on another clock", a, b)
	}
	if c, _ := world.Track(quiet, 1, 0, 100, 50); slices.Equal(a, c) {
		t.Error("two clocks walk together", a)
	}
	quiet.Seed = 4
	if c, _ := world.Track(quiet, 0, 0, 100, 50); slices.Equal(a, c) {
		t.Error("two seeds have one walk", a)
	}
}
