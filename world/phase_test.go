package world_test

import (
	"math"
	"math/rand"
	"reflect"
	"slices"
	"testing"

	"meridian/api"
	"meridian/world"
)

// P1.2: the chapter's third example, and chambers whose numbers are rounded.
func TestTemperature(t *testing.T) {
	for _, c := range []struct {
		chamber world.Chamber
		s, want int
	}{
		{room(), 0, 20000}, {room(), 1, 20200}, {room(), 5, 21000}, {room(), 6, 20800}, {room(), 10, 20000}, {room(), last, 20000},
		{world.Chamber{Base: 10, Swing: 10, Period: 7}, 1, 12},
		{world.Chamber{Base: 10, Swing: 10, Period: 7}, 3, 18},
		{world.Chamber{Base: 10, Swing: 10, Period: 7}, 4, 18},
		{world.Chamber{Base: 10, Swing: 10, Period: 7}, 6, 12},
		{world.Chamber{Swing: 100000, Period: last}, 500000, 100000},
		{world.Chamber{Swing: 100000, Period: last}, last - 1, 0},
		{world.Chamber{Swing: 100000, Period: last}, last - 5, 1},
		{world.Chamber{Swing: 9, Period: 2}, 1, 9},
		{world.Chamber{Swing: 9, Period: 2}, 2, 0},
	} {
		w := one(world.Clock{})
		w.Chambers = append(w.Chambers, c.chamber)
		if n, e := world.Temperature(w, 1, c.s); n != c.want || e != api.OK {
			t.Error(c, n, e)
		}
	}
}

// P1.2: the chapter's other examples, and what is added on their edges.
func TestPhaseExamples(t *testing.T) {
	kick := []world.Event{event(world.Kick, 4, 2000)}
	step := []world.Event{event(world.Step, 4, 700)}
	for i, c := range []struct {
		clock   world.Clock
		s, want int
	}{
		{world.Clock{Phase: 5000, Rate: 1500}, 0, 5000},
		{world.Clock{Phase: 5000, Rate: 1500}, 1, 5001},
		{world.Clock{Phase: 5000, Rate: 1500}, 10, 5015},
		{world.Clock{Phase: 5000, Rate: -1500}, 1, 4998},
		{world.Clock{Drift: 8640}, 11, 0},
		{world.Clock{Drift: 8640}, 10001, 5000},
		{world.Clock{Drift: -8640}, 11, -1},
		{world.Clock{Drift: -8640}, 1, 0},
		{world.Clock{Rate: 500, Events: []world.Event{event(world.Kick, 4, 500)}}, 5, 3},
		{world.Clock{Events: kick}, 3, 0},
		{world.Clock{Events: kick}, 4, 0},
		{world.Clock{Events: kick}, 5, 2},
		{world.Clock{Events: kick}, 10, 12},
		{world.Clock{Events: step}, 3, 0},
		{world.Clock{Events: step}, 4, 700},
		{world.Clock{Events: step}, last, 700},
		{world.Clock{Heat: 3}, 1, 600},
		{world.Clock{Heat: -3}, 5, -3000},
		{world.Clock{Heat: 3}, 10, 0},
	} {
		if n, e := world.Phase(one(c.clock), 0, c.s); n != c.want || e != api.OK {
			t.Error(i, n, e)
		}
		if n, e := world.Shown(one(c.clock), 0, c.s); n != c.want || e != api.OK {
			t.Error(i, n, e)
		}
	}
}

// P1.2: phases, and what is shown, of many worlds are those of the words.
func TestPhaseOfWorlds(t *testing.T) {
	r := rand.New(rand.NewSource(1))
	for range 300 {
		w := anyWorld(r)
		k := r.Intn(len(w.Clocks))
		for _, s := range []int{0, 99, 100, r.Intn(last + 1), last} {
			if n, e := world.Phase(w, k, s); n != slowPhase(w, k, s) || e != api.OK {
				t.Fatal(w, k, s, n, e)
			}
			runs := slowRuns(w, k, s)
			if is, e := world.Runs(w, k, s); is != runs || e != api.OK {
				t.Fatal(w, k, s, is, e)
			}
			n, e := world.Shown(w, k, s)
			if runs && (n != slowShown(w, k, s) || e != api.OK) || !runs && (n != 0 || e != api.ErrStop) {
				t.Fatal(w, k, s, n, e)
			}
			room := w.Clocks[k].Chamber
			if n, e := world.Temperature(w, room, s); n != slowTemperature(w.Chambers[room], s) || e != api.OK {
				t.Fatal(w, room, s, n, e)
			}
		}
	}
}

// P1.2: the chamber of a clock is its own, and its draws have its index.
func TestClockHasItsPlace(t *testing.T) {
	w := one(world.Clock{})
	w.Seed = 42
	w.Chambers = append(w.Chambers, world.Chamber{Base: 7, Swing: 4, Period: 4})
	w.Clocks = append(w.Clocks, world.Clock{Kind: world.Tube, Heat: 1, Chamber: 1, White: 1000})
	white, _ := world.Draw(42, 2, 1, 1, 1000)
	if n, e := world.Shown(w, 1, 1); n != 2+white || e != api.OK {
		t.Error(n, e)
	}
}

// P1.2: a clock that stops and starts.
func TestRuns(t *testing.T) {
	w := one(world.Clock{Phase: 9, Events: []world.Event{
		event(world.Start, 2, 0), event(world.Stop, 5, 0), event(world.Step, 6, 1), event(world.Stop, 7, 0), event(world.Start, 8, 0), event(world.Stop, last, 0),
	}})
	for s, want := range map[int]bool{0: true, 2: true, 4: true, 5: false, 6: false, 7: false, 8: true, last - 1: true, last: false} {
		if is, e := world.Runs(w, 0, s); is != want || e != api.OK {
			t.Error(s, is, e)
		}
		phase := 9
		if s >= 6 {
			phase = 10
		}
		if n, e := world.Phase(w, 0, s); n != phase || e != api.OK {
			t.Error(s, n, e)
		}
		n, e := world.Shown(w, 0, s)
		if want && (n != phase || e != api.OK) || !want && (n != 0 || e != api.ErrStop) {
			t.Error(s, n, e)
		}
	}
}

// P1.2: a track has what is shown at each of its seconds.
func TestTrack(t *testing.T) {
	r := rand.New(rand.NewSource(2))
	for range 200 {
		w := anyWorld(r)
		k := r.Intn(len(w.Clocks))
		from, step, count := r.Intn(last/2), 1+r.Intn(300), r.Intn(40)
		var want []int
		expected := api.OK
		for i := range count {
			n, e := world.Shown(w, k, from+i*step)
			if e != api.OK {
				want, expected = nil, e
				break
			}
			want = append(want, n)
		}
		if l, e := world.Track(w, k, from, step, count); !slices.Equal(l, want) || e != expected {
			t.Fatal(w, k, from, step, count, l, e)
		}
	}
}

// P1.2: the longest tracks of a clock with much noise.
func TestTrackLong(t *testing.T) {
	w := one(world.Clock{Kind: world.Quartz, White: 1000, Walk: 1000})
	l, e := world.Track(w, 0, 0, 50, 20000)
	if e != api.OK || len(l) != 20000 {
		t.Fatal(len(l), e)
	}
	for _, i := range []int{0, 1, 2, 9999, 19999} {
		if l[i] != slowShown(w, 0, 50*i) {
			t.Error(i, l[i])
		}
	}
}

// P1.2: the errors of Track in their order, and its edges.
func TestTrackErrors(t *testing.T) {
	w := one(world.Clock{Events: []world.Event{event(world.Stop, 10, 0), event(world.Start, 20, 0)}})
	for i, c := range []struct {
		k, from, step, count int
		want                 api.Errno
	}{
		{0, 0, 1, 10, api.OK},
		{0, 0, 1, 11, api.ErrStop},
		{0, 0, 20, 3, api.OK},
		{0, 15, 1, 0, api.OK},
		{0, 15, 1, 1, api.ErrStop},
		{1, -1, 0, -1, api.ErrClock},
		{-1, 0, 1, 1, api.ErrClock},
		{0, -1, 0, 1, api.ErrArg},
		{0, -1, -1, 1, api.ErrArg},
		{0, -1, 1, -1, api.ErrArg},
		{0, last + 1, 1, 20001, api.ErrArg},
		{0, 20, 1, 20000, api.OK},
		{0, -1, 1, 0, api.ErrTime},
		{0, last + 1, 1, 0, api.ErrTime},
		{0, last, 1, 0, api.OK},
		{0, last, 1, 1, api.OK},
		{0, last, math.MaxInt, 1, api.OK},
		{0, last, 1, 2, api.ErrTime},
		{0, 0, 500000, 3, api.OK},
		{0, 1, 500000, 3, api.ErrTime},
		{0, 15, 500000, 3, api.ErrTime},
		{0, 0, 1 << 62, 4, api.ErrTime},
		{0, 0, math.MaxInt, 20000, api.ErrTime},
		{0, math.MinInt, math.MaxInt, 20000, api.ErrTime},
	} {
		l, e := world.Track(w, c.k, c.from, c.step, c.count)
		if e != c.want || e == api.OK && len(l) != c.count || e != api.OK && len(l) != 0 {
			t.Error(i, len(l), e)
		}
	}
}

// P1.2, R4: a track is new memory.
func TestTrackIsNew(t *testing.T) {
	w := one(world.Clock{Phase: 3})
	l, _ := world.Track(w, 0, 0, 1, 3)
	l[0] = 99
	if again, _ := world.Track(w, 0, 0, 1, 3); !slices.Equal(again, []int{3, 3, 3}) {
		t.Error(again)
	}
}

// R3, R4: nil and empty lists are the same, and no argument is changed.
func TestArguments(t *testing.T) {
	r := rand.New(rand.NewSource(3))
	for range 50 {
		w := anyWorld(r)
		before := copyOf(w)
		callAll(w, 0, 0, 3)
		if !reflect.DeepEqual(w.Chambers, before.Chambers) || !reflect.DeepEqual(w.Clocks, before.Clocks) {
			t.Fatal(w, before)
		}
	}
	a, b := one(world.Clock{Phase: 5}), one(world.Clock{Phase: 5, Events: []world.Event{}})
	for _, w := range []world.World{a, b} {
		if l, e := world.Track(w, 0, 2, 5, 2); !slices.Equal(l, []int{5, 5}) || e != api.OK {
			t.Error(l, e)
		}
		if !slices.Equal(callAll(w, 0, 2, 5), callAll(a, 0, 2, 5)) {
			t.Error("nil and empty events differ")
		}
	}
}
