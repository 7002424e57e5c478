package world_test

import (
	"math"
	"slices"
	"testing"

	"meridian/api"
	"meridian/world"
)

// P1.1: how many chambers and clocks a world has.
func TestCheckCounts(t *testing.T) {
	for _, c := range []struct {
		chambers, clocks int
		want             api.Errno
	}{
		{1, 1, api.OK}, {8, 16, api.OK}, {0, 1, api.ErrMany}, {9, 1, api.ErrMany}, {1, 0, api.ErrMany}, {1, 17, api.ErrMany}, {0, 0, api.ErrMany},
	} {
		w := one(world.Clock{})
		w.Chambers = slices.Repeat(w.Chambers, c.chambers)
		w.Clocks = slices.Repeat(w.Clocks, c.clocks)
		if e := world.Check(w); e != c.want {
			t.Error(c, e)
		}
	}
	if e := world.Check(world.World{}); e != api.ErrMany {
		t.Error(e)
	}
}

// P1.1: the limits of chambers, at them and beyond them.
func TestCheckChambers(t *testing.T) {
	for _, c := range []struct {
		chamber world.Chamber
		want    api.Errno
	}{
		{world.Chamber{Period: 2}, api.OK},
		{world.Chamber{Base: 1000000, Swing: 100000, Period: last}, api.OK},
		{world.Chamber{Base: -1, Period: 2}, api.ErrRange},
		{world.Chamber{Base: 1000001, Period: 2}, api.ErrRange},
		{world.Chamber{Swing: -1, Period: 2}, api.ErrRange},
		{world.Chamber{Swing: 100001, Period: 2}, api.ErrRange},
		{world.Chamber{Period: 1}, api.ErrRange},
		{world.Chamber{Period: 0}, api.ErrRange},
		{world.Chamber{Period: -2}, api.ErrRange},
		{world.Chamber{Period: last + 1}, api.ErrRange},
		{world.Chamber{Base: math.MinInt, Swing: math.MaxInt, Period: math.MinInt}, api.ErrRange},
	} {
		w := one(world.Clock{})
		w.Chambers = append(w.Chambers, c.chamber)
		if e := world.Check(w); e != c.want {
			t.Error(c, e)
		}
	}
}

// P1.1: the limits of each kind of clock.
func TestCheckKinds(t *testing.T) {
	fields := []func(c *world.Clock, n int){
		func(c *world.Clock, n int) { c.Rate = n },
		func(c *world.Clock, n int) { c.Drift = n },
		func(c *world.Clock, n int) { c.White = n },
		func(c *world.Clock, n int) { c.Walk = n },
	}
	for kind, limits := range most {
		for i, set := range fields {
			least := -limits[i]
			if i >= 2 {
				least = 0
			}
			for n, want := range map[int]api.Errno{0: api.OK, least: api.OK, limits[i]: api.OK, least - 1: api.ErrClock, limits[i] + 1: api.ErrClock, math.MinInt: api.ErrClock, math.MaxInt: api.ErrClock} {
				c := world.Clock{Kind: kind}
				set(&c, n)
				if e := world.Check(one(c)); e != want {
					t.Error(kind, i, n, e)
				}
			}
		}
	}
	for _, kind := range []world.Kind{-1, 6, math.MinInt, math.MaxInt} {
		if e := world.Check(one(world.Clock{Kind: kind})); e != api.ErrClock {
			t.Error(kind, e)
		}
	}
	w := one(world.Clock{})
	w.Clocks[0].Kind = 0
	if e := world.Check(w); e != api.ErrClock {
		t.Error(e)
	}
}

// P1.1: the limits that all clocks have.
func TestCheckClocks(t *testing.T) {
	for _, c := range []struct {
		clock world.Clock
		want  api.Errno
	}{
		{world.Clock{Phase: 100000000000000}, api.OK},
		{world.Clock{Phase: -100000000000000}, api.OK},
		{world.Clock{Phase: 100000000000001}, api.ErrClock},
		{world.Clock{Phase: -100000000000001}, api.ErrClock},
		{world.Clock{Heat: 1000000000}, api.OK},
		{world.Clock{Heat: -1000000000}, api.OK},
		{world.Clock{Heat: 1000000001}, api.ErrClock},
		{world.Clock{Heat: -1000000001}, api.ErrClock},
		{world.Clock{Chamber: 1}, api.OK},
		{world.Clock{Chamber: 2}, api.ErrClock},
		{world.Clock{Chamber: -1}, api.ErrClock},
	} {
		w := one(c.clock)
		w.Chambers = append(w.Chambers, room())
		if e := world.Check(w); e != c.want {
			t.Error(c, e)
		}
	}
}

// P1.1: the events of a clock.
func TestCheckEvents(t *testing.T) {
	many := make([]world.Event, 9)
	for i := range many {
		many[i] = event(world.Step, i+1, 0)
	}
	for i, c := range []struct {
		events []world.Event
		want   api.Errno
	}{
		{[]world.Event{}, api.OK},
		{many[:8], api.OK},
		{many, api.ErrTime},
		{[]world.Event{event(world.Step, 1, 10000000000000), event(world.Kick, last, -10000000000)}, api.OK},
		{[]world.Event{event(world.Step, 1, -10000000000000), event(world.Kick, 2, 10000000000)}, api.OK},
		{[]world.Event{event(world.Step, 1, 10000000000001)}, api.ErrTime},
		{[]world.Event{event(world.Step, 1, -10000000000001)}, api.ErrTime},
		{[]world.Event{event(world.Kick, 1, 10000000001)}, api.ErrTime},
		{[]world.Event{event(world.Kick, 1, -10000000001)}, api.ErrTime},
		{[]world.Event{event(world.Stop, 1, 0), event(world.Start, 2, 0)}, api.OK},
		{[]world.Event{event(world.Stop, 1, 1)}, api.ErrTime},
		{[]world.Event{event(world.Stop, 1, -1)}, api.ErrTime},
		{[]world.Event{event(world.Start, 1, 1)}, api.ErrTime},
		{[]world.Event{event(world.Start, 1, -1)}, api.ErrTime},
		{[]world.Event{event(world.Step, 0, 0)}, api.ErrTime},
		{[]world.Event{event(world.Step, -1, 0)}, api.ErrTime},
		{[]world.Event{event(world.Step, last+1, 0)}, api.ErrTime},
		{[]world.Event{event(world.Step, math.MinInt, 0)}, api.ErrTime},
		{[]world.Event{event(0, 1, 0)}, api.ErrTime},
		{[]world.Event{event(5, 1, 0)}, api.ErrTime},
		{[]world.Event{event(-1, 1, 0)}, api.ErrTime},
		{[]world.Event{event(math.MaxInt, 1, 0)}, api.ErrTime},
		{[]world.Event{event(world.Step, 7, 0), event(world.Kick, 7, 0)}, api.ErrTime},
		{[]world.Event{event(world.Step, 7, 0), event(world.Kick, 6, 0)}, api.ErrTime},
	} {
		if e := world.Check(one(world.Clock{Events: c.events})); e != c.want {
			t.Error(i, e)
		}
	}
}

// P1.1: first all chambers are looked at, then all clocks, then all events.
func TestCheckOrder(t *testing.T) {
	tube := world.Clock{Kind: world.Tube}
	worse := world.Clock{Kind: world.Tube, Rate: 10000001, Events: []world.Event{{}}}
	late := world.Clock{Kind: world.Tube, Events: []world.Event{{}}}
	hot := world.Chamber{Base: -1, Period: 2}
	for i, c := range []struct {
		chambers []world.Chamber
		clocks   []world.Clock
		want     api.Errno
	}{
		{[]world.Chamber{hot}, nil, api.ErrMany},
		{nil, []world.Clock{worse}, api.ErrMany},
		{[]world.Chamber{hot}, slices.Repeat([]world.Clock{worse}, 17), api.ErrMany},
		{[]world.Chamber{room(), hot}, []world.Clock{worse}, api.ErrRange},
		{[]world.Chamber{room()}, []world.Clock{worse}, api.ErrClock},
		{[]world.Chamber{room()}, []world.Clock{late, worse}, api.ErrClock},
		{[]world.Chamber{room()}, []world.Clock{tube, late}, api.ErrTime},
		{[]world.Chamber{room()}, []world.Clock{tube, tube}, api.OK},
	} {
		if e := world.Check(world.World{Chambers: c.chambers, Clocks: c.clocks}); e != c.want {
			t.Error(i, e)
		}
	}
}
