package world_test

import (
	"math"
	"testing"

	"meridian/api"
	"meridian/world"
)

// outcome is what a call returned: its error, and whether all else was zero.
type outcome struct {
	call string
	e    api.Errno
	zero bool
}

// callAll calls all functions that take a world.
func callAll(w world.World, k, s, other int) []outcome {
	var l []outcome
	add := func(call string, zero bool, e api.Errno) { l = append(l, outcome{call, e, zero}) }
	n, e := world.Temperature(w, k, s)
	add("Temperature", n == 0, e)
	is, e := world.Runs(w, k, s)
	add("Runs", !is, e)
	n, e = world.Phase(w, k, s)
	add("Phase", n == 0, e)
	n, e = world.Shown(w, k, s)
	add("Shown", n == 0, e)
	track, e := world.Track(w, k, s, 1, 2)
	add("Track", len(track) == 0, e)
	x, e := world.Reach(w, k, s)
	add("Reach", x == api.Span{}, e)
	x, e = world.Growth(w, k, s, other)
	add("Growth", x == api.Span{}, e)
	m, e := world.Read(w, k, s)
	add("Read", m == world.Moment{}, e)
	n, e = world.Back(w, k, world.Moment{Sec: s, Fs: other})
	add("Back", n == 0, e)
	return l
}

// R1, R2: the error of Check comes first, then that of the clock, then that of
// the second; and with an error there is nothing else.
func TestErrorsOfAll(t *testing.T) {
	stopped := world.Clock{Kind: world.Tube, Phase: 5, Events: []world.Event{event(world.Stop, 1, 0)}}
	many := one(stopped)
	many.Clocks = nil
	chamber := one(stopped)
	chamber.Chambers[0].Period = 0
	clock := one(stopped)
	clock.Clocks[0].Walk = -1
	events := one(stopped)
	events.Clocks[0].Events = []world.Event{event(world.Step, 0, 0)}
	for i, c := range []struct {
		w    world.World
		k, s int
		want api.Errno
	}{
		{many, 5, -1, api.ErrMany},
		{chamber, 5, -1, api.ErrRange},
		{clock, 5, -1, api.ErrClock},
		{events, 5, -1, api.ErrTime},
		{one(stopped), 1, -1, api.ErrClock},
		{one(stopped), -1, last + 1, api.ErrClock},
		{one(stopped), math.MaxInt, math.MaxInt, api.ErrClock},
		{one(stopped), math.MinInt, math.MinInt, api.ErrClock},
		{one(stopped), 0, -1, api.ErrTime},
		{one(stopped), 0, last + 1, api.ErrTime},
		{one(stopped), 0, math.MinInt, api.ErrTime},
		{one(stopped), 0, math.MaxInt, api.ErrTime},
	} {
		for _, o := range callAll(c.w, c.k, c.s, -1) {
			want := c.want
			if o.call == "Back" && want == api.ErrTime && i > 3 {
				want = api.ErrArg // a moment has any second
			}
			if o.e != want || !o.zero {
				t.Error(i, o)
			}
		}
	}
}

// P9: nothing panics, whatever the arguments.
func TestAnyArguments(t *testing.T) {
	edges := []int{math.MinInt, -1, 0, 1, 2, 15, 16, last, last + 1, world.Second, math.MaxInt}
	worlds := []world.World{{}, one(world.Clock{}), extreme(1), extreme(-1)}
	for _, n := range edges {
		c := world.Clock{Kind: world.Kind(n), Phase: n, Rate: n, Drift: n, White: n, Walk: n, Heat: n, Chamber: n, Events: []world.Event{event(world.What(n), n, n)}}
		worlds = append(worlds, world.World{Chambers: []world.Chamber{{Base: n, Swing: n, Period: n}}, Clocks: []world.Clock{c}}, world.World{Chambers: []world.Chamber{room()}, Clocks: []world.Clock{c}})
	}
	for _, w := range worlds {
		for _, a := range edges {
			for _, b := range edges {
				callAll(w, 0, a, b)
				callAll(w, a, b, 0)
				world.Track(w, 0, a, b, 3)
				world.Track(w, 0, 0, a, b)
				world.Draw(w.Seed, a, b, a, b)
			}
		}
	}
}
