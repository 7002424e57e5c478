package world

import (
	"meridian/api"
	"meridian/number"
)

const maxChambers = 8

// limit has the limits of what clocks of a kind can have.
type limit struct{ rate, drift, white, walk int }

var limits = [...]limit{
	Tube:     {10000000, 10000, 10000000, 100000},
	Maser:    {1000000, 100000, 100000, 10000},
	Fountain: {100000, 0, 1000000, 1000},
	Ion:      {100000, 0, 100000, 100},
	Quartz:   {10000000000, 10000000, 1000000000000, 1000000000},
}

var sizes = [...]int{Step: MaxStep, Kick: MaxKick, Stop: 0, Start: 0}

// check is what must hold, and the error if it does not.
type check struct {
	otherwise api.Errno
	holds     func() bool
}

// Check returns the error of a world.
func Check(w World) api.Errno {
	checks := [...]check{
		{api.ErrMany, func() bool {
			return number.Within(len(w.Chambers), 1, maxChambers) && number.Within(len(w.Clocks), 1, api.MaxClocks)
		}},
		{api.ErrRange, func() bool { return all(w.Chambers, Chamber.allowed) }},
		{api.ErrClock, func() bool {
			return all(w.Clocks, func(c Clock) bool { return c.allowed(len(w.Chambers)) })
		}},
		{api.ErrTime, func() bool { return all(w.Clocks, Clock.eventsAllowed) }},
	}
	for _, c := range checks {
		if !c.holds() {
			return c.otherwise
		}
	}
	return api.OK
}

func (c Chamber) allowed() bool {
	return number.Within(c.Base, 0, 1000000) && number.Within(c.Swing, 0, 100000) && number.Within(c.Period, 2, api.MaxSeconds)
}

// allowed leaves the events out: they are looked at after all clocks.
func (c Clock) allowed(chambers int) bool {
	if c.Kind < Tube || c.Kind > Quartz {
		return false
	}
	most := limits[c.Kind]
	return number.Within(c.Phase, -MaxStart, MaxStart) &&
		number.Within(c.Rate, -most.rate, most.rate) &&
		number.Within(c.Drift, -most.drift, most.drift) &&
		number.Within(c.White, 0, most.white) &&
		number.Within(c.Walk, 0, most.walk) &&
		number.Within(c.Heat, -MaxHeat, MaxHeat) &&
		number.IsIndex(c.Chamber, chambers)
}

func (c Clock) eventsAllowed() bool {
	if len(c.Events) > MaxEvents {
		return false
	}
	last := 0
	for _, e := range c.Events {
		if !e.allowed() || e.At <= last {
			return false
		}
		last = e.At
	}
	return true
}

func (e Event) allowed() bool {
	if e.What < Step || e.What > Start {
		return false
	}
	most := sizes[e.What]
	return number.Within(e.At, 1, api.MaxSeconds) && number.Within(e.Size, -most, most)
}

func all[T any](l []T, holds func(T) bool) bool {
	for _, x := range l {
		if !holds(x) {
			return false
		}
	}
	return true
}

func isSecond(s int) bool { return number.Within(s, 0, api.MaxSeconds) }
