// Package world simulates clocks as integer processes, in chambers, with noise
// that comes from a seed alone. It is layer 1: see shared/doc/01-world.md.
package world

import (
	"meridian/api"
	"meridian/number"
)

// Kind is the kind of a clock.
type Kind int

// What is what an event does.
type What int

// Kinds, events and limits of layer 1.
const (
	Tube     Kind = 1
	Maser    Kind = 2
	Fountain Kind = 3
	Ion      Kind = 4
	Quartz   Kind = 5

	Step  What = 1
	Kick  What = 2
	Stop  What = 3
	Start What = 4

	MaxStart  = 100000000000000
	MaxHeat   = 1000000000
	MaxStep   = 10000000000000
	MaxKick   = 10000000000
	MaxEvents = 8
	MaxTrack  = 20000
	Second    = 1000000000000000
)

// Chamber is a chamber with its temperature.
type Chamber struct{ Base, Swing, Period int }

// Event is something that happens to a clock.
type Event struct {
	What     What
	At, Size int
}

// Clock is a clock.
type Clock struct {
	Kind               Kind
	Phase, Rate, Drift int
	White, Walk, Heat  int
	Chamber            int
	Events             []Event
}

// World has chambers and clocks.
type World struct {
	Seed     uint64
	Chambers []Chamber
	Clocks   []Clock
}

// Moment is a time: Sec seconds and Fs femtoseconds.
type Moment struct{ Sec, Fs int }

// Temperature returns the temperature of a chamber, in millikelvin.
func Temperature(w World, chamber, s int) (int, api.Errno) {
	if e := Check(w); e != api.OK {
		return 0, e
	}
	if !number.IsIndex(chamber, len(w.Chambers)) {
		return 0, api.ErrClock
	}
	if !isSecond(s) {
		return 0, api.ErrTime
	}
	return w.Chambers[chamber].temperature(s), api.OK
}

// Runs reports whether a clock runs at a second.
func Runs(w World, k, s int) (bool, api.Errno) {
	c, e := find(w, k, s)
	if e != api.OK {
		return false, e
	}
	return c.runs(s), api.OK
}

// Phase returns the phase of a clock, whether it runs or not.
func Phase(w World, k, s int) (int, api.Errno) {
	c, e := find(w, k, s)
	if e != api.OK {
		return 0, e
	}
	return c.phase(s), api.OK
}

// Shown returns what a clock shows: its phase with the white noise.
func Shown(w World, k, s int) (int, api.Errno) {
	c, e := findRunning(w, k, s)
	if e != api.OK {
		return 0, e
	}
	return c.shown(s), api.OK
}

// Track returns what a clock shows at the second from and every step seconds
// after it, count times.
func Track(w World, k, from, step, count int) ([]int, api.Errno) {
	c, e := find(w, k)
	if e != api.OK {
		return nil, e
	}
	if step < 1 || !number.Within(count, 0, MaxTrack) {
		return nil, api.ErrArg
	}
	if !isSecond(from) || count > 1 && step > (api.MaxSeconds-from)/(count-1) {
		return nil, api.ErrTime
	}
	return c.track(from, step, count)
}

// Reach returns the least and the greatest value that a clock can show at a
// second, whatever the seed.
func Reach(w World, k, s int) (api.Span, api.Errno) {
	c, e := find(w, k, s)
	if e != api.OK {
		return api.Span{}, e
	}
	return around(c.fixed(s), c.strayed(0, s)+c.White), api.OK
}

// Growth returns by how much the phase of a clock can grow from one second to
// another one, whatever the seed.
func Growth(w World, k, from, to int) (api.Span, api.Errno) {
	c, e := find(w, k, from, to)
	if e != api.OK {
		return api.Span{}, e
	}
	if from > to {
		return api.Span{}, api.ErrArg
	}
	return around(c.fixed(to)-c.fixed(from), c.strayed(from, to)), api.OK
}

// Read returns the moment that a clock reads at a second.
func Read(w World, k, s int) (Moment, api.Errno) {
	c, e := findRunning(w, k, s)
	if e != api.OK {
		return Moment{}, e
	}
	return c.reading(s), api.OK
}

// Back returns the greatest second at which a clock runs and reads at most m.
func Back(w World, k int, m Moment) (int, api.Errno) {
	c, e := find(w, k)
	if e != api.OK {
		return 0, e
	}
	if !number.Within(m.Fs, 0, Second-1) {
		return 0, api.ErrArg
	}
	return c.back(m)
}
