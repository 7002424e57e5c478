package world

import (
	"iter"
	"slices"

	"meridian/api"
	"meridian/number"
)

// pace is how many seconds pass between two draws of a walk.
const pace = 100

// atWork is a clock at work: with what it needs of its world to show a second
// without the others.
type atWork struct {
	Clock
	seed    uint64
	index   int
	room    Chamber
	effects map[What]effect
}

// past is what the events of a clock have done until a second.
type past struct {
	jumped  int // fs
	kicked  int // as
	stopped bool
}

// effect is what an event of a size does in some seconds.
type effect func(p *past, size, seconds int)

func effects() map[What]effect {
	return map[What]effect{
		Step:  (*past).step,
		Kick:  (*past).kick,
		Stop:  (*past).stop,
		Start: (*past).start,
	}
}

func (p *past) step(size, _ int) { p.jumped += size }

func (p *past) kick(size, seconds int) { p.kicked += size * seconds }

func (p *past) stop(_, _ int) { p.stopped = true }

func (p *past) start(_, _ int) { p.stopped = false }

// find returns clock k of a world, if the world, the clock and the seconds are
// allowed.
func find(w World, k int, seconds ...int) (*atWork, api.Errno) {
	if e := Check(w); e != api.OK {
		return nil, e
	}
	if !number.IsIndex(k, len(w.Clocks)) {
		return nil, api.ErrClock
	}
	if !all(seconds, isSecond) {
		return nil, api.ErrTime
	}
	c := w.Clocks[k]
	return &atWork{Clock: c, seed: w.Seed, index: k, room: w.Chambers[c.Chamber], effects: effects()}, api.OK
}

// findRunning is find for a clock that must run at s.
func findRunning(w World, k, s int) (*atWork, api.Errno) {
	c, e := find(w, k, s)
	if e == api.OK && !c.runs(s) {
		return nil, api.ErrStop
	}
	return c, e
}

func (c *atWork) past(s int) past {
	var p past
	for _, e := range c.Events {
		if e.At <= s {
			c.effects[e.What](&p, e.Size, s-e.At)
		}
	}
	return p
}

func (c *atWork) runs(s int) bool { return !c.past(s).stopped }

// fixed is the phase without the walk: the part that no seed changes.
func (c *atWork) fixed(s int) int {
	p := c.past(s)
	aged := number.Floor(c.Drift*(s*(s-1)/2), api.Day)
	gained := number.Floor(c.Rate*s+p.kicked+aged, 1000)
	warmed := c.Heat * (c.room.temperature(s) - c.room.temperature(0))
	return c.Phase + gained + warmed + p.jumped
}

// draws yields the draws of the walk after the second from, up to the second
// to.
func (c *atWork) draws(from, to int) iter.Seq[int] {
	return func(yield func(int) bool) {
		walk := source(c.seed, walkDraw, c.index)
		for i := from/pace + 1; i <= to/pace; i++ {
			if !yield(draw(walk, i, c.Walk)) {
				return
			}
		}
	}
}

// walked is how far the walk goes from one second to another one.
func (c *atWork) walked(from, to int) int {
	sum := 0
	for d := range c.draws(from, to) {
		sum += d
	}
	return sum
}

// strayed is how far the walk can go from one second to another one.
func (c *atWork) strayed(from, to int) int { return c.Walk * (to/pace - from/pace) }

func (c *atWork) phase(s int) int { return c.fixed(s) + c.walked(0, s) }

func (c *atWork) white(s int) int {
	return draw(source(c.seed, whiteDraw, c.index), s, c.White)
}

func (c *atWork) shown(s int) int { return c.phase(s) + c.white(s) }

func (c *atWork) track(from, step, count int) ([]int, api.Errno) {
	l := make([]int, 0, count)
	// The walk goes on from the second before: from 0 each time it would take
	// far too long.
	before, walk := 0, 0
	for i := range count {
		s := from + i*step
		if !c.runs(s) {
			return nil, api.ErrStop
		}
		walk += c.walked(before, s)
		before = s
		l = append(l, c.fixed(s)+walk+c.white(s))
	}
	return l, api.OK
}

func (c *atWork) reading(s int) Moment {
	shown := c.shown(s)
	sec := number.Floor(shown, Second)
	return Moment{Sec: s + sec, Fs: shown - sec*Second}
}

func (m Moment) after(o Moment) bool {
	return m.Sec > o.Sec || m.Sec == o.Sec && m.Fs > o.Fs
}

// back looks at few seconds: what a clock shows is less than half a second, so
// that it reads more than m from m.Sec+2 on, and less than m before m.Sec.
func (c *atWork) back(m Moment) (int, api.Errno) {
	for s := min(m.Sec, api.MaxSeconds-1) + 1; s >= 0; s-- {
		if !c.reading(s).after(m) {
			return c.lastRun(s), api.OK
		}
	}
	return 0, api.ErrNone
}

// lastRun returns the last second up to s at which the clock runs. There is
// one: no event is at the second 0.
func (c *atWork) lastRun(s int) int {
	for _, e := range slices.Backward(c.Events) {
		if e.At <= s && !c.runs(s) {
			s = e.At - 1
		}
	}
	return s
}

// temperature rises from Base for the first half of a period and falls back in
// the second one.
func (c Chamber) temperature(s int) int {
	p := s % c.Period
	q := p
	if 2*p > c.Period {
		q = c.Period - p
	}
	return c.Base + 2*c.Swing*q/c.Period
}

// around is the span of the numbers that are at most far away from middle.
func around(middle, far int) api.Span { return api.Span{Lo: middle - far, Hi: middle + far} }
