package lab

import (
	"slices"

	"meridian/api"
	"meridian/counter"
	"meridian/scale"
	"meridian/stamp"
	"meridian/steer"
	"meridian/world"
)

// work is what a lab works with. Its setup is no part of Lab itself, where everyone
// could change it.
type work struct {
	Setup
	known  world.World
	paper  *scale.Scale
	keeper *steer.Keeper
	chain  *stamp.Chain
	state
}

// state is what an order can change before it turns out to have an error.
type state struct {
	second  int                  // the present one
	stepped int                  // what the stepper has done
	last    [api.MaxClocks]sight // by the clocks; it counts for members alone
	rows    []Row
}

// sight is what a counter has shown of the difference of two clocks, and what that
// means.
type sight struct {
	second, shown int
	span          api.Span
}

// shows is what the realisation shows at the present second.
func (w *work) shows() (int, api.Errno) {
	n, e := world.Shown(w.World, w.Master, w.second)
	if e != api.OK {
		return 0, e
	}
	return n + w.stepped, api.OK
}

// bound is that of the realisation.
func (w *work) bound() api.Span {
	r := w.reach(w.Master)
	return api.Span{Lo: r.Lo + w.stepped, Hi: r.Hi + w.stepped}
}

// civil is the civil second.
func (w *work) civil() int { return w.Start + w.second }

// reach is what clock k can show at the present second, by what is known.
func (w *work) reach(k int) api.Span {
	r, _ := world.Reach(w.known, k, w.second)
	return r
}

// apart is what clock a can show less what clock b can show.
func (w *work) apart(a, b int) api.Span {
	x, y := w.reach(a), w.reach(b)
	return api.Span{Lo: x.Lo - y.Hi, Hi: x.Hi - y.Lo}
}

// look measures the difference of clocks a and b without a span that was known
// before.
func (w *work) look(a, b int) (sight, api.Errno) {
	shown, e := counter.Observe(w.Counter, w.World, a, b, w.second)
	if e != api.OK {
		return sight{}, e
	}
	span, e := counter.Resolve(w.Counter, shown, w.apart(a, b))
	return sight{w.second, shown, span}, e
}

// follow is the span of a value that is shown now for a member.
func (w *work) follow(id, shown int) (api.Span, api.Errno) {
	x := w.last[id]
	// The value that was shown before is there for its second: resolved with its own
	// span it is this span again.
	spans, e := counter.Follow(w.Counter, w.known, id, w.Master, x.second, w.second-x.second, []int{x.shown, shown}, x.span)
	if e != api.OK {
		return api.Span{}, e
	}
	return spans[1], api.OK
}

// middle is the middle of a span, towards 0.
func middle(s api.Span) int { return (s.Lo + s.Hi) / 2 }

func (r Row) copied() Row {
	r.Ids, r.Spans, r.Lost = slices.Clone(r.Ids), slices.Clone(r.Spans), slices.Clone(r.Lost)
	return r
}
