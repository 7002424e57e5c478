package counter

import (
	"meridian/api"
	"meridian/number"
	"meridian/world"
)

// Observe returns what a counter shows for what clock a shows less what clock
// b shows.
func Observe(c Counter, w world.World, a, b, s int) (int, api.Errno) {
	if e := Check(c); e != api.OK {
		return 0, e
	}
	x, e := world.Shown(w, a, s)
	if e != api.OK {
		return 0, e
	}
	y, e := world.Shown(w, b, s)
	if e != api.OK {
		return 0, e
	}
	if a == b {
		return 0, api.ErrArg
	}
	return Show(c, w.Seed, s, x-y)
}

// Watch returns what a counter shows at the second from and every step seconds
// after it, count times.
func Watch(c Counter, w world.World, a, b, from, step, count int) ([]int, api.Errno) {
	if e := Check(c); e != api.OK {
		return nil, e
	}
	if step < 1 || !number.Within(count, 0, MaxSeries) {
		return nil, api.ErrArg
	}
	// A greater step leads beyond the last second, too, and could overflow.
	step = min(step, api.MaxSeconds+1)
	shown := make([]int, count)
	for i := range shown {
		m, e := Observe(c, w, a, b, from+i*step)
		if e != api.OK {
			return nil, e
		}
		shown[i] = m
	}
	return shown, api.OK
}

// Follow returns the spans of the true differences for values that were shown
// at the second from and every step seconds after it.
func Follow(c Counter, w world.World, a, b, from, step int, l []int, first api.Span) ([]api.Span, api.Errno) {
	if e := checkPair(c, w, a, b, from); e != api.OK {
		return nil, e
	}
	if e := c.checkSeries(from, step, len(l)); e != api.OK {
		return nil, e
	}
	spans := make([]api.Span, len(l))
	for i, m := range l {
		prior, e := first, api.OK
		if i > 0 {
			s := from + i*step
			prior, e = widen(w, a, b, s-step, s, spans[i-1])
		}
		if e == api.OK {
			spans[i], e = c.resolve(m, prior)
		}
		if e != api.OK {
			return nil, e
		}
	}
	return spans, api.OK
}

// checkPair returns the error of two clocks that are followed from a second on.
func checkPair(c Counter, w world.World, a, b, from int) api.Errno {
	if e := Check(c); e != api.OK {
		return e
	}
	for _, k := range [...]int{a, b} {
		if _, e := world.Phase(w, k, from); e != api.OK {
			return e
		}
	}
	if a == b {
		return api.ErrArg
	}
	if !c.measuresAt(from) {
		return api.ErrTime
	}
	return api.OK
}

// checkSeries returns the error of the seconds of a series whose first one is
// allowed.
func (c Counter) checkSeries(from, step, count int) api.Errno {
	if step < 1 {
		return api.ErrArg
	}
	if count > MaxSeries {
		return api.ErrMany
	}
	if count <= 1 {
		return api.OK
	}
	if step > (api.MaxSeconds-from)/(count-1) || step%c.Dead != 0 {
		return api.ErrTime
	}
	return api.OK
}

// widen returns in which span the shown difference of two clocks is at the
// second to, if it was in x at the second from.
func widen(w world.World, a, b, from, to int, x api.Span) (api.Span, api.Errno) {
	up, e := world.Growth(w, a, from, to)
	if e != api.OK {
		return api.Span{}, e
	}
	down, e := world.Growth(w, b, from, to)
	if e != api.OK {
		return api.Span{}, e
	}
	// At both seconds each clock can be off by its White.
	noise := 2 * (w.Clocks[a].White + w.Clocks[b].White)
	wide := sum(x, up, opposite(down), api.Span{Lo: -noise, Hi: noise})
	return common(wide, api.Span{Lo: -api.MaxPhase, Hi: api.MaxPhase}), api.OK
}

// sum is the span of the sums of a number of each span.
func sum(spans ...api.Span) api.Span {
	var s api.Span
	for _, x := range spans {
		s.Lo += x.Lo
		s.Hi += x.Hi
	}
	return s
}

// opposite is the span of the numbers of x with the other sign.
func opposite(x api.Span) api.Span { return api.Span{Lo: -x.Hi, Hi: -x.Lo} }
