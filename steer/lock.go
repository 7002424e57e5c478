package steer

import (
	"meridian/api"
	"meridian/counter"
	"meridian/number"
	"meridian/world"
)

// Lock says for how many measurements a spare is in lock.
func Lock(c counter.Counter, w world.World, a, b, from, step, count int, most int) (int, []api.Span, api.Errno) {
	if !number.Within(most, 0, api.MaxPhase) {
		return 0, nil, api.ErrArg
	}
	shown, e := counter.Watch(c, w, a, b, from, step, count)
	if e != api.OK {
		return 0, nil, e
	}
	spans, e := counter.Follow(c, w, a, b, from, step, shown, api.Span{Lo: -most, Hi: most})
	if e != api.OK {
		return 0, nil, e
	}
	return locked(spans, most), spans, api.OK
}

// locked is how many of the first spans are wholly from -most to most.
func locked(spans []api.Span, most int) int {
	for i, s := range spans {
		if s.Lo < -most || s.Hi > most {
			return i
		}
	}
	return len(spans)
}
