package counter

import (
	"iter"

	"meridian/api"
	"meridian/number"
)

// Resolve returns the differences of a prior that a shown value can mean.
func Resolve(c Counter, m int, prior api.Span) (api.Span, api.Errno) {
	if e := Check(c); e != api.OK {
		return api.Span{}, e
	}
	return c.resolve(m, prior)
}

// resolve is Resolve for a counter that is allowed.
func (c Counter) resolve(m int, prior api.Span) (api.Span, api.Errno) {
	if !c.canShow(m) || !isDifference(prior.Lo) || !isDifference(prior.Hi) {
		return api.Span{}, api.ErrRange
	}
	if prior.Lo > prior.Hi {
		return api.Span{}, api.ErrArg
	}
	var found []api.Span
	for x := range c.turns(m, prior) {
		if len(found) > 0 {
			return api.Span{}, api.ErrLarge
		}
		found = append(found, x)
	}
	if len(found) == 0 {
		return api.Span{}, api.ErrEmpty
	}
	return found[0], api.OK
}

// turns yields what the turns of a shown value have in common with the prior,
// if they have anything: of all of them, or at least of two.
func (c Counter) turns(m int, prior api.Span) iter.Seq[api.Span] {
	middle := m - c.Offset
	first := number.Ceil(c.Factor*prior.Lo-middle-c.error(), c.Range)
	last := number.Floor(c.Factor*prior.Hi-middle+c.error(), c.Range)
	// There may be 10^18 turns from first to last. Each of them has a number in
	// the prior if it has any number, which is so again every Factor turns: if
	// there are 2 Factor turns, two of them have one, or no turn has.
	last = min(last, first+2*c.Factor-1)
	return func(yield func(api.Span) bool) {
		for k := first; k <= last; k++ {
			x := common(c.turn(middle+k*c.Range), prior)
			if x.Lo <= x.Hi && !yield(x) {
				return
			}
		}
	}
}

// turn is the span of the numbers whose multiple by the Factor is no further
// from middle than the error.
func (c Counter) turn(middle int) api.Span {
	return api.Span{
		Lo: number.Ceil(middle-c.error(), c.Factor),
		Hi: number.Floor(middle+c.error(), c.Factor),
	}
}

// common is the span of what two spans have in common, with Lo above Hi if
// there is nothing.
func common(x, y api.Span) api.Span {
	return api.Span{Lo: max(x.Lo, y.Lo), Hi: min(x.Hi, y.Hi)}
}
