package code

import (
	"meridian/api"
	"meridian/number"
)

const (
	maxTime    = 1000000000000000
	maxDelay   = 1000000000000
	maxRate    = 1000000
	maxSeconds = 1000000
)

// Between returns the interval of the offset of a poll.
func Between(x Poll) (api.Span, api.Errno) {
	switch {
	case !x.isAllowed():
		return api.Span{}, api.ErrRange
	case x.T1 > x.T4 || x.T2 > x.T3:
		return api.Span{}, api.ErrOrder
	}
	// a greater offset leaves less time to the request, a lesser one to the answer
	s := api.Span{Lo: x.T3 - x.T4 + x.Back, Hi: x.T2 - x.T1 - x.Out}
	if isEmpty(s) {
		return api.Span{}, api.ErrEmpty
	}
	return s, api.OK
}

// Widen returns an interval after some seconds.
func Widen(s api.Span, rate, seconds int) (api.Span, api.Errno) {
	switch {
	case isEmpty(s):
		return api.Span{}, api.ErrEmpty
	case !isMoment(s.Lo) || !isMoment(s.Hi) || !number.Within(rate, 0, maxRate) || !number.Within(seconds, 0, maxSeconds):
		return api.Span{}, api.ErrRange
	}
	return api.Span{Lo: s.Lo - rate*seconds, Hi: s.Hi + rate*seconds}, api.OK
}

func (x Poll) isAllowed() bool {
	return isMoment(x.T1) && isMoment(x.T2) && isMoment(x.T3) && isMoment(x.T4) &&
		number.Within(x.Out, 0, maxDelay) && number.Within(x.Back, 0, maxDelay)
}

// isMoment reports whether clocks can show a number.
func isMoment(n int) bool { return number.Within(n, -maxTime, maxTime) }

func isEmpty(s api.Span) bool { return s.Lo > s.Hi }
