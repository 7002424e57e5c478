package stamp

import (
	"math"

	"meridian/api"
	"meridian/number"
)

const (
	maxAt   = 100000
	maxRate = 1000000
	// maxPart is the greatest denominator of a clock's numbers; with it an int
	// holds what a clock shows in units of both denominators.
	maxPart  = 100000
	maxStart = 30000000000000
	maxSlope = 300000000
)

// slopes are those that a clock can have, as far as pairs of checks were taken.
type slopes struct {
	Fit
	checks []Check
	some   bool // whether two checks have different At
	split  bool // whether two of the same second have no number in common
}

// Audit returns what slopes a clock can have.
func Audit(l []Check) (Fit, api.Errno) {
	if e := listError(l); e != api.OK {
		return Fit{}, e
	}
	return fit(l)
}

// Keeps reports whether a clock keeps checks.
func Keeps(l []Check, a, b api.Ratio) (bool, api.Errno) {
	if e := listError(l); e != api.OK {
		return false, e
	}
	if !isPart(a, maxStart) || !isPart(b, maxSlope) {
		return false, api.ErrArg
	}
	unit := a.D * b.D
	for _, c := range l {
		if !number.Within(a.N*b.D+b.N*c.At*a.D, c.Lo*unit, c.Hi*unit) {
			return false, api.OK
		}
	}
	return true, api.OK
}

// Choose returns a clock that keeps checks.
func Choose(l []Check, rate int) (api.Ratio, api.Ratio, api.Errno) {
	if e := listError(l); e != api.OK {
		return api.Ratio{}, api.Ratio{}, e
	}
	if !number.Within(rate, -maxRate, maxRate) {
		return api.Ratio{}, api.Ratio{}, api.ErrRange
	}
	f, e := fit(l)
	if e != api.OK {
		return api.Ratio{}, api.Ratio{}, e
	}
	b := f.nearest(api.Ratio{N: rate, D: 1})
	return start(l, b), b, api.OK
}

func listError(l []Check) api.Errno {
	if len(l) > MaxChecks {
		return api.ErrMany
	}
	for _, c := range l {
		if !c.isAllowed() {
			return api.ErrRange
		}
	}
	return api.OK
}

func (c Check) isAllowed() bool {
	return number.Within(c.At, 0, maxAt) && c.Lo >= -MaxAhead && c.Hi <= MaxAhead && c.Lo <= c.Hi
}

// isPart reports whether r is a number of a clock, with a numerator up to most.
func isPart(r api.Ratio, most int) bool {
	return number.IsLowest(r) && r.D <= maxPart && number.Within(r.N, -most, most)
}

// fit has the slopes of checks, each of which is allowed.
func fit(l []Check) (Fit, api.Errno) {
	s := slopes{checks: l}
	forPairs(len(l), s.narrow)
	switch {
	case !s.some:
		return Fit{}, api.ErrNone
	case s.split || number.Compare(s.Least, s.Most) > 0:
		return Fit{}, api.ErrEmpty
	}
	return s.Fit, api.OK
}

// forPairs calls take with all pairs of indices, in their order.
func forPairs(count int, take func(i, k int)) {
	for i := range count {
		for k := range count {
			take(i, k)
		}
	}
}

// narrow takes the checks i and k.
func (s *slopes) narrow(i, k int) {
	early, late := s.checks[i], s.checks[k]
	seconds := late.At - early.At
	if seconds == 0 {
		s.split = s.split || early.Lo > late.Hi
	}
	if seconds <= 0 {
		return
	}
	lower := number.Lowest(late.Lo-early.Hi, seconds)
	if !s.some || number.Compare(lower, s.Least) > 0 {
		s.Least, s.First = lower, [2]int{i, k}
	}
	upper := number.Lowest(late.Hi-early.Lo, seconds)
	if !s.some || number.Compare(upper, s.Most) < 0 {
		s.Most, s.Last = upper, [2]int{i, k}
	}
	s.some = true
}

// nearest is the slope that is nearest to b.
func (f Fit) nearest(b api.Ratio) api.Ratio {
	switch {
	case number.Compare(b, f.Least) < 0:
		return f.Least
	case number.Compare(b, f.Most) > 0:
		return f.Most
	}
	return b
}

// start is the least number by which a clock with the slope b, of which there is
// one, can be ahead at the second 0.
func start(l []Check, b api.Ratio) api.Ratio {
	n := math.MinInt
	for _, c := range l {
		n = max(n, c.Lo*b.D-b.N*c.At)
	}
	return number.Lowest(n, b.D)
}
