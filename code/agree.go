package code

import (
	"cmp"
	"math"
	"slices"

	"meridian/api"
)

// end is one of the two ends of an interval.
type end struct {
	at, interval int
	side         int // -1 where it begins, 1 where it ends
}

// Combine returns what is common to intervals.
func Combine(l []api.Span) (api.Span, api.Errno) {
	if e := countError(l); e != api.OK {
		return api.Span{}, e
	}
	s := common(l)
	if isEmpty(s) { // so it is if an interval is
		return api.Span{}, api.ErrEmpty
	}
	return s, api.OK
}

// Agree returns in what most intervals agree.
func Agree(l []api.Span) (Agreement, api.Errno) {
	if e := countError(l); e != api.OK {
		return Agreement{}, e
	}
	if slices.ContainsFunc(l, isEmpty) {
		return Agreement{}, api.ErrEmpty
	}
	var best Agreement
	in, count := make([]bool, len(l)), 0
	for _, x := range ends(l) {
		in[x.interval] = x.side < 0
		count -= x.side
		if count > best.Count || count == best.Count && isBefore(in, best.In) {
			best.Count, best.In = count, slices.Clone(in)
		}
	}
	best.Span = common(chosen(l, best.In))
	return best, api.OK
}

func countError(l []api.Span) api.Errno {
	switch {
	case len(l) == 0:
		return api.ErrArg
	case len(l) > MaxServers:
		return api.ErrMany
	}
	return api.OK
}

// common is what is common to intervals, which may be nothing.
func common(l []api.Span) api.Span {
	s := api.Span{Lo: math.MinInt, Hi: math.MaxInt}
	for _, x := range l {
		s.Lo, s.Hi = max(s.Lo, x.Lo), min(s.Hi, x.Hi)
	}
	return s
}

// ends are those of all intervals in order. Of ends at one number those come first
// that begin, as the number belongs to all of them.
func ends(l []api.Span) []end {
	var all []end
	for i, s := range l {
		all = append(all, end{s.Lo, i, -1}, end{s.Hi, i, 1})
	}
	slices.SortFunc(all, func(a, b end) int {
		return cmp.Or(cmp.Compare(a.at, b.at), cmp.Compare(a.side, b.side))
	})
	return all
}

// isBefore reports whether the set a comes before b, which has as many elements.
func isBefore(a, b []bool) bool {
	for i := range a {
		if a[i] != b[i] {
			return a[i]
		}
	}
	return false
}

// chosen are the intervals of a set.
func chosen(l []api.Span, in []bool) []api.Span {
	var some []api.Span
	for i, s := range l {
		if in[i] {
			some = append(some, s)
		}
	}
	return some
}
