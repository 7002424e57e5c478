package alarm

import (
	"cmp"
	"slices"

	"meridian/api"
	"meridian/number"
)

// Roots returns the alarms that no other one explains.
func Roots(web [][]int, l []Alarm, wait int) ([]Alarm, api.Errno) {
	if e := checkWeb(web); e != api.OK {
		return nil, e
	}
	if wait < 0 {
		return nil, api.ErrArg
	}
	if e := checkAlarms(l, len(web)); e != api.OK {
		return nil, e
	}
	var roots []Alarm
	for _, a := range l {
		explains := func(b Alarm) bool {
			return slices.Contains(web[a.Part], b.Part) && b.compare(a) < 0 && a.At-b.At <= wait
		}
		if !slices.ContainsFunc(l, explains) {
			roots = append(roots, a)
		}
	}
	slices.SortFunc(roots, Alarm.compare)
	return roots, api.OK
}

func checkWeb(web [][]int) api.Errno {
	if len(web) > MaxParts {
		return api.ErrMany
	}
	for part, needs := range web {
		if !number.AreIndices(needs, len(web)) || slices.Contains(needs, part) {
			return api.ErrArg
		}
	}
	return api.OK
}

func checkAlarms(l []Alarm, parts int) api.Errno {
	var seen mask
	for _, a := range l {
		if !number.IsIndex(a.Part, parts) || a.At < 0 {
			return api.ErrAlarm
		}
		if seen&(1<<a.Part) != 0 {
			return api.ErrTwice
		}
		seen |= 1 << a.Part
	}
	return api.OK
}

// compare is -1 if a is before b, 0 if they are equal, and 1 otherwise.
func (a Alarm) compare(b Alarm) int {
	return cmp.Or(cmp.Compare(a.At, b.At), cmp.Compare(a.Part, b.Part))
}
