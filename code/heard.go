package code

import (
	"iter"

	"meridian/api"
	"meridian/calendar"
	"meridian/number"
)

// Possible returns the minutes that agree with what was heard.
func Possible(t calendar.Table, heard []int, from, to int) ([]int, api.Errno) {
	if e := calendar.Check(t); e != api.OK {
		return nil, e
	}
	if !isHeard(heard) {
		return nil, api.ErrArg
	}
	l, e := window(t, from, to)
	if e != api.OK {
		return nil, e
	}
	var found []int
	for first, frame := range frames(l) {
		if agrees(frame, heard) {
			found = append(found, first)
		}
	}
	return found, api.OK
}

// Needed returns how many bits must be heard.
func Needed(t calendar.Table, second, from, to int) (int, api.Errno) {
	frame, e := Frame(t, second)
	if e != api.OK {
		return 0, e
	}
	l, e := window(t, from, to)
	if e != api.OK {
		return 0, e
	}
	if !number.Within(second, from, to-1) {
		return 0, api.ErrArg
	}
	needed := 0
	for first, other := range frames(l) {
		if first != second {
			needed = max(needed, alike(frame, other)+1)
		}
	}
	return needed, api.OK
}

func isHeard(heard []int) bool {
	for _, bit := range heard {
		if !number.Within(bit, -1, 1) {
			return false
		}
	}
	return len(heard) <= MaxFrame
}

// window has the minutes of a valid table that begin in a window, and the one that
// follows them, as the last frame tells it.
func window(t calendar.Table, from, to int) ([]run, api.Errno) {
	total, _ := calendar.Total(t)
	if from > to || from < 0 || to > total {
		return nil, api.ErrRange
	}
	var l []run
	for m := range minutes(t, from) {
		if m.first < from {
			continue
		}
		if m.first < to && len(l) == MaxWindow {
			return nil, api.ErrMany
		}
		l = append(l, m)
		if m.first >= to {
			break
		}
	}
	return l, api.OK
}

// frames yields the first seconds of minutes that follow one another, and their
// frames. The last minute is there to be told only.
func frames(l []run) iter.Seq2[int, []bool] {
	return func(yield func(int, []bool) bool) {
		for i := 1; i < len(l); i++ {
			m := l[i-1]
			frame, e := m.frame(l[i])
			if e == api.OK && !yield(m.first, frame) {
				return
			}
		}
	}
}

// agrees reports whether heard can be what was caught of a frame.
func agrees(frame []bool, heard []int) bool {
	if len(frame) < len(heard) {
		return false
	}
	for i, bit := range heard {
		if bit >= 0 && frame[i] != (bit == 1) {
			return false
		}
	}
	return true
}

// alike is how many bits two frames have in common, from the first one on. They
// differ before one of them ends, as they tell different dates.
func alike(a, b []bool) int {
	n := 0
	for a[n] == b[n] {
		n++
	}
	return n
}
