package calendar

import (
	"cmp"
	"iter"
	"math"

	"meridian/api"
	"meridian/number"
)

// CheckZone reports whether a zone is valid.
func CheckZone(z Zone) api.Errno {
	if len(z.Changes) > MaxChanges {
		return api.ErrMany
	}
	if !isOffset(z.Offset) {
		return api.ErrRange
	}
	before := -1
	for _, c := range z.Changes {
		switch {
		case !isOffset(c.Offset) || c.At < 0:
			return api.ErrRange
		case c.At <= before:
			return api.ErrOrder
		}
		before = c.At
	}
	return api.OK
}

// Local returns the local date of a second, and the offset that holds.
func Local(t Table, z Zone, second int) (Date, int, api.Errno) {
	if e := cmp.Or(Check(t), CheckZone(z)); e != api.OK {
		return Date{}, 0, e
	}
	m, e := ofSecond(t, second, work.moment)
	if e != api.OK {
		return Date{}, 0, e
	}
	offset := z.offset(second)
	local := m.later(offset)
	if !isDay(local.day()) {
		return Date{}, 0, api.ErrDate
	}
	return local.date(), offset, api.OK
}

// FromLocal returns the seconds with a local date.
func FromLocal(t Table, z Zone, d Date) ([]int, api.Errno) {
	w, e := open(t)
	if e = cmp.Or(e, CheckZone(z)); e != api.OK {
		return nil, e
	}
	local, e := d.moment()
	if e != api.OK {
		return nil, e
	}
	var found []int
	for second, holds := range w.candidates(z, local) {
		if number.Within(second, holds.Lo, holds.Hi) {
			found = append(found, second)
		}
	}
	return some(found)
}

func isOffset(minutes int) bool { return number.Within(minutes, -maxOffset, maxOffset) }

// offsets yields the offsets of a zone, in the order in which they hold, each with
// the seconds in which it does.
func (z Zone) offsets() iter.Seq2[int, api.Span] {
	return func(yield func(int, api.Span) bool) {
		from, offset := 0, z.Offset
		for _, c := range z.Changes {
			if !yield(offset, api.Span{Lo: from, Hi: c.At - 1}) {
				return
			}
			from, offset = c.At, c.Offset
		}
		yield(offset, api.Span{Lo: from, Hi: math.MaxInt})
	}
}

// offset is the one that holds in a second.
func (z Zone) offset(second int) int {
	last := z.Offset
	for offset, holds := range z.offsets() {
		if holds.Lo <= second {
			last = offset
		}
	}
	return last
}

// candidates yields, for each offset of a zone, the second that has a local date
// if this offset holds in it, with the seconds in which it does.
func (w work) candidates(z Zone, local moment) iter.Seq2[int, api.Span] {
	return func(yield func(int, api.Span) bool) {
		for offset, holds := range z.offsets() {
			m := local.later(-offset)
			if w.has(m) && !yield(w.number(m), holds) {
				return
			}
		}
	}
}
