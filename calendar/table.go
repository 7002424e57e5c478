package calendar

import (
	"cmp"
	"slices"
	"sort"

	"meridian/api"
	"meridian/number"
)

// work is a table at work, which is valid.
type work struct {
	Table
	steps map[int]int // those of the leaps, by their days
}

// Check reports whether a table is valid.
func Check(t Table) api.Errno {
	if !number.Within(t.Base, 0, maxBase) || !number.Within(t.Until, FirstDay+1, LastDay+1) {
		return api.ErrRange
	}
	if len(t.Leaps) > MaxLeaps {
		return api.ErrMany
	}
	before := 0
	for _, l := range t.Leaps {
		switch {
		case !l.isAllowed():
			return api.ErrLeap
		case !t.knowsDay(l.Day):
			return api.ErrRange
		case l.Day <= before:
			return api.ErrOrder
		}
		before = l.Day
	}
	return api.OK
}

// Length returns the length of a day.
func Length(t Table, day int) (int, api.Errno) { return ofDay(t, day, work.length) }

// Offset returns the offset of the atomic time in a day.
func Offset(t Table, day int) (int, api.Errno) { return ofDay(t, day, work.offset) }

// Total returns how many seconds a table knows.
func Total(t Table) (int, api.Errno) {
	if e := Check(t); e != api.OK {
		return 0, e
	}
	return t.total(), api.OK
}

// Seconds returns the number of the second of a date.
func Seconds(t Table, d Date) (int, api.Errno) {
	w, e := open(t)
	if e != api.OK {
		return 0, e
	}
	m, e := d.moment()
	if e != api.OK || !w.has(m) {
		return 0, api.ErrDate
	}
	return w.number(m), api.OK
}

// Dates returns the date of a second.
func Dates(t Table, second int) (Date, api.Errno) { return ofSecond(t, second, work.date) }

// Atomic returns the atomic time of a second.
func Atomic(t Table, second int) (int, api.Errno) { return ofSecond(t, second, work.atomic) }

// Announced returns the leap that is announced in a second.
func Announced(t Table, second int) (int, api.Errno) { return ofSecond(t, second, work.announced) }

// Extend returns a table that is extended by a later one.
func Extend(a, b Table) (Table, api.Errno) {
	if e := cmp.Or(Check(a), Check(b)); e != api.OK {
		return Table{}, e
	}
	if b.Until < a.Until {
		return Table{}, api.ErrState
	}
	if a.Base != b.Base || !slices.Equal(a.Leaps, b.before(a.Until)) {
		return Table{}, api.ErrLeap
	}
	b.Leaps = slices.Clone(b.Leaps)
	return b, api.OK
}

// isAllowed says nothing of days that are not in the calendar: they are no error
// of the leap itself.
func (l Leap) isAllowed() bool {
	return (l.Step == 1 || l.Step == -1) && (!isDay(l.Day) || l.Day == endOfMonth(l.Day))
}

func open(t Table) (work, api.Errno) {
	if e := Check(t); e != api.OK {
		return work{}, e
	}
	w := work{t, map[int]int{}}
	for _, l := range t.Leaps {
		w.steps[l.Day] = l.Step
	}
	return w, api.OK
}

// ofDay is what f says of a day that a table knows.
func ofDay(t Table, day int, f func(w work, day int) int) (int, api.Errno) {
	w, e := open(t)
	if e != api.OK {
		return 0, e
	}
	if !w.knowsDay(day) {
		return 0, api.ErrRange
	}
	return f(w, day), api.OK
}

// ofSecond is what f says of a second that a table knows.
func ofSecond[T any](t Table, second int, f func(w work, second int) T) (T, api.Errno) {
	var none T
	w, e := open(t)
	if e != api.OK {
		return none, e
	}
	if !number.IsIndex(second, w.total()) {
		return none, api.ErrRange
	}
	return f(w, second), api.OK
}

func (t Table) knowsDay(day int) bool { return number.Within(day, FirstDay, t.Until-1) }

// before are the leaps of the days before a day.
func (t Table) before(day int) []Leap {
	for i, l := range t.Leaps {
		if l.Day >= day {
			return t.Leaps[:i]
		}
	}
	return t.Leaps
}

func (t Table) offset(day int) int {
	sum := t.Base
	for _, l := range t.before(day) {
		sum += l.Step
	}
	return sum
}

// begin is the first second of a day.
func (t Table) begin(day int) int { return api.Day*(day-FirstDay) + t.offset(day) - t.Base }

func (t Table) total() int { return t.begin(t.Until) }

// dayOf is the day of a second that the table knows.
func (t Table) dayOf(second int) int {
	return FirstDay + sort.Search(t.Until-FirstDay, func(i int) bool {
		return t.begin(FirstDay+i+1) > second
	})
}

func (w work) length(day int) int { return api.Day + w.steps[day] }

func (w work) atomic(second int) int { return second + w.Base }

func (w work) announced(second int) int { return w.steps[endOfMonth(w.dayOf(second))] }

func (w work) date(second int) Date { return w.moment(second).date() }
