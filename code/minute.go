package code

import (
	"iter"

	"meridian/api"
	"meridian/calendar"
)

const dayMinutes = 1440

// run is a day or a minute of a table, with what is told of its first second.
type run struct {
	first, length int
	Told
}

// Minute returns the first second of a minute, and how many it has.
func Minute(t calendar.Table, second int) (int, int, api.Errno) {
	m, e := minuteOf(t, second)
	return m.first, m.length, e
}

// Tell returns what is told of a minute.
func Tell(t calendar.Table, second int) (Told, api.Errno) {
	m, e := minuteFrom(t, second)
	return m.Told, e
}

// dayOf is the day of a second.
func dayOf(t calendar.Table, second int) (run, api.Errno) {
	d, e := calendar.Dates(t, second)
	if e != api.OK {
		return run{}, e
	}
	// with a date of the table none of these has an error
	day, _ := calendar.Day(d.Year, d.Month, d.Day)
	length, _ := calendar.Length(t, day)
	leap, _ := calendar.Announced(t, second)
	offset, _ := calendar.Offset(t, day)
	begin := calendar.Date{Year: d.Year, Month: d.Month, Day: d.Day}
	return run{second - secondOfDay(d), length, Told{begin, leap, offset}}, api.OK
}

// minuteOf is the minute of a second.
func minuteOf(t calendar.Table, second int) (run, api.Errno) {
	day, e := dayOf(t, second)
	if e != api.OK {
		return run{}, e
	}
	return day.minute(second), api.OK
}

// minuteFrom is the minute that begins with a second.
func minuteFrom(t calendar.Table, second int) (run, api.Errno) {
	m, e := minuteOf(t, second)
	if e != api.OK {
		return run{}, e
	}
	if m.first != second {
		return run{}, api.ErrState
	}
	return m, api.OK
}

// minutes yields all minutes of a table, from that of a second on.
func minutes(t calendar.Table, second int) iter.Seq[run] {
	return func(yield func(run) bool) {
		for {
			day, e := dayOf(t, second)
			if e != api.OK {
				return
			}
			for second < day.end() {
				m := day.minute(second)
				if !yield(m) {
					return
				}
				second = m.end()
			}
		}
	}
}

// end is the first second behind it.
func (r run) end() int { return r.first + r.length }

// minute is the minute of a second of the day. A leap changes the length of the
// last one only.
func (r run) minute(second int) run {
	n := min((second-r.first)/60, dayMinutes-1)
	m := run{r.first + 60*n, 60, r.Told}
	if n == dayMinutes-1 {
		m.length = r.end() - m.first
	}
	m.Date.Hour, m.Date.Minute = n/60, n%60
	return m
}

// at is what is told of a second of the minute.
func (r run) at(second int) Told {
	x := r.Told
	x.Date.Second = second - r.first
	return x
}
