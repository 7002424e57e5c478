package calendar

import (
	"meridian/api"
	"meridian/number"
)

// moment is a second of a minute. Minutes are counted from day 0 on, and each day
// has 1440 of them, so that a leap changes the length of a minute only.
type moment struct{ minute, second int }

// moment is an error for a date that is valid for no table.
func (d Date) moment() (moment, api.Errno) {
	day, e := Day(d.Year, d.Month, d.Day)
	if e != api.OK || !number.IsIndex(d.Hour, 24) || !number.IsIndex(d.Minute, 60) || !number.Within(d.Second, 0, 60) {
		return moment{}, api.ErrDate
	}
	return moment{dayMinutes*day + 60*d.Hour + d.Minute, d.Second}, api.OK
}

func (m moment) date() Date {
	year, month, day := civil(m.day())
	minute := m.ofDay()
	return Date{year, month, day, minute / 60, minute % 60, m.second}
}

func (m moment) day() int { return number.Floor(m.minute, dayMinutes) }

// ofDay is which minute of its day it is.
func (m moment) ofDay() int { return number.Modulo(m.minute, dayMinutes) }

func (m moment) later(minutes int) moment { return moment{m.minute + minutes, m.second} }

// moment is that of a second that the table knows. A second 60 belongs to the
// last minute of its day.
func (w work) moment(second int) moment {
	day := w.dayOf(second)
	rest := second - w.begin(day)
	minute := min(rest/60, dayMinutes-1)
	return moment{dayMinutes*day + minute, rest - 60*minute}
}

// has reports whether the table knows a second of the moment.
func (w work) has(m moment) bool {
	length := 60
	if m.ofDay() == dayMinutes-1 {
		length += w.steps[m.day()]
	}
	return w.knowsDay(m.day()) && number.IsIndex(m.second, length)
}

// number is the second of a moment that the table has.
func (w work) number(m moment) int { return w.begin(m.day()) + 60*m.ofDay() + m.second }
