package calendar

import (
	"meridian/api"
	"meridian/number"
)

// months has the days of each month, in a year without a 29 February.
var months = [...]int{31, 28, 31, 30, 31, 30, 31, 31, 30, 31, 30, 31}

// fourYears are the days of four years, of which the first one has a 29 February.
const fourYears = 1461

// Day returns the number of a day.
func Day(year, month, day int) (int, api.Errno) {
	if !number.Within(year, firstYear, lastYear) || !number.Within(month, 1, len(months)) ||
		!number.Within(day, 1, monthDays(year, month)) {
		return 0, api.ErrDate
	}
	n := newYear(year) + day - 1
	for m := 1; m < month; m++ {
		n += monthDays(year, m)
	}
	return n, api.OK
}

// Civil returns the year, the month and the day of a day.
func Civil(day int) (int, int, int, api.Errno) {
	if !isDay(day) {
		return 0, 0, 0, api.ErrRange
	}
	y, m, d := civil(day)
	return y, m, d, api.OK
}

// Weekday returns the weekday of a day.
func Weekday(day int) (int, api.Errno) {
	if !isDay(day) {
		return 0, api.ErrRange
	}
	return weekday(day), api.OK
}

// Week returns the year and the number of the week of a day.
func Week(day int) (int, int, api.Errno) {
	if !isDay(day) {
		return 0, 0, api.ErrRange
	}
	thursday := day - weekday(day) + 4 // it lies in the year of its week
	year := yearOf(thursday)
	return year, (thursday-newYear(year))/7 + 1, api.OK
}

func isDay(day int) bool { return number.Within(day, FirstDay, LastDay) }

func monthDays(year, month int) int {
	if month == 2 && year%4 == 0 {
		return 29
	}
	return months[month-1]
}

// newYear is the first day of a year. A quarter of the days of four years is no
// whole number; it is rounded up, as the longest of them comes first.
func newYear(year int) int { return FirstDay + number.Ceil(fourYears*(year-firstYear), 4) }

// yearOf is the last year that begins no later than a day.
func yearOf(day int) int { return firstYear + number.Floor(4*(day-FirstDay), fourYears) }

// civil is Civil for a day of the calendar.
func civil(day int) (int, int, int) {
	year, month := yearOf(day), 1
	rest := day - newYear(year)
	for rest >= monthDays(year, month) {
		rest -= monthDays(year, month)
		month++
	}
	return year, month, rest + 1
}

func weekday(day int) int { return (day-FirstDay+5)%7 + 1 }

// endOfMonth is the last day of the month of a day.
func endOfMonth(day int) int {
	y, m, d := civil(day)
	return day - d + monthDays(y, m)
}
