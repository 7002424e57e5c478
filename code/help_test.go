package code_test

import (
	"iter"
	"math"
	"math/rand"
	"slices"
	"testing"
	"time"

	"meridian/api"
	"meridian/calendar"
	"meridian/code"
)

const (
	first = calendar.FirstDay
	last  = calendar.LastDay
)

// far are numbers that are allowed nowhere.
var far = []int{math.MinInt, math.MinInt + 1, -1 << 62, -1000000000000001, 1 << 62, math.MaxInt - 1, math.MaxInt}

func leap(day, step int) calendar.Leap { return calendar.Leap{Day: day, Step: step} }

func table(base, until int, l ...calendar.Leap) calendar.Table {
	return calendar.Table{Base: base, Leaps: l, Until: until}
}

// example is the table of the examples of layers 9 and 10.
func example() calendar.Table { return table(10, 42000, leap(41498, 1), leap(41682, 1)) }

// short has a leap of each Step, and ends with one.
func short() calendar.Table { return table(10, 41408, leap(41347, -1), leap(41376, 1), leap(41407, 1)) }

// broken are tables that are not valid, with the errors of calendar.Check.
func broken() map[api.Errno]calendar.Table {
	return map[api.Errno]calendar.Table{
		api.ErrRange: table(101, 42000),
		api.ErrMany:  table(10, 42000, make([]calendar.Leap, 101)...),
		api.ErrLeap:  table(10, 42000, leap(41347, 0)),
		api.ErrOrder: table(10, 42000, leap(41376, 1), leap(41347, 1)),
	}
}

func date(year, month, day, hour, minute, second int) calendar.Date {
	return calendar.Date{Year: year, Month: month, Day: day, Hour: hour, Minute: minute, Second: second}
}

// midnight is the beginning of a day in a calendar that is not the project's.
func midnight(day int) time.Time { return time.Unix(int64(day-40587)*86400, 0).UTC() }

// monthEnds are the last days of all months.
func monthEnds() []int {
	var l []int
	for day := first; day <= last; day++ {
		if midnight(day+1).Day() == 1 {
			l = append(l, day)
		}
	}
	return l
}

// anyTable has up to 100 leaps, at the ends of any months.
func anyTable(r *rand.Rand) calendar.Table {
	ends := monthEnds()
	t := table(r.Intn(101), first+1+r.Intn(last-first+1))
	if r.Intn(2) == 0 {
		t.Until = ends[r.Intn(len(ends))] + 1
	}
	for len(ends) > 0 && ends[len(ends)-1] >= t.Until {
		ends = ends[:len(ends)-1]
	}
	at := r.Perm(len(ends))[:r.Intn(min(100, len(ends))+1)]
	slices.Sort(at)
	one := 1 - 2*r.Intn(2)
	for _, i := range at {
		if r.Intn(4) == 0 {
			one = -one
		}
		t.Leaps = append(t.Leaps, leap(ends[i], one))
	}
	return t
}

// tables are those that tests go through: ordinary ones, the limits, and one whose
// offset falls below 0 and comes back.
func tables(r *rand.Rand) []calendar.Table {
	l := []calendar.Table{example(), short(), table(0, first+1), table(100, last+1), table(0, last+1, leap(last, 1))}
	l = append(l, table(1, 42000, leap(41347, -1), leap(41376, -1), leap(41407, -1), leap(41437, 1), leap(41468, 1)))
	for _, step := range []int{1, -1} {
		var early []calendar.Leap
		for _, day := range monthEnds()[:100] {
			early = append(early, leap(day, step))
		}
		l = append(l, table(100, last+1, early...), table(99, early[99].Day+1, early...))
	}
	for range 6 {
		l = append(l, anyTable(r))
	}
	return l
}

// spot is a minute by the chapter's words.
type spot struct {
	first, length int
	day           int
	told          code.Told
}

// walk goes through all minutes of the days that are wanted.
func walk(t calendar.Table, wanted func(day int) bool) iter.Seq[spot] {
	return func(yield func(spot) bool) {
		steps := map[int]int{}
		for _, l := range t.Leaps {
			steps[l.Day] = l.Step
		}
		second, offset := 0, t.Base
		for day := first; day < t.Until; day++ {
			if wanted(day) {
				y, m, d := midnight(day).Date()
				end := int(time.Date(y, m+1, 0, 0, 0, 0, 0, time.UTC).Unix())/86400 + 40587
				for n := range 1440 {
					s := spot{second + 60*n, 60, day, code.Told{Date: date(y, int(m), d, n/60, n%60, 0), Leap: steps[end], Offset: offset}}
					if n == 1439 {
						s.length += steps[day]
					}
					if !yield(s) {
						return
					}
				}
			}
			second += 86400 + steps[day]
			offset += steps[day]
		}
	}
}

// pair is a minute and the one that follows.
type pair struct{ this, next spot }

// pairs are minutes that tests look at, with the ones that follow them: at the
// ends of days with a leap, of days beside them, of the first and the last one, at
// the end of 2071, and others. The last minute of a table is not among them.
func pairs(r *rand.Rand, t calendar.Table) []pair {
	days := []int{first, first + 1, t.Until - 2, t.Until - 1, 77840, 77841, 77842, 51543, 51544}
	for range 5 {
		days = append(days, first+r.Intn(t.Until-first))
		if len(t.Leaps) > 0 {
			day := t.Leaps[r.Intn(len(t.Leaps))].Day
			days = append(days, day-1, day, day+1)
		}
	}
	var l []pair
	var before spot
	for s := range walk(t, func(day int) bool { return slices.Contains(days, day) }) {
		n := 60*s.told.Date.Hour + s.told.Date.Minute
		if before.length > 0 && before.first+before.length == s.first && (n < 2 || n > 1437 || n == 600 || r.Intn(300) == 0) {
			l = append(l, pair{before, s})
		}
		before = s
	}
	return l
}

// must is what a call returned that has to have no error.
func must[T any](t *testing.T) func(x T, e api.Errno) T {
	return func(x T, e api.Errno) T {
		t.Helper()
		if e != api.OK {
			t.Fatal(x, e)
		}
		return x
	}
}

// total is how many seconds a table knows.
func total(t calendar.Table) int {
	n, _ := calendar.Total(t)
	return n
}

// weekdayOf is the weekday of a date, from 1 for Monday to 7.
func weekdayOf(d calendar.Date) int {
	return (int(time.Date(d.Year, time.Month(d.Month), d.Day, 0, 0, 0, 0, time.UTC).Weekday())+6)%7 + 1
}

// isDay reports whether there is a day.
func isDay(year, month, day int) bool {
	y, m, d := time.Date(year, time.Month(month), day, 0, 0, 0, 0, time.UTC).Date()
	return y == year && int(m) == month && d == day
}
