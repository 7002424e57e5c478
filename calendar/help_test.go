package calendar_test

import (
	"iter"
	"math"
	"math/rand"
	"slices"
	"testing"
	"time"

	"meridian/api"
	"meridian/calendar"
)

const (
	first = calendar.FirstDay
	last  = calendar.LastDay
)

// far are numbers that are allowed nowhere.
var far = []int{math.MinInt, math.MinInt + 1, -1 << 62, -1000000000001, 1 << 62, math.MaxInt - 1, math.MaxInt}

func leap(day, step int) calendar.Leap { return calendar.Leap{Day: day, Step: step} }

func table(base, until int, l ...calendar.Leap) calendar.Table {
	return calendar.Table{Base: base, Leaps: l, Until: until}
}

// example is the table of the chapter's second example.
func example() calendar.Table { return table(10, 42000, leap(41498, 1), leap(41682, 1)) }

// short has a leap of each Step, and ends with one.
func short() calendar.Table { return table(10, 41408, leap(41347, -1), leap(41376, 1), leap(41407, 1)) }

func date(year, month, day, hour, minute, second int) calendar.Date {
	return calendar.Date{Year: year, Month: month, Day: day, Hour: hour, Minute: minute, Second: second}
}

func change(at, offset int) calendar.Change { return calendar.Change{At: at, Offset: offset} }

func zone(offset int, l ...calendar.Change) calendar.Zone {
	return calendar.Zone{Offset: offset, Changes: l}
}

// midnight is the beginning of a day in a calendar that is not this package's.
func midnight(day int) time.Time { return time.Unix(int64(day-40587)*86400, 0).UTC() }

// monthEnds are the last days of all months.
func monthEnds() []int {
	var l []int
	for day := first; day <= last; day++ {
		if midnight(day+1).Day() == 1 {
			l = append(l, day)
		}
	}
	return l
}

// anyTable has up to 100 leaps, at the ends of any months.
func anyTable(r *rand.Rand) calendar.Table {
	ends := monthEnds()
	t := table(r.Intn(101), first+1+r.Intn(last-first+1))
	if r.Intn(2) == 0 {
		t.Until = ends[r.Intn(len(ends))] + 1
	}
	for len(ends) > 0 && ends[len(ends)-1] >= t.Until {
		ends = ends[:len(ends)-1]
	}
	at := r.Perm(len(ends))[:r.Intn(min(100, len(ends))+1)]
	slices.Sort(at)
	one := 1 - 2*r.Intn(2)
	for _, i := range at {
		if r.Intn(4) == 0 {
			one = -one
		}
		t.Leaps = append(t.Leaps, leap(ends[i], one))
	}
	return t
}

// tables are those that tests go through: ordinary ones, and the limits.
func tables(r *rand.Rand) []calendar.Table {
	l := []calendar.Table{example(), short(), table(0, first+1), table(100, last+1), table(7, 44244), table(7, 44245)}
	for _, step := range []int{1, -1} {
		var early, late []calendar.Leap
		for i, day := range monthEnds() {
			if i < 100 {
				early = append(early, leap(day, step))
			}
			if i >= 1436 {
				late = append(late, leap(day, step))
			}
		}
		l = append(l, table(0, last+1, early...), table(0, last+1, late...), table(99, early[99].Day+1, early...))
	}
	for range 6 {
		l = append(l, anyTable(r))
	}
	return l
}

// stepOf is the Step of the leap at the end of a day, if there is one.
func stepOf(t calendar.Table, day int) int {
	for _, l := range t.Leaps {
		if l.Day == day {
			return l.Step
		}
	}
	return 0
}

// spot is a second by the chapter's words.
type spot struct {
	second, day, offset int
	date                calendar.Date
}

func (s spot) unix() int {
	return 86400*(s.day-40587) + 3600*s.date.Hour + 60*s.date.Minute + s.date.Second
}

// clock is its minute, counted from day 0 on, and its second, as one number.
func (s spot) clock() int { return 100*(1440*s.day+60*s.date.Hour+s.date.Minute) + s.date.Second }

// dateOf is the date of a clock in a calendar that is not this package's.
func dateOf(clock int) calendar.Date {
	x := midnight(0).Add(time.Duration(clock/100) * time.Minute)
	return date(x.Year(), int(x.Month()), x.Day(), x.Hour(), x.Minute(), clock%100)
}

// walk goes through all seconds of the days that are wanted. It counts those of
// the other days without looking at them.
func walk(t calendar.Table, wanted func(day int) bool) iter.Seq[spot] {
	return func(yield func(spot) bool) {
		steps := map[int]int{}
		for _, l := range t.Leaps {
			steps[l.Day] = l.Step
		}
		second, offset := 0, t.Base
		for day := first; day < t.Until; day++ {
			step := steps[day]
			if wanted(day) {
				for s := range dayOf(day, step) {
					s.second += second
					s.offset = offset
					if !yield(s) {
						return
					}
				}
			}
			second += 86400 + step
			offset += step
		}
	}
}

// dayOf goes through all seconds of a day.
func dayOf(day, step int) iter.Seq[spot] {
	return func(yield func(spot) bool) {
		y, m, d := midnight(day).Date()
		count := 0
		for minute := range 1440 {
			seconds := 60
			if minute == 1439 {
				seconds += step
			}
			for s := range seconds {
				if !yield(spot{count, day, 0, date(y, int(m), d, minute/60, minute%60, s)}) {
					return
				}
				count++
			}
		}
	}
}

// everyDay wants all days.
func everyDay(int) bool { return true }

// spots are seconds that tests look at: those at the ends of days with a leap, of
// days beside them, of the first and the last one, and of others.
func spots(r *rand.Rand, t calendar.Table) []spot {
	days := []int{first, first + 1, t.Until - 2, t.Until - 1, 44243, 44244}
	for range 4 {
		days = append(days, first+r.Intn(t.Until-first))
		if len(t.Leaps) > 0 {
			day := t.Leaps[r.Intn(len(t.Leaps))].Day
			days = append(days, day-1, day, day+1)
		}
	}
	var l []spot
	for s := range walk(t, func(day int) bool { return slices.Contains(days, day) }) {
		of := 3600*s.date.Hour + 60*s.date.Minute + s.date.Second
		if of < 2 || of > 86396 || of == 60 || of == 3599 || r.Intn(10000) == 0 {
			l = append(l, s)
		}
	}
	return l
}

// must is what a call returned that has to have no error.
func must[T any](t *testing.T) func(x T, e api.Errno) T {
	return func(x T, e api.Errno) T {
		t.Helper()
		if e != api.OK {
			t.Fatal(x, e)
		}
		return x
	}
}

// sameTable reports whether two tables are the same value.
func sameTable(a, b calendar.Table) bool {
	return a.Base == b.Base && a.Until == b.Until && slices.Equal(a.Leaps, b.Leaps)
}
