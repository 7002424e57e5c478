package calendar_test

import (
	"testing"
	"time"

	"meridian/api"
	"meridian/calendar"
)

// P9.1: the chapter's limits.
func TestConstants(t *testing.T) {
	for i, n := range []int{calendar.FirstDay - 41317, calendar.LastDay - 88068, calendar.MaxLeaps - 100, calendar.MaxChanges - 200} {
		if n != 0 {
			t.Error(i, n)
		}
	}
}

// P9.1, P9.7: all days from 1972 to 2099, without a gap, as another calendar has
// them.
func TestAllDays(t *testing.T) {
	for n := first; n <= last; n++ {
		y, m, d := midnight(n).Date()
		if x, e := calendar.Day(y, int(m), d); x != n || e != api.OK {
			t.Error(y, m, d, x, e)
		}
		if year, month, day, e := calendar.Civil(n); year != y || month != int(m) || day != d || e != api.OK {
			t.Error(n, year, month, day, e)
		}
		weekday := int(midnight(n).Weekday()+6)%7 + 1
		if x, e := calendar.Weekday(n); x != weekday || e != api.OK {
			t.Error(n, x, e)
		}
		y, week := midnight(n).ISOWeek()
		if year, x, e := calendar.Week(n); year != y || x != week || e != api.OK {
			t.Error(n, year, x, e)
		}
	}
}

// P9.1, example 1.
func TestDayExample(t *testing.T) {
	if n, e := calendar.Day(2000, 1, 1); n != 51544 || e != api.OK {
		t.Error(n, e)
	}
	if n, e := calendar.Weekday(51544); n != 6 || e != api.OK {
		t.Error(n, e)
	}
	if y, n, e := calendar.Week(51544); y != 1999 || n != 52 || e != api.OK {
		t.Error(y, n, e)
	}
	if n, e := calendar.Day(1900, 1, 1); n != 0 || e != api.ErrDate {
		t.Error(n, e)
	}
}

// P9.1: the first days of 1972 are of a week of 1971, the last ones of 2099 of its
// own 53rd.
func TestWeeksAtTheEnds(t *testing.T) {
	for _, x := range []struct{ day, year, week int }{
		{first, 1971, 52}, {first + 1, 1971, 52}, {first + 2, 1972, 1}, {first + 8, 1972, 1}, {first + 9, 1972, 2},
		{58482, 2018, 52}, {58483, 2019, 1}, {59214, 2020, 53}, {59217, 2020, 53}, {59218, 2021, 1}, {last - 3, 2099, 53}, {last, 2099, 53},
	} {
		if y, n, e := calendar.Week(x.day); y != x.year || n != x.week || e != api.OK {
			t.Error(x, y, n, e)
		}
	}
}

// P9.1: a day exists if its date stays as it is in another calendar.
func TestWhichDaysExist(t *testing.T) {
	for year := 1970; year <= 2101; year++ {
		for month := -1; month <= 14; month++ {
			for day := -1; day <= 33; day++ {
				y, m, d := time.Date(year, time.Month(month), day, 0, 0, 0, 0, time.UTC).Date()
				want := api.OK
				if y != year || int(m) != month || d != day || year < 1972 || year > 2099 {
					want = api.ErrDate
				}
				if n, e := calendar.Day(year, month, day); e != want || (n == 0) != (want != api.OK) {
					t.Error(year, month, day, n, e)
				}
			}
		}
	}
	for _, n := range append(far, 0, 72, 99) {
		for _, x := range [][3]int{{n, 1, 1}, {2000, n, 1}, {2000, 1, n}, {n, n, n}, {2000, n, n}} {
			if day, e := calendar.Day(x[0], x[1], x[2]); day != 0 || e != api.ErrDate {
				t.Error(x, day, e)
			}
		}
	}
}

// P9.1: days that are not in the calendar.
func TestDaysOutside(t *testing.T) {
	for _, n := range append(far, 0, -1, first-365, first-1, last+1, last+365) {
		if y, m, d, e := calendar.Civil(n); y != 0 || m != 0 || d != 0 || e != api.ErrRange {
			t.Error(n, y, m, d, e)
		}
		if x, e := calendar.Weekday(n); x != 0 || e != api.ErrRange {
			t.Error(n, x, e)
		}
		if y, x, e := calendar.Week(n); y != 0 || x != 0 || e != api.ErrRange {
			t.Error(n, y, x, e)
		}
	}
}
