package calendar_test

import (
	"math/rand"
	"slices"
	"testing"

	"meridian/api"
	"meridian/calendar"
)

// P9.2: tables that are valid, at their limits.
func TestValidTables(t *testing.T) {
	for i, x := range append(tables(rand.New(rand.NewSource(1))),
		table(0, first+1), table(100, first+1), table(0, last+1), table(100, last+1),
		table(0, 41348, leap(41347, 1)), table(0, last+1, leap(last, -1)), table(0, 41377, leap(41347, -1), leap(41376, -1)),
		calendar.Table{Base: 10, Until: first + 1, Leaps: []calendar.Leap{}},
	) {
		if e := calendar.Check(x); e != api.OK {
			t.Error(i, x, e)
		}
	}
}

// P9.2, R1: the errors of Check, in their order.
func TestCheck(t *testing.T) {
	many := slices.Repeat([]calendar.Leap{leap(41347, 1)}, 101)
	for _, n := range far {
		for _, x := range []struct {
			t    calendar.Table
			want api.Errno
		}{
			{table(n, 42000), api.ErrRange}, {table(0, n), api.ErrRange}, {table(n, n, many...), api.ErrRange},
			{table(0, 42000, leap(41347, n)), api.ErrLeap}, {table(0, 42000, leap(n, 1)), api.ErrRange}, {table(0, 42000, leap(n, n)), api.ErrLeap},
		} {
			if e := calendar.Check(x.t); e != x.want {
				t.Error(n, x, e)
			}
		}
	}
	for i, x := range []struct {
		t    calendar.Table
		want api.Errno
	}{
		{calendar.Table{}, api.ErrRange},
		{table(-1, 42000), api.ErrRange}, {table(101, 42000), api.ErrRange},
		{table(0, first), api.ErrRange}, {table(0, first-1), api.ErrRange}, {table(0, last+2), api.ErrRange}, {table(0, 0), api.ErrRange},
		{table(101, 42000, many...), api.ErrRange}, {table(0, first, leap(0, 0)), api.ErrRange},
		{table(0, 42000, many...), api.ErrMany}, {table(0, 42000, make([]calendar.Leap, 101)...), api.ErrMany}, {table(0, 42000, many[1:]...), api.ErrOrder},
		{table(0, 42000, leap(41347, 0)), api.ErrLeap}, {table(0, 42000, leap(41347, 2)), api.ErrLeap}, {table(0, 42000, leap(41347, -2)), api.ErrLeap},
		{table(0, 42000, leap(41346, 1)), api.ErrLeap}, {table(0, 42000, leap(41348, 1)), api.ErrLeap}, {table(0, 42000, leap(41317, -1)), api.ErrLeap},
		{table(0, 42000, leap(41375, 1)), api.ErrLeap}, {table(0, 42000, leap(41376, 1)), api.OK}, // 1972 has a 29 February,
		{table(0, 42000, leap(41741, 1)), api.OK}, {table(0, 42000, leap(41742, 1)), api.ErrLeap}, // and 1973 has not
		{table(0, 42000, leap(first-1, 1)), api.ErrRange}, {table(0, last+1, leap(last+1, 1)), api.ErrRange}, {table(0, last+1, leap(last+31, 1)), api.ErrRange},
		{table(0, 41347, leap(41347, 1)), api.ErrRange}, {table(0, 41346, leap(41347, 1)), api.ErrRange}, {table(0, 41346, leap(41348, 1)), api.ErrLeap},
		{table(0, 42000, leap(first-1, 0)), api.ErrLeap}, {table(0, 42000, leap(last+1, 0)), api.ErrLeap}, {table(0, 42000, leap(last, 1)), api.ErrRange}, {table(0, 42000, leap(last-1, 1)), api.ErrLeap},
		{table(0, 42000, leap(41347, 1), leap(41347, 1)), api.ErrOrder}, {table(0, 42000, leap(41376, 1), leap(41347, 1)), api.ErrOrder},
		{table(0, 42000, leap(41376, 1), leap(41347, 0)), api.ErrLeap}, {table(0, 42000, leap(41376, 1), leap(first-1, 1)), api.ErrRange},
		{table(0, 42000, leap(41376, 1), leap(41347, 1), leap(41348, 1)), api.ErrOrder}, {table(0, 42000, leap(41376, 1), leap(41348, 1), leap(41347, 1)), api.ErrLeap},
		{table(0, 42000, leap(41347, 1), leap(last, 1), leap(41347, 0)), api.ErrRange},
	} {
		if e := calendar.Check(x.t); e != x.want {
			t.Error(i, x.t, e, x.want)
		}
		if n, e := calendar.Total(x.t); e != x.want || e != api.OK && n != 0 {
			t.Error(i, x.t, n, e)
		}
	}
}

// P9.2, P9.7: what Length, Offset and Total say is what the days add up to.
func TestLengths(t *testing.T) {
	for _, x := range tables(rand.New(rand.NewSource(2))) {
		total, offset := 0, x.Base
		for day := first; day < x.Until; day++ {
			if step := stepOf(x, day); step != 0 || day%97 == 0 || day < first+3 || day > x.Until-3 || stepOf(x, day-1) != 0 {
				if n, e := calendar.Length(x, day); n != 86400+step || e != api.OK {
					t.Fatal(x, day, n, e)
				}
				if n, e := calendar.Offset(x, day); n != offset || e != api.OK {
					t.Fatal(x, day, n, e)
				}
			}
			total += 86400 + stepOf(x, day)
			offset += stepOf(x, day)
		}
		if n, e := calendar.Total(x); n != total || e != api.OK {
			t.Error(x, n, total, e)
		}
	}
}

// P9.2, P9.3, example 2.
func TestTableExample(t *testing.T) {
	for _, x := range []struct {
		d    calendar.Date
		want int
	}{
		{date(1972, 1, 1, 0, 0, 0), 0}, {date(1972, 6, 30, 23, 59, 59), 15724799}, {date(1972, 6, 30, 23, 59, 60), 15724800}, {date(1972, 7, 1, 0, 0, 0), 15724801},
	} {
		if n, e := calendar.Seconds(example(), x.d); n != x.want || e != api.OK {
			t.Error(x, n, e)
		}
		if d, e := calendar.Dates(example(), x.want); d != x.d || e != api.OK {
			t.Error(x, d, e)
		}
	}
	for day, want := range map[int]int{41317: 10, 41498: 10, 41499: 11, 41682: 11, 41683: 12, 41999: 12} {
		if n, e := calendar.Offset(example(), day); n != want || e != api.OK {
			t.Error(day, n, e)
		}
	}
}

// P9.3, P9.7: what is said of a second, by the chapter's words; Seconds and Dates
// are inverse to each other.
func TestSeconds(t *testing.T) {
	r := rand.New(rand.NewSource(3))
	for _, x := range tables(r) {
		for _, s := range spots(r, x) {
			if n, e := calendar.Seconds(x, s.date); n != s.second || e != api.OK {
				t.Fatal(x, s, n, e)
			}
			if d, e := calendar.Dates(x, s.second); d != s.date || e != api.OK {
				t.Fatal(x, s, d, e)
			}
			if n, e := calendar.Atomic(x, s.second); n != s.second+x.Base || e != api.OK {
				t.Fatal(x, s, n, e)
			}
			if n, e := calendar.Announced(x, s.second); n != announced(x, s.day) || e != api.OK {
				t.Fatal(x, s, n, e)
			}
		}
	}
}

// announced is the Step of the leap in the month of a day.
func announced(t calendar.Table, day int) int {
	for midnight(day+1).Day() != 1 {
		day++
	}
	return stepOf(t, day)
}

// P9.3, P9.7: each second of a table has a date of its own, and they keep the
// order.
func TestEachSecond(t *testing.T) {
	x := short()
	count := 0
	for s := range walk(x, everyDay) {
		if s.second != count {
			t.Fatal(s, count)
		}
		count++
		if s.second%101 > 0 && s.second%86400 > 10 { // the others are enough
			continue
		}
		if d, e := calendar.Dates(x, s.second); d != s.date || e != api.OK {
			t.Fatal(s, d, e)
		}
	}
	if n := must[int](t)(calendar.Total(x)); n != count {
		t.Error(n, count)
	}
}

// P9.3: the Step is announced in the whole month, the leap included, and no longer.
func TestAnnounced(t *testing.T) {
	for _, x := range []struct {
		d    calendar.Date
		want int
	}{
		{date(1972, 1, 1, 0, 0, 0), -1}, {date(1972, 1, 31, 23, 59, 58), -1}, {date(1972, 2, 1, 0, 0, 0), 1}, {date(1972, 2, 29, 23, 59, 60), 1},
		{date(1972, 3, 1, 0, 0, 0), 1}, {date(1972, 3, 31, 23, 59, 60), 1},
	} {
		n := must[int](t)(calendar.Seconds(short(), x.d))
		if step, e := calendar.Announced(short(), n); step != x.want || e != api.OK {
			t.Error(x, step, e)
		}
	}
	cut := table(10, 41407, short().Leaps[:2]...) // the last day of March is not known
	n := must[int](t)(calendar.Seconds(cut, date(1972, 3, 30, 23, 59, 59)))
	if step, e := calendar.Announced(cut, n); step != 0 || e != api.OK {
		t.Error(step, e)
	}
	if step, e := calendar.Announced(table(0, last+1, leap(last, -1)), 86400*(last-first)); step != -1 || e != api.OK {
		t.Error(step, e)
	}
}

// P9.3: dates that are not valid for a table.
func TestNoSecond(t *testing.T) {
	for i, d := range []calendar.Date{
		{}, date(1972, 1, 31, 23, 59, 59), date(1972, 1, 31, 23, 59, 60), date(1972, 1, 31, 23, 58, 60), date(1972, 1, 1, 23, 59, 60), date(1972, 2, 29, 23, 59, 61),
		date(1972, 2, 29, 23, 58, 60), date(1972, 2, 29, 22, 59, 60), date(1972, 2, 29, 0, 0, 60), date(1972, 3, 1, 0, 0, 60), date(1972, 2, 28, 23, 59, 60),
		date(1972, 2, 30, 0, 0, 0), date(1971, 12, 31, 23, 59, 59), date(1972, 4, 1, 0, 0, 0), date(1972, 3, 31, 23, 59, 61), date(1973, 1, 1, 0, 0, 0), date(2100, 1, 1, 0, 0, 0),
		date(1972, 1, 1, 24, 0, 0), date(1972, 1, 1, -1, 0, 0), date(1972, 1, 1, 0, 60, 0), date(1972, 1, 1, 0, -1, 0), date(1972, 1, 1, 0, 0, -1), date(1972, 1, 2, 0, 0, -1),
		date(1972, 1, 2, 0, -1, 0), date(1972, 1, 2, -1, 0, 0), date(1972, 0, 1, 0, 0, 0), date(1972, 1, 0, 0, 0, 0), date(1972, 13, 1, 0, 0, 0),
	} {
		if n, e := calendar.Seconds(short(), d); n != 0 || e != api.ErrDate {
			t.Error(i, d, n, e)
		}
	}
	for _, n := range far {
		for _, d := range []calendar.Date{date(n, 1, 1, 0, 0, 0), date(1972, n, 1, 0, 0, 0), date(1972, 1, n, 0, 0, 0), date(1972, 1, 1, n, 0, 0), date(1972, 1, 1, 0, n, 0), date(1972, 1, 1, 0, 0, n)} {
			if n, e := calendar.Seconds(short(), d); n != 0 || e != api.ErrDate {
				t.Error(d, n, e)
			}
		}
	}
	for _, x := range []calendar.Date{date(1972, 1, 31, 23, 59, 58), date(1972, 1, 31, 23, 58, 59), date(1972, 2, 29, 23, 59, 60), date(1972, 3, 31, 23, 59, 60)} {
		if _, e := calendar.Seconds(short(), x); e != api.OK {
			t.Error(x, e)
		}
	}
}

// P9.6: the longer table, if it says the same as far as the other one knows.
func TestExtend(t *testing.T) {
	jan, feb, mar := leap(41347, -1), leap(41376, 1), leap(41407, 1)
	for i, x := range []struct {
		a, b calendar.Table
		want api.Errno
	}{
		{table(10, 41400, jan, feb), short(), api.OK}, {short(), short(), api.OK}, {table(10, 41347), short(), api.OK}, {table(10, 41348, jan), short(), api.OK},
		{table(10, first+1), table(10, last+1), api.OK}, {table(10, 41400, jan, feb), table(10, 41401, jan, feb), api.OK},
		{table(10, 41407, jan, feb), short(), api.OK}, {table(10, 41408, jan, feb), short(), api.ErrLeap}, {table(10, 41348), short(), api.ErrLeap},
		{table(10, 41400, jan), short(), api.ErrLeap}, {table(10, 41400, feb), short(), api.ErrLeap}, {table(10, 41400, leap(41347, 1), feb), short(), api.ErrLeap},
		{short(), table(10, 41408, jan, feb), api.ErrLeap}, {short(), table(10, 50000, jan, feb), api.ErrLeap}, {short(), table(10, 50000, feb, mar), api.ErrLeap}, {short(), table(10, 50000), api.ErrLeap},
		{table(9, 41400, jan, feb), short(), api.ErrLeap}, {table(11, 41347), short(), api.ErrLeap},
		{short(), table(10, 41407, jan, feb), api.ErrState}, {short(), table(11, 41407), api.ErrState}, {table(10, last+1), table(10, last), api.ErrState},
		{table(10, first), table(101, 41408), api.ErrRange}, {table(10, 41400, leap(41348, 1)), table(101, 41400), api.ErrLeap}, {short(), table(101, 41407), api.ErrRange},
		{short(), table(10, 41407, leap(41347, 0)), api.ErrLeap}, {short(), table(10, 41407, make([]calendar.Leap, 101)...), api.ErrMany}, {short(), table(10, 41407, feb, jan), api.ErrOrder},
	} {
		want := x.b
		if x.want != api.OK {
			want = calendar.Table{}
		}
		if c, e := calendar.Extend(x.a, x.b); !sameTable(c, want) || e != x.want {
			t.Error(i, c, e, x.want)
		}
	}
}

// P9.7: a table that is extended says the same of all seconds that the first one
// knows.
func TestExtendSaysTheSame(t *testing.T) {
	r := rand.New(rand.NewSource(4))
	for range 12 {
		b := anyTable(r)
		a := table(b.Base, first+1+r.Intn(b.Until-first))
		for _, l := range b.Leaps {
			if l.Day < a.Until {
				a.Leaps = append(a.Leaps, l)
			}
		}
		c, e := calendar.Extend(a, b)
		if e != api.OK || !sameTable(c, b) {
			t.Fatal(a, b, c, e)
		}
		for _, s := range spots(r, a) {
			if d, e := calendar.Dates(c, s.second); d != s.date || e != api.OK {
				t.Fatal(a, b, s, d, e)
			}
			if n, e := calendar.Offset(c, s.day); n != s.offset || e != api.OK {
				t.Fatal(a, b, s, n, e)
			}
		}
	}
}
