package calendar_test

import (
	"math/rand"
	"slices"
	"testing"

	"meridian/api"
	"meridian/calendar"
)

const (
	era    = 1 << 32
	gpsDay = 44244
	week   = 604800
	near   = 1000000000000
)

// zero is the second at which the GPS time begins, whether the table knows it or
// not.
func zero(t calendar.Table) int {
	n := 0
	for day := first; day < gpsDay; day++ {
		n += 86400 + stepOf(t, day)
	}
	return n
}

// P9.4: the encodings of seconds, by the chapter's words.
func TestEncodings(t *testing.T) {
	r := rand.New(rand.NewSource(5))
	for _, x := range tables(r) {
		begin := zero(x)
		for _, s := range spots(r, x) {
			if n, e := calendar.Unix(x, s.second); n != s.unix() || e != api.OK {
				t.Fatal(x, s, n, e)
			}
			ntp := s.unix() + 2208988800
			if n, e := calendar.ToNtp(x, s.second); n != (calendar.Ntp{Era: ntp / era, Second: ntp % era}) || e != api.OK {
				t.Fatal(x, s, n, e)
			}
			past := s.second - begin
			gps, want := calendar.Gps{Week: past / week % 1024, Second: past % week}, api.OK
			if s.day < gpsDay {
				gps, want = calendar.Gps{}, api.ErrNone
			}
			if g, e := calendar.ToGps(x, s.second); g != gps || e != want {
				t.Fatal(x, s, g, e)
			}
		}
	}
}

// P9.7: Atomic less what Unix counts from the beginning is the offset.
func TestAtomicAndUnix(t *testing.T) {
	r := rand.New(rand.NewSource(6))
	for _, x := range tables(r) {
		for _, s := range spots(r, x) {
			atomic := must[int](t)(calendar.Atomic(x, s.second))
			unix := must[int](t)(calendar.Unix(x, s.second))
			offset := must[int](t)(calendar.Offset(x, s.day))
			if atomic-(unix-63072000) != offset || offset != s.offset {
				t.Fatal(x, s, atomic, unix, offset)
			}
		}
	}
}

// P9.4, example 2: two seconds have one encoding.
func TestUnixExample(t *testing.T) {
	for _, n := range []int{15724800, 15724801} {
		if u, e := calendar.Unix(example(), n); u != 78796800 || e != api.OK {
			t.Error(n, u, e)
		}
	}
	for unix, want := range map[int][]int{
		78796799: {15724799}, 78796800: {15724800, 15724801}, 78796801: {15724802}, 94694400: {31622401, 31622402}, 63072000: {0},
	} {
		if l, e := calendar.FromUnix(example(), unix); !slices.Equal(l, want) || e != api.OK {
			t.Error(unix, l, e)
		}
		if l, e := calendar.FromNtp(example(), calendar.Ntp{Second: unix + 2208988800}); !slices.Equal(l, want) || e != api.OK {
			t.Error(unix, l, e)
		}
	}
}

// P9.4: where there is no second with an encoding: outside the table, and at a
// second 59 that is lacking. The second 60 of the last day has one of its own.
func TestNoUnix(t *testing.T) {
	for i, x := range []struct {
		t    calendar.Table
		unix int
		want []int
	}{
		{short(), 63072000 - 1, nil}, {short(), 63072000, []int{0}}, {short(), 0, nil}, {short(), 60, nil}, {short(), -1, nil}, {short(), -86400 * 40587, nil},
		{short(), 86400*(41348-40587) - 1, nil}, {short(), 86400*(41348-40587) - 2, []int{86400*31 - 2}}, {short(), 86400 * (41348 - 40587), []int{86400*31 - 1}},
		{short(), 86400*(41408-40587) - 1, []int{86400*91 - 1}}, {short(), 86400 * (41408 - 40587), []int{86400 * 91}}, {short(), 86400*(41408-40587) + 1, nil},
		{table(0, first+1), 63072000 + 86399, []int{86399}}, {table(0, first+1), 63072000 + 86400, nil},
		{table(0, last+1), 86400*(last+1-40587) - 1, []int{86400*(last+1-first) - 1}}, {table(0, last+1), 86400 * (last + 1 - 40587), nil},
		{table(0, last+1, leap(last, 1)), 86400 * (last + 1 - 40587), []int{86400 * (last + 1 - first)}},
	} {
		want := api.OK
		if x.want == nil {
			want = api.ErrNone
		}
		if l, e := calendar.FromUnix(x.t, x.unix); !slices.Equal(l, x.want) || e != want {
			t.Error(i, x, l, e)
		}
	}
	for _, unix := range far {
		if l, e := calendar.FromUnix(short(), unix); l != nil || e != api.ErrNone {
			t.Error(unix, l, e)
		}
	}
}

// P9.4, P9.7: all seconds with an encoding, and nothing else, by going through all
// seconds of a table.
func TestFromUnix(t *testing.T) {
	r := rand.New(rand.NewSource(7))
	for _, x := range []calendar.Table{short(), table(3, 41377, leap(41347, 1), leap(41376, -1)), table(3, 41377, leap(41376, 1))} {
		found := map[int][]int{}
		for range 100 {
			found[86400*(first-1-40587+r.Intn(x.Until-first+2))+r.Intn(5)-2] = nil
			found[86400*(first-40587)+r.Intn(86400*(x.Until-first))] = nil
		}
		for _, l := range x.Leaps {
			for n := -3; n <= 3; n++ {
				found[86400*(l.Day+1-40587)+n] = nil
			}
		}
		for s := range walk(x, everyDay) {
			if l, is := found[s.unix()]; is {
				found[s.unix()] = append(l, s.second)
			}
		}
		for unix, want := range found {
			wantError := api.OK
			if want == nil {
				wantError = api.ErrNone
			}
			if l, e := calendar.FromUnix(x, unix); !slices.Equal(l, want) || e != wantError {
				t.Error(x, unix, l, want, e)
			}
			if l, e := calendar.FromNtp(x, calendar.Ntp{Second: unix + 2208988800}); !slices.Equal(l, want) || e != wantError {
				t.Error(x, unix, l, want, e)
			}
		}
	}
}

// P9.7: what FromUnix and FromNtp return has the encoding that was asked for; the
// second that had it is among it.
func TestThereAndBack(t *testing.T) {
	r := rand.New(rand.NewSource(8))
	for _, x := range tables(r) {
		for _, s := range spots(r, x) {
			l, e := calendar.FromUnix(x, s.unix())
			ntp := must[calendar.Ntp](t)(calendar.ToNtp(x, s.second))
			l2, e2 := calendar.FromNtp(x, ntp)
			if !slices.Contains(l, s.second) || !slices.Equal(l, l2) || !slices.IsSorted(l) || len(l) > 2 || e != api.OK || e2 != api.OK {
				t.Fatal(x, s, l, l2, e, e2)
			}
			for _, n := range l {
				if unix, e := calendar.Unix(x, n); unix != s.unix() || e != api.OK {
					t.Fatal(x, s, n, unix, e)
				}
			}
		}
	}
}

// P9.4: the NTP time has two eras, and an era is no error for being far away.
func TestNtp(t *testing.T) {
	long := table(10, last+1)
	begin := must[int](t)(calendar.Seconds(long, date(2036, 2, 7, 6, 28, 16)))
	for _, x := range []struct {
		ntp    calendar.Ntp
		second int
		want   api.Errno
	}{
		{calendar.Ntp{Second: 2272060800}, 0, api.OK}, {calendar.Ntp{Second: era - 1}, begin - 1, api.OK}, {calendar.Ntp{Era: 1}, begin, api.OK}, {calendar.Ntp{Era: 1, Second: 5}, begin + 5, api.OK},
		{calendar.Ntp{}, 0, api.ErrNone}, {calendar.Ntp{Second: 2272060799}, 0, api.ErrNone}, {calendar.Ntp{Era: 2}, 0, api.ErrNone}, {calendar.Ntp{Era: 1000, Second: era - 1}, 0, api.ErrNone},
		{calendar.Ntp{Era: 1, Second: era - 1}, 0, api.ErrNone}, {calendar.Ntp{Era: 1, Second: 2272060800}, 0, api.ErrNone},
		{calendar.Ntp{Era: 1001}, 0, api.ErrRange}, {calendar.Ntp{Era: -1}, 0, api.ErrRange}, {calendar.Ntp{Second: era}, 0, api.ErrRange}, {calendar.Ntp{Second: -1}, 0, api.ErrRange},
		{calendar.Ntp{Era: 2, Second: -era}, 0, api.ErrRange}, {calendar.Ntp{Era: 1001, Second: era - 1}, 0, api.ErrRange},
	} {
		l, e := calendar.FromNtp(long, x.ntp)
		if e != x.want || e == api.OK && !slices.Equal(l, []int{x.second}) || e != api.OK && l != nil {
			t.Error(x, l, e)
		}
		if n, e := calendar.ToNtp(long, x.second); x.want == api.OK && (n != x.ntp || e != api.OK) {
			t.Error(x, n, e)
		}
	}
	for _, n := range far {
		for _, x := range []calendar.Ntp{{Era: n, Second: 2272060800}, {Second: n}, {Era: n, Second: n}} {
			if l, e := calendar.FromNtp(long, x); l != nil || e != api.ErrRange {
				t.Error(x, l, e)
			}
		}
	}
}

// P9.4, example 4: the GPS time begins again after 1024 weeks.
func TestGpsExample(t *testing.T) {
	long := table(19, last+1)
	begin := zero(long)
	for _, n := range []int{begin, begin + 1024*week, begin + 2048*week} {
		if g, e := calendar.ToGps(long, n); g != (calendar.Gps{}) || e != api.OK {
			t.Error(n, g, e)
		}
		for _, by := range []int{0, 1, -1, 512*week - 1, 1 - 512*week} {
			if x, e := calendar.FromGps(long, calendar.Gps{}, n+by); x != n || e != api.OK {
				t.Error(n, by, x, e)
			}
		}
	}
	for by, want := range map[int]int{-1: 0, 0: 0, 1: 1024 * week} { // of two, the earlier one
		if x, e := calendar.FromGps(long, calendar.Gps{}, begin+512*week+by); x != begin+want || e != api.OK {
			t.Error(by, x, e)
		}
	}
}

// P9.4: of all seconds with a GPS time, which are 1024 weeks from each other, the
// nearest one.
func TestFromGps(t *testing.T) {
	r := rand.New(rand.NewSource(9))
	for _, x := range tables(r) {
		total, begin := must[int](t)(calendar.Total(x)), zero(x)
		for range 200 {
			g := calendar.Gps{Week: r.Intn(1024), Second: r.Intn(week)}
			if r.Intn(2) == 0 {
				g.Week, g.Second = r.Intn(2)*1023, r.Intn(2)*(week-1)
			}
			to := r.Intn(3*total) - total
			var found []int
			for n := begin; n < total; n += week {
				if s := n + g.Second; s < total && (n-begin)/week%1024 == g.Week {
					found = append(found, s)
				}
			}
			best, want := 0, api.ErrNone
			for _, s := range found {
				if want != api.OK || max(s-to, to-s) < max(best-to, to-best) {
					best, want = s, api.OK
				}
			}
			n, e := calendar.FromGps(x, g, to)
			if n != best || e != want {
				t.Fatal(x, g, to, n, e, found)
			}
			if back, e := calendar.ToGps(x, n); want == api.OK && (back != g || e != api.OK) {
				t.Fatal(x, g, n, back, e)
			}
		}
	}
}

// P9.4: a leap is a second of the GPS time like any other, which goes on without
// a step.
func TestGpsLeap(t *testing.T) {
	x := table(19, 45000, leap(44238, 1), leap(44785, 1), leap(44969, -1)) // ends of 1979, of June 1981, of 1981
	begin := 86400*(gpsDay-first) + 1
	if g, e := calendar.ToGps(x, begin); g != (calendar.Gps{}) || e != api.OK {
		t.Error(g, e)
	}
	if g, e := calendar.ToGps(x, begin-1); g != (calendar.Gps{}) || e != api.ErrNone {
		t.Error(g, e)
	}
	n := must[int](t)(calendar.Seconds(x, date(1981, 6, 30, 23, 59, 60)))
	for by := -2; by <= 2; by++ {
		past := 86400*(44786-gpsDay) + by
		want := calendar.Gps{Week: past / week, Second: past % week}
		if g, e := calendar.ToGps(x, n+by); g != want || e != api.OK {
			t.Error(by, g, e)
		}
		if s, e := calendar.FromGps(x, want, 0); s != n+by || e != api.OK {
			t.Error(by, s, e)
		}
	}
}

// P9.4: the limits of FromGps.
func TestFromGpsLimits(t *testing.T) {
	long := table(19, last+1)
	final := zero(long) + 2048*week
	for i, x := range []struct {
		g          calendar.Gps
		near, want int
		e          api.Errno
	}{
		{calendar.Gps{}, near, zero(long) + 6*1024*week, api.OK}, {calendar.Gps{}, -near, zero(long), api.OK}, {calendar.Gps{}, final, final, api.OK},
		{calendar.Gps{Week: 1023, Second: week - 1}, -near, zero(long) + 1024*week - 1, api.OK},
		{calendar.Gps{}, near + 1, 0, api.ErrRange}, {calendar.Gps{}, -near - 1, 0, api.ErrRange},
		{calendar.Gps{Week: 1024}, 0, 0, api.ErrRange}, {calendar.Gps{Week: -1}, 0, 0, api.ErrRange}, {calendar.Gps{Second: week}, 0, 0, api.ErrRange}, {calendar.Gps{Second: -1}, 0, 0, api.ErrRange},
		{calendar.Gps{Week: 1, Second: -1}, 0, 0, api.ErrRange},
	} {
		if n, e := calendar.FromGps(long, x.g, x.near); n != x.want || e != x.e {
			t.Error(i, x, n, e)
		}
	}
	for _, n := range far {
		for _, x := range []calendar.Gps{{Week: n}, {Second: n}, {Week: n, Second: n}} {
			if s, e := calendar.FromGps(long, x, 0); s != 0 || e != api.ErrRange {
				t.Error(x, s, e)
			}
		}
		if s, e := calendar.FromGps(long, calendar.Gps{}, n); s != 0 || e != api.ErrRange {
			t.Error(n, s, e)
		}
	}
	for _, until := range []int{first + 1, gpsDay - 1, gpsDay} {
		x := table(0, until)
		for _, g := range []calendar.Gps{{}, {Second: 1}, {Week: 1023, Second: week - 1}} {
			if s, e := calendar.FromGps(x, g, 86400*(gpsDay-first)); s != 0 || e != api.ErrNone {
				t.Error(until, g, s, e)
			}
		}
	}
	if s, e := calendar.FromGps(table(0, gpsDay+1), calendar.Gps{Second: 86399}, 0); s != 86400*(gpsDay+1-first)-1 || e != api.OK {
		t.Error(s, e)
	}
	if s, e := calendar.FromGps(table(0, gpsDay+1), calendar.Gps{Second: 86400}, 0); s != 0 || e != api.ErrNone {
		t.Error(s, e)
	}
}
