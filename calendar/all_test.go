package calendar_test

import (
	"math"
	"math/rand"
	"slices"
	"testing"

	"meridian/api"
	"meridian/calendar"
)

// outcome is what a call returned: its error, and whether all else was zero.
type outcome struct {
	call string
	e    api.Errno
	zero bool
}

// outcomes are those of several calls.
type outcomes struct{ l []outcome }

func (o *outcomes) add(call string, e api.Errno, zero bool) {
	o.l = append(o.l, outcome{call, e, zero})
}

// ofSeconds calls all functions that take a table and a second.
func ofSeconds(t calendar.Table, second int) []outcome {
	var o outcomes
	d, e := calendar.Dates(t, second)
	o.add("Dates", e, d == calendar.Date{})
	n, e := calendar.Atomic(t, second)
	o.add("Atomic", e, n == 0)
	n, e = calendar.Announced(t, second)
	o.add("Announced", e, n == 0)
	n, e = calendar.Unix(t, second)
	o.add("Unix", e, n == 0)
	ntp, e := calendar.ToNtp(t, second)
	o.add("ToNtp", e, ntp == calendar.Ntp{})
	gps, e := calendar.ToGps(t, second)
	o.add("ToGps", e, gps == calendar.Gps{})
	d, n, e = calendar.Local(t, zone(0), second)
	o.add("Local", e, d == calendar.Date{} && n == 0)
	return o.l
}

// ofDays calls all functions that take a table and a day.
func ofDays(t calendar.Table, day int) []outcome {
	var o outcomes
	n, e := calendar.Length(t, day)
	o.add("Length", e, n == 0)
	n, e = calendar.Offset(t, day)
	o.add("Offset", e, n == 0)
	return o.l
}

// ofOthers calls all other functions that take a table, with arguments that are not
// allowed.
func ofOthers(t calendar.Table) []outcome {
	var o outcomes
	n, e := calendar.Total(t)
	o.add("Total", e, n == 0)
	n, e = calendar.Seconds(t, calendar.Date{})
	o.add("Seconds", e, n == 0)
	l, e := calendar.FromUnix(t, -1)
	o.add("FromUnix", e, l == nil)
	l, e = calendar.FromNtp(t, calendar.Ntp{Era: -1})
	o.add("FromNtp", e, l == nil)
	n, e = calendar.FromGps(t, calendar.Gps{Week: -1}, near+1)
	o.add("FromGps", e, n == 0)
	d, n, e := calendar.Local(t, zone(0, make([]calendar.Change, 201)...), -1)
	o.add("Local", e, d == calendar.Date{} && n == 0)
	l, e = calendar.FromLocal(t, zone(0, make([]calendar.Change, 201)...), calendar.Date{})
	o.add("FromLocal", e, l == nil)
	x, e := calendar.Extend(t, table(101, 0))
	o.add("Extend", e, sameTable(x, calendar.Table{}))
	return o.l
}

// P9.2 to P9.6, R1, R2: the error of Check comes first, and with it there is
// nothing else.
func TestTableErrorsFirst(t *testing.T) {
	for _, x := range []struct {
		t    calendar.Table
		want api.Errno
	}{
		{table(101, 42000), api.ErrRange}, {table(10, 42000, make([]calendar.Leap, 101)...), api.ErrMany},
		{table(10, 42000, leap(41347, 0)), api.ErrLeap}, {table(10, 42000, leap(41376, 1), leap(41347, 1)), api.ErrOrder},
	} {
		l := slices.Concat(ofOthers(x.t), ofSeconds(x.t, 5), ofSeconds(x.t, -1), ofDays(x.t, first), ofDays(x.t, first-1))
		if len(l) != 26 {
			t.Fatal(l)
		}
		for _, o := range l {
			if o.e != x.want || !o.zero {
				t.Error(x, o)
			}
		}
	}
}

// P9.2 to P9.5, R2: seconds and days that a table does not know.
func TestNotKnown(t *testing.T) {
	for _, x := range []calendar.Table{short(), table(10, first+1), table(10, last+1)} {
		total := must[int](t)(calendar.Total(x))
		for _, second := range append(far, -1, total, total+1, total+86400) {
			for _, o := range ofSeconds(x, second) {
				if o.e != api.ErrRange || !o.zero {
					t.Error(x, second, o)
				}
			}
		}
		for _, second := range []int{0, total - 1} {
			for _, o := range ofSeconds(x, second) {
				if want := o.call == "ToGps" && x.Until <= gpsDay || o.call == "ToGps" && second == 0; o.e != api.OK != want {
					t.Error(x, second, o)
				}
			}
		}
		for _, day := range append(far, 0, first-1, x.Until, x.Until+1) {
			for _, o := range ofDays(x, day) {
				if o.e != api.ErrRange || !o.zero {
					t.Error(x, day, o)
				}
			}
		}
		for _, day := range []int{first, x.Until - 1} {
			for _, o := range ofDays(x, day) {
				if o.e != api.OK {
					t.Error(x, day, o)
				}
			}
		}
	}
}

// P9.3, P9.7: Seconds and Dates keep the order, and are inverse to each other at
// any second.
func TestInverse(t *testing.T) {
	r := rand.New(rand.NewSource(13))
	for _, x := range tables(r) {
		total := must[int](t)(calendar.Total(x))
		before, dateBefore := -1, calendar.Date{}
		for second := 0; second < total; second += 1 + r.Intn(total/500) {
			d := must[calendar.Date](t)(calendar.Dates(x, second))
			if n := must[int](t)(calendar.Seconds(x, d)); n != second {
				t.Fatal(x, second, d, n)
			}
			a := []int{dateBefore.Year, dateBefore.Month, dateBefore.Day, dateBefore.Hour, dateBefore.Minute, dateBefore.Second}
			if slices.Compare(a, []int{d.Year, d.Month, d.Day, d.Hour, d.Minute, d.Second}) >= 0 {
				t.Fatal(x, before, dateBefore, second, d)
			}
			before, dateBefore = second, d
		}
	}
}

// R4: no argument is changed, and a result shares no memory with one.
func TestMemory(t *testing.T) {
	leaps := append(short().Leaps, leap(7, 7))[:3]
	b := calendar.Table{Base: 10, Leaps: leaps, Until: 41408}
	x, e := calendar.Extend(b, b)
	if e != api.OK || !sameTable(x, short()) {
		t.Fatal(x, e)
	}
	_ = append(x.Leaps, leap(9, 9))
	x.Leaps[0].Step, x.Leaps[2].Day = 5, 5
	if !sameTable(b, short()) || leaps[:4][3] != leap(7, 7) {
		t.Error("Extend shares memory", leaps[:4])
	}
	changes := []calendar.Change{change(86400, 120), change(172800, 60)}
	z := calendar.Zone{Offset: 60, Changes: changes}
	ofSeconds(b, 86400)
	ofDays(b, first)
	ofOthers(b)
	calendar.CheckZone(z)
	calendar.Local(b, z, 172800)
	l, _ := calendar.FromLocal(b, z, date(1972, 1, 3, 1, 30, 0))
	if !slices.Equal(l, []int{171000, 174600}) || !sameTable(b, short()) || !slices.Equal(changes, []calendar.Change{change(86400, 120), change(172800, 60)}) {
		t.Error("an argument is changed", l, b, changes)
	}
}

// R3: a nil list and an empty one are the same value.
func TestNilAndEmpty(t *testing.T) {
	a, b := table(10, 42000), calendar.Table{Base: 10, Leaps: []calendar.Leap{}, Until: 42000}
	for _, x := range [][2]calendar.Table{{a, b}, {b, a}, {b, b}} {
		if c, e := calendar.Extend(x[0], x[1]); !sameTable(c, a) || e != api.OK {
			t.Error(x, c, e)
		}
	}
	for _, x := range []calendar.Zone{zone(60), {Offset: 60, Changes: []calendar.Change{}}} {
		if l, e := calendar.FromLocal(b, x, date(1972, 1, 1, 1, 0, 0)); !slices.Equal(l, []int{0}) || e != api.OK {
			t.Error(x, l, e)
		}
	}
}

// P9: nothing panics, whatever the arguments.
func TestAnyArguments(t *testing.T) {
	numbers := append(far, -near, -1441, -1, 0, 1, 2, 12, 59, 60, 100, 101, 1972, 2099, 40587, first-1, first, 41347, 41376, 41407, gpsDay, last, last+1, last+2, week, era, near)
	r := rand.New(rand.NewSource(14))
	any := func() int { return numbers[r.Intn(len(numbers))] }
	anyDate := func() calendar.Date { return date(any(), any(), any(), any(), any(), any()) }
	for i := range 20000 {
		x := table(any(), any())
		z := zone(any())
		for range r.Intn(3) {
			x.Leaps = append(x.Leaps, leap(any(), r.Intn(4)-2))
			z.Changes = append(z.Changes, change(any(), any()))
		}
		if i%2 == 0 {
			x, z = short(), zone(0, change(any(), 60))
		}
		ofSeconds(x, any())
		ofDays(x, any())
		ofOthers(x)
		calendar.Day(any(), any(), any())
		calendar.Civil(any())
		calendar.Weekday(any())
		calendar.Week(any())
		calendar.Seconds(x, anyDate())
		calendar.FromUnix(x, any())
		calendar.FromNtp(x, calendar.Ntp{Era: any(), Second: any()})
		calendar.FromGps(x, calendar.Gps{Week: any(), Second: any()}, any())
		calendar.Local(x, z, any())
		calendar.FromLocal(x, z, anyDate())
		calendar.Extend(x, short())
		calendar.Extend(short(), x)
		calendar.Parse(calendar.Format(anyDate()))
	}
	if e := calendar.Check(table(0, math.MaxInt)); e != api.ErrRange {
		t.Error(e)
	}
}
