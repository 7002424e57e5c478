package calendar_test

import (
	"math"
	"math/rand"
	"slices"
	"testing"

	"meridian/api"
	"meridian/calendar"
)

// holding is the offset that holds in a second.
func holding(z calendar.Zone, second int) int {
	offset := z.Offset
	for _, c := range z.Changes {
		if second >= c.At {
			offset = c.Offset
		}
	}
	return offset
}

// anyZone has changes within some seconds, many of them close to each other.
func anyZone(r *rand.Rand, seconds int) calendar.Zone {
	z := zone(r.Intn(2881) - 1440)
	at := r.Intn(seconds)
	for range r.Intn(20) {
		offset := 30 * (r.Intn(9) - 4)
		if r.Intn(4) == 0 {
			offset = r.Intn(2881) - 1440
		}
		z.Changes = append(z.Changes, change(at, offset))
		at += 1 + r.Intn(1<<r.Intn(20))
	}
	return z
}

// P9.5: zones that are valid, at their limits.
func TestValidZones(t *testing.T) {
	full := zone(0)
	for i := range 200 {
		full.Changes = append(full.Changes, change(i, 1440-2880*(i%2)))
	}
	for i, z := range []calendar.Zone{{}, zone(1440), zone(-1440), zone(0, change(0, 0)), zone(5, change(0, 1440), change(1, -1440), change(math.MaxInt, 0)), {Changes: []calendar.Change{}}, full} {
		if e := calendar.CheckZone(z); e != api.OK {
			t.Error(i, z, e)
		}
	}
}

// P9.5, R1: the errors of CheckZone, in their order.
func TestCheckZone(t *testing.T) {
	many := make([]calendar.Change, 201)
	for i, x := range []struct {
		z    calendar.Zone
		want api.Errno
	}{
		{zone(0, many...), api.ErrMany}, {zone(9999, many...), api.ErrMany}, {zone(0, many[1:]...), api.ErrOrder},
		{zone(1441), api.ErrRange}, {zone(-1441), api.ErrRange}, {zone(1441, change(5, 0), change(5, 0)), api.ErrRange},
		{zone(0, change(0, 1441)), api.ErrRange}, {zone(0, change(0, -1441)), api.ErrRange}, {zone(0, change(-1, 0)), api.ErrRange},
		{zone(0, change(5, 0), change(5, 0)), api.ErrOrder}, {zone(0, change(5, 0), change(4, 0)), api.ErrOrder}, {zone(0, change(0, 0), change(0, 0)), api.ErrOrder},
		{zone(0, change(5, 0), change(4, 1441)), api.ErrRange}, {zone(0, change(5, 0), change(-1, 0)), api.ErrRange},
		{zone(0, change(5, 0), change(5, 0), change(6, 1441)), api.ErrOrder}, {zone(0, change(5, 0), change(6, 1441), change(5, 0)), api.ErrRange},
		{zone(0, change(5, 0), change(7, 0), change(6, 0)), api.ErrOrder},
	} {
		if e := calendar.CheckZone(x.z); e != x.want {
			t.Error(i, x, e)
		}
	}
	for _, n := range far {
		for _, z := range []calendar.Zone{zone(n), zone(0, change(0, n)), zone(0, change(min(n, -n-1), 0))} {
			if e := calendar.CheckZone(z); e != api.ErrRange {
				t.Error(z, e)
			}
		}
	}
}

// P9.5: Local by the chapter's words; FromLocal has the second again.
func TestLocal(t *testing.T) {
	r := rand.New(rand.NewSource(10))
	for _, x := range tables(r) {
		l := spots(r, x)
		for range 3 {
			z := anyZone(r, l[r.Intn(len(l))].second+1)
			for _, s := range l {
				offset := holding(z, s.second)
				want := dateOf(s.clock() + 100*offset)
				d, n, e := calendar.Local(x, z, s.second)
				if want.Year < 1972 || want.Year > 2099 {
					if d != (calendar.Date{}) || n != 0 || e != api.ErrDate {
						t.Fatal(x, z, s, d, n, e)
					}
					continue
				}
				if d != want || n != offset || e != api.OK {
					t.Fatal(x, z, s, d, n, e, want, offset)
				}
				if l, e := calendar.FromLocal(x, z, d); !slices.Contains(l, s.second) || !slices.IsSorted(l) || e != api.OK {
					t.Fatal(x, z, s, l, e)
				}
			}
		}
	}
}

// P9.5, P9.7: all seconds with a local date, and nothing else, by going through all
// seconds of a table.
func TestFromLocal(t *testing.T) {
	r := rand.New(rand.NewSource(11))
	counts := map[int]int{}
	for _, x := range []calendar.Table{table(10, 41350, leap(41347, -1)), table(10, 41350, leap(41347, 1)), table(10, 41348, leap(41347, 1))} {
		var clocks []int
		for s := range walk(x, everyDay) {
			clocks = append(clocks, s.clock())
		}
		for range 10 {
			z := anyZone(r, len(clocks))
			want := asked(r, z, clocks)
			for second, clock := range clocks {
				clock += 100 * holding(z, second)
				if l, is := want[clock]; is {
					want[clock] = append(l, second)
				}
			}
			for clock, list := range want {
				d, e := dateOf(clock), api.OK
				switch {
				case d.Year < 1972:
					e = api.ErrDate
					list = nil
				case list == nil:
					e = api.ErrNone
				}
				counts[len(list)]++
				if l, e2 := calendar.FromLocal(x, z, d); !slices.Equal(l, list) || e != e2 {
					t.Error(z, d, l, e2, list)
				}
			}
		}
	}
	if len(counts) < 4 {
		t.Error("no date is often local", counts)
	}
}

// asked are local dates, as clocks, that are asked for: any ones, those around
// the changes of a zone, and those around a leap.
func asked(r *rand.Rand, z calendar.Zone, clocks []int) map[int][]int {
	offsets := []int{z.Offset}
	for _, c := range z.Changes {
		offsets = append(offsets, c.Offset)
	}
	want := map[int][]int{}
	ask := func(second int) {
		if 0 <= second && second < len(clocks) {
			want[clocks[second]+100*offsets[r.Intn(len(offsets))]] = nil
		}
	}
	for range 100 {
		ask(r.Intn(len(clocks)))
	}
	for _, c := range z.Changes {
		for range 10 {
			ask(c.At + r.Intn(7200) - 3600)
			ask(c.At + r.Intn(5) - 2)
		}
	}
	for by := -5; by <= 5; by++ {
		ask(86400*31 + by)
		ask(len(clocks) + by)
		want[100*(1440*41347+1439)+55+by] = nil // up to a second 60
	}
	return want
}

// P9.5, example 3: a change to an hour later makes a gap, and one back an hour that
// comes twice.
func TestZoneExample(t *testing.T) {
	x := example()
	z := zone(60, change(86400, 120), change(172800, 60))
	for _, c := range []struct {
		second, offset int
		d              calendar.Date
	}{
		{0, 60, date(1972, 1, 1, 1, 0, 0)}, {86399, 60, date(1972, 1, 2, 0, 59, 59)}, {86400, 120, date(1972, 1, 2, 2, 0, 0)},
		{172799, 120, date(1972, 1, 3, 1, 59, 59)}, {172800, 60, date(1972, 1, 3, 1, 0, 0)}, {15724800, 60, date(1972, 7, 1, 0, 59, 60)}, {15724801, 60, date(1972, 7, 1, 1, 0, 0)},
	} {
		if d, n, e := calendar.Local(x, z, c.second); d != c.d || n != c.offset || e != api.OK {
			t.Error(c, d, n, e)
		}
	}
	for _, c := range []struct {
		d    calendar.Date
		want []int
	}{
		{date(1972, 1, 2, 0, 59, 59), []int{86399}}, {date(1972, 1, 2, 1, 0, 0), nil}, {date(1972, 1, 2, 1, 30, 0), nil}, {date(1972, 1, 2, 1, 59, 59), nil}, {date(1972, 1, 2, 2, 0, 0), []int{86400}},
		{date(1972, 1, 3, 0, 59, 59), []int{169199}}, {date(1972, 1, 3, 1, 0, 0), []int{169200, 172800}}, {date(1972, 1, 3, 1, 30, 0), []int{171000, 174600}},
		{date(1972, 1, 3, 1, 59, 59), []int{172799, 176399}}, {date(1972, 1, 3, 2, 0, 0), []int{176400}},
		{date(1972, 7, 1, 0, 59, 60), []int{15724800}}, {date(1972, 6, 30, 23, 59, 60), nil}, {date(1972, 7, 1, 1, 59, 60), nil}, {date(1972, 1, 1, 0, 59, 59), nil}, {date(1972, 1, 1, 1, 0, 0), []int{0}},
	} {
		want := api.OK
		if c.want == nil {
			want = api.ErrNone
		}
		if l, e := calendar.FromLocal(x, z, c.d); !slices.Equal(l, c.want) || e != want {
			t.Error(c, l, e)
		}
	}
}

// P9.5: a date that is local many times; a change that changes nothing makes no
// date come twice.
func TestOftenLocal(t *testing.T) {
	z := zone(0)
	var want []int
	for i := range 200 {
		z.Changes = append(z.Changes, change(60*i+30, -i-1))
		want = append(want, 60*i)
	}
	want = append(want, 60*200)
	if l, e := calendar.FromLocal(example(), z, date(1972, 1, 1, 0, 0, 0)); !slices.Equal(l, want) || e != api.OK {
		t.Error(l, e)
	}
	same := zone(60, change(0, 60), change(100, 60), change(101, 60))
	for _, second := range []int{0, 99, 100, 101, 102} {
		d, n, e := calendar.Local(example(), same, second)
		if n != 60 || e != api.OK {
			t.Error(second, n, e)
		}
		if l, e := calendar.FromLocal(example(), same, d); !slices.Equal(l, []int{second}) || e != api.OK {
			t.Error(second, l, e)
		}
	}
}

// P9.5, R1: the errors of Local, in their order; the local date may not leave the
// calendar, but may be outside the table.
func TestLocalErrors(t *testing.T) {
	full := 86400 * (last + 1 - first)
	long := table(10, last+1)
	for i, x := range []struct {
		t      calendar.Table
		z      calendar.Zone
		second int
		d      calendar.Date
		want   api.Errno
	}{
		{table(101, 42000), zone(1441), -1, calendar.Date{}, api.ErrRange}, {table(10, 42000, leap(41347, 0)), zone(1441), -1, calendar.Date{}, api.ErrLeap},
		{example(), zone(1441), 0, calendar.Date{}, api.ErrRange}, {example(), zone(0, change(1, 0), change(1, 0)), -1, calendar.Date{}, api.ErrOrder},
		{example(), zone(-1440), -1, calendar.Date{}, api.ErrRange}, {example(), zone(0), 86400*683 + 2, calendar.Date{}, api.ErrRange}, {example(), zone(0), math.MinInt, calendar.Date{}, api.ErrRange},
		{example(), zone(0), math.MaxInt, calendar.Date{}, api.ErrRange}, {long, zone(1440), full, calendar.Date{}, api.ErrRange},
		{example(), zone(-1), 0, calendar.Date{}, api.ErrDate}, {example(), zone(-1), 59, calendar.Date{}, api.ErrDate}, {example(), zone(-1), 60, date(1972, 1, 1, 0, 0, 0), api.OK},
		{example(), zone(-1440), 86399, calendar.Date{}, api.ErrDate}, {example(), zone(-1440), 86400, date(1972, 1, 1, 0, 0, 0), api.OK},
		{long, zone(1), full - 1, calendar.Date{}, api.ErrDate}, {long, zone(1), full - 61, date(2099, 12, 31, 23, 59, 59), api.OK}, {long, zone(1), full - 60, calendar.Date{}, api.ErrDate},
		{long, zone(1440), full - 86400, calendar.Date{}, api.ErrDate}, {long, zone(1440), full - 86401, date(2099, 12, 31, 23, 59, 59), api.OK},
		{table(0, first+1), zone(1440), 86399, date(1972, 1, 2, 23, 59, 59), api.OK}, {example(), zone(-1440, change(86400, 0)), 86400, date(1972, 1, 2, 0, 0, 0), api.OK},
	} {
		offset := holding(x.z, x.second)
		if x.want != api.OK {
			offset = 0
		}
		if d, n, e := calendar.Local(x.t, x.z, x.second); d != x.d || n != offset || e != x.want {
			t.Error(i, x, d, n, e)
		}
	}
}

// P9.5, R1: the errors of FromLocal, in their order.
func TestFromLocalErrors(t *testing.T) {
	good, bad := date(1972, 1, 2, 3, 4, 5), calendar.Date{}
	for i, x := range []struct {
		t    calendar.Table
		z    calendar.Zone
		d    calendar.Date
		want api.Errno
	}{
		{table(10, 42000, leap(41347, 0)), zone(1441), bad, api.ErrLeap}, {example(), zone(1441), bad, api.ErrRange}, {example(), zone(0, change(1, 0), change(1, 0)), bad, api.ErrOrder},
		{example(), zone(0), good, api.OK}, {example(), zone(0), bad, api.ErrDate},
		{example(), zone(0), date(1972, 2, 30, 0, 0, 0), api.ErrDate}, {example(), zone(-60), date(1971, 12, 31, 23, 30, 0), api.ErrDate}, {table(10, last+1), zone(60), date(2100, 1, 1, 0, 30, 0), api.ErrDate},
		{example(), zone(0), date(1972, 1, 1, 24, 0, 0), api.ErrDate}, {example(), zone(0), date(1972, 1, 1, -1, 0, 0), api.ErrDate}, {example(), zone(0), date(1972, 1, 1, 0, 60, 0), api.ErrDate},
		{example(), zone(0), date(1972, 1, 1, 0, -1, 0), api.ErrDate}, {example(), zone(0), date(1972, 1, 1, 0, 0, 61), api.ErrDate}, {example(), zone(0), date(1972, 1, 1, 0, 0, -1), api.ErrDate},
		{example(), zone(0), date(1972, 1, 2, 0, 0, -1), api.ErrDate}, {example(), zone(0), date(1972, 1, 2, 3, 4, 60), api.ErrNone}, {example(), zone(0), date(1972, 12, 31, 23, 58, 60), api.ErrNone},
		{example(), zone(0), date(2099, 12, 31, 23, 59, 60), api.ErrNone}, {example(), zone(0), date(2099, 12, 31, 0, 0, 0), api.ErrNone}, {example(), zone(1440), date(1972, 1, 1, 23, 59, 59), api.ErrNone},
		{example(), zone(-1440), date(1973, 11, 12, 23, 59, 59), api.OK}, {example(), zone(-1440), date(1973, 11, 13, 0, 0, 0), api.ErrNone}, {example(), zone(1440), date(1973, 11, 14, 23, 59, 59), api.OK}, {example(), zone(1440), date(1973, 11, 15, 0, 0, 0), api.ErrNone},
		{short(), zone(0), date(1972, 1, 31, 23, 59, 59), api.ErrNone}, {short(), zone(0), date(1972, 1, 31, 23, 59, 58), api.OK},
	} {
		if l, e := calendar.FromLocal(x.t, x.z, x.d); e != x.want || (l == nil) != (e != api.OK) {
			t.Error(i, x, l, e)
		}
	}
	for _, n := range far {
		for _, d := range []calendar.Date{date(n, 1, 1, 0, 0, 0), date(1972, n, 1, 0, 0, 0), date(1972, 1, n, 0, 0, 0), date(1972, 1, 1, n, 0, 0), date(1972, 1, 1, 0, n, 0), date(1972, 1, 1, 0, 0, n)} {
			if l, e := calendar.FromLocal(example(), zone(0), d); l != nil || e != api.ErrDate {
				t.Error(d, l, e)
			}
		}
	}
}
