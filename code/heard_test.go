package code_test

import (
	"math/rand"
	"slices"
	"testing"

	"meridian/api"
	"meridian/calendar"
	"meridian/code"
)

// framed is a minute with its frame.
type framed struct {
	first int
	bits  []bool
}

// slowWindow has all minutes that begin in a window and have frames, and says how
// many begin there, by looking at each second.
func slowWindow(x calendar.Table, from, to int) ([]framed, int) {
	var l []framed
	count := 0
	for s := from; s < to; s++ {
		if f, _, _ := code.Minute(x, s); f != s {
			continue
		}
		count++
		if f, e := code.Frame(x, s); e == api.OK {
			l = append(l, framed{s, f})
		}
	}
	return l, count
}

// slowPossible are the minutes of a window that agree with what was heard.
func slowPossible(l []framed, heard []int) []int {
	var found []int
	for _, x := range l {
		ok := len(x.bits) >= len(heard)
		for i := 0; ok && i < len(heard); i++ {
			ok = heard[i] == -1 || heard[i] == 1 == x.bits[i]
		}
		if ok {
			found = append(found, x.first)
		}
	}
	return found
}

// catch is what is caught of a frame: up to a bit, each one with a chance.
func catch(r *rand.Rand, f []bool, count, chance int) []int {
	heard := make([]int, count)
	for i := range heard {
		heard[i] = -1
		if r.Intn(100) < chance {
			heard[i] = 0
			if f[i] {
				heard[i] = 1
			}
		}
	}
	return heard
}

// anyWindow is a window of up to some seconds near a second of interest.
func anyWindow(r *rand.Rand, x calendar.Table, most int) (int, int) {
	at := r.Intn(total(x) + 1)
	if len(x.Leaps) > 0 && r.Intn(3) > 0 {
		day := x.Leaps[r.Intn(len(x.Leaps))].Day
		at, _ = calendar.Seconds(x, date(midnight(day).Year(), int(midnight(day).Month()), midnight(day).Day(), 23, 59, 0))
	}
	if r.Intn(5) == 0 {
		at = total(x)
	}
	if r.Intn(5) == 0 {
		at = 0
	}
	from := max(0, at-r.Intn(most))
	return from, min(total(x), from+r.Intn(most+1))
}

// P10.3, P10.7: what is possible in windows, by looking at each second; the true
// minute always is.
func TestPossible(t *testing.T) {
	r := rand.New(rand.NewSource(6))
	for _, x := range tables(r) {
		for range 15 {
			from, to := anyWindow(r, x, 900)
			l, _ := slowWindow(x, from, to)
			for range 30 {
				heard := catch(r, make([]bool, 60), r.Intn(61), r.Intn(20))
				if len(l) > 0 && r.Intn(10) > 0 {
					one := l[r.Intn(len(l))]
					heard = catch(r, one.bits, r.Intn(len(one.bits)+1), r.Intn(101))
					if all, e := code.Possible(x, heard, from, to); e != api.OK || !slices.Contains(all, one.first) {
						t.Fatal(x, heard, from, to, all, e)
					}
				}
				if r.Intn(4) == 0 && len(heard) > 0 {
					heard[r.Intn(len(heard))] = r.Intn(3) - 1
				}
				want := slowPossible(l, heard)
				if all, e := code.Possible(x, heard, from, to); e != api.OK || !slices.Equal(all, want) {
					t.Fatal(x, heard, from, to, all, want, e)
				}
			}
		}
	}
}

// P10.3: frames must have as many bits as were heard.
func TestHeardLength(t *testing.T) {
	none := slices.Repeat([]int{-1}, 60)
	end := total(short())
	for i, x := range []struct {
		from, to, count int
		want            []int
	}{
		{0, 60, 59, []int{0}}, {0, 60, 60, nil}, {0, 60, 0, []int{0}},
		{86400*31 - 60, 86400*31 - 59, 58, []int{86400*31 - 60}}, {86400*31 - 60, 86400*31 - 59, 59, nil}, // a minute of 59 seconds
		{86400*60 - 61, 86400 * 60, 60, []int{86400*60 - 61}}, {86400*60 - 121, 86400*60 + 1, 60, []int{86400*60 - 61}}, // and one of 61
		{86400*60 - 121, 86400*60 + 1, 59, []int{86400*60 - 121, 86400*60 - 61, 86400 * 60}},
		{end - 121, end, 0, []int{end - 121}}, {end - 61, end, 0, nil}, {end, end, 0, nil}, {0, 0, 0, nil}, {1, 60, 0, nil}, {1, 61, 0, []int{60}}, {60, 61, 0, []int{60}},
	} {
		if l, e := code.Possible(short(), none[:x.count], x.from, x.to); !slices.Equal(l, x.want) || e != api.OK {
			t.Error(i, x, l, e)
		}
	}
}

// P10.3: minutes without a frame are not possible, though nothing was heard.
func TestMinutesWithoutFrames(t *testing.T) {
	below := table(0, 41408, leap(41347, -1), leap(41376, 1))
	low, high := 86400*31-1, 86400*60 // the offset is below 0 between them
	if l, e := code.Possible(below, nil, low-179, low+60); !slices.Equal(l, []int{low - 179, low - 119}) || e != api.OK {
		t.Error(l, e)
	}
	if l, e := code.Possible(below, nil, high-121, high+60); !slices.Equal(l, []int{high - 61, high}) || e != api.OK {
		t.Error(l, e)
	}
	late := table(0, last+1)
	y2072 := 86400 * (77842 - first)
	if l, e := code.Possible(late, nil, y2072-180, y2072+180); !slices.Equal(l, []int{y2072 - 180, y2072 - 120}) || e != api.OK {
		t.Error(l, e)
	}
	if n, e := code.Needed(late, y2072-120, y2072-120, y2072+180); n != 0 || e != api.OK {
		t.Error(n, e)
	}
}

// P10.3: how many bits are needed is how many must be heard until no other minute
// is possible.
func TestNeeded(t *testing.T) {
	r := rand.New(rand.NewSource(7))
	counts := map[int]bool{}
	for _, x := range tables(r) {
		for range 15 {
			from, to := anyWindow(r, x, 5000)
			all, e := code.Possible(x, nil, from, to)
			if e != api.OK {
				t.Fatal(x, from, to, e)
			}
			for range min(2, len(all)) {
				second := all[r.Intn(len(all))]
				f := must[[]bool](t)(code.Frame(x, second))
				n, e := code.Needed(x, second, from, to)
				if e != api.OK || n > len(f) {
					t.Fatal(x, second, from, to, n, e)
				}
				for count := range len(f) + 1 {
					l := must[[]int](t)(code.Possible(x, catch(r, f, count, 100), from, to))
					if !slices.Contains(l, second) || (len(l) > 1) != (count < n) {
						t.Fatal(x, second, from, to, n, count, l)
					}
				}
				counts[n] = true
			}
		}
	}
	if len(counts) < 8 || !counts[0] {
		t.Error(counts)
	}
}

// P10.3: some numbers of needed bits.
func TestNeededNumbers(t *testing.T) {
	june := 15724800      // the second 60
	year := 86400*366 + 2 // the beginning of 1973
	for i, x := range []struct{ second, from, to, want int }{
		{0, 0, 1, 0}, {0, 0, 60, 0}, {0, 0, 61, 5}, {60, 0, 61, 5}, {0, 0, 120, 5}, {0, 0, 3600, 11}, {0, 0, 86400, 18},
		{june - 120, june - 120, june, 2}, {june - 60, june - 120, june, 2}, {june - 60, june - 60, june + 2, 5}, {june - 60, june - 120, june + 2, 5}, {june - 120, june - 120, june + 2, 2},
		{year, year - 60, year + 1, 0}, {year, year - 61, year + 1, 5}, {year - 61, year - 61, year + 1, 5},
	} {
		if n, e := code.Needed(example(), x.second, x.from, x.to); n != x.want || e != api.OK {
			t.Error(i, x, n, e)
		}
	}
}

// P10.3, R1: the errors of Possible and Needed, in their order.
func TestWindowErrors(t *testing.T) {
	end := total(example())
	long := make([]int, 61)
	for i, x := range []struct {
		heard    []int
		from, to int
		want     api.Errno
	}{
		{long, 0, 60, api.ErrArg}, {long[:60], 0, 60, api.OK}, {long, 5, 4, api.ErrArg}, {[]int{2}, -1, -1, api.ErrArg}, {[]int{-2}, 0, 0, api.ErrArg},
		{[]int{0, 1, -1, 2}, 0, end, api.ErrArg}, {[]int{0, 1, -1}, 0, end, api.ErrMany}, {nil, 0, end + 1, api.ErrRange}, {nil, -1, end, api.ErrRange},
		{nil, 5, 4, api.ErrRange}, {nil, -1, 0, api.ErrRange}, {nil, -1, -1, api.ErrRange}, {nil, end + 1, end + 1, api.ErrRange}, {nil, end, end, api.OK}, {nil, 0, 0, api.OK},
		{nil, end + 1, end, api.ErrRange}, {nil, 0, 120000, api.OK}, {nil, 0, 120001, api.ErrMany}, {nil, 1, 120060, api.OK}, {nil, 1, 120061, api.ErrMany},
		{nil, end - 120000, end, api.OK}, {nil, end - 120060, end, api.ErrMany}, {nil, end - 120059, end, api.OK},
	} {
		if l, e := code.Possible(example(), x.heard, x.from, x.to); e != x.want || e != api.OK && l != nil {
			t.Error(i, x, l, e)
		}
	}
	for _, n := range far {
		for _, x := range [][2]int{{n, 0}, {0, n}, {n, n}} {
			if l, e := code.Possible(example(), nil, x[0], x[1]); l != nil || e != api.ErrRange {
				t.Error(x, l, e)
			}
		}
		for i := range 3 {
			heard := []int{0, 1, -1}
			heard[i] = n
			if l, e := code.Possible(example(), heard, 0, 60); l != nil || e != api.ErrArg {
				t.Error(heard, l, e)
			}
		}
	}
	below := table(0, 41408, leap(41347, -1))
	low := 86400*31 - 1
	for i, x := range []struct {
		t                calendar.Table
		second, from, to int
		want             api.Errno
	}{
		{example(), -1, 5, 4, api.ErrRange}, {example(), end, 0, 60, api.ErrRange}, {example(), 1, 5, 4, api.ErrState}, {example(), end - 60, 0, 60, api.ErrRange},
		{below, low, 5, 4, api.ErrCode}, {below, low, 0, low, api.ErrCode}, {below, low, low, low + 60, api.ErrCode},
		{example(), 0, 5, 4, api.ErrRange}, {example(), 0, -1, 60, api.ErrRange}, {example(), 0, 0, end + 1, api.ErrRange}, {example(), 0, 0, 120001, api.ErrMany}, {example(), 0, 1, 120061, api.ErrMany},
		{example(), 0, 0, 120000, api.OK}, {example(), 0, 0, 0, api.ErrArg}, {example(), 0, 1, 60, api.ErrArg}, {example(), 60, 0, 60, api.ErrArg}, {example(), 60, 0, 61, api.OK}, {example(), 60, 60, 61, api.OK},
		{example(), 60, 61, 90, api.ErrArg}, {example(), 0, end, end, api.ErrArg},
	} {
		if n, e := code.Needed(x.t, x.second, x.from, x.to); e != x.want || e != api.OK && n != 0 {
			t.Error(i, x, n, e)
		}
	}
}

// P10.3: how many minutes begin in a window, and that those without frames count.
func TestManyMinutes(t *testing.T) {
	late := table(0, last+1)
	y2072 := 86400 * (77842 - first)
	if l, e := code.Possible(late, nil, y2072, y2072+120000); len(l) != 0 || e != api.OK {
		t.Error(len(l), e)
	}
	if l, e := code.Possible(late, nil, y2072, y2072+120001); l != nil || e != api.ErrMany {
		t.Error(len(l), e)
	}
	l := must[[]int](t)(code.Possible(example(), nil, 15660000, 15660000+120000))
	all, count := slowWindow(example(), 15660000, 15660000+120000)
	if count != 2000 || !slices.Equal(l, slowPossible(all, nil)) || len(l) != 2000 {
		t.Error(count, len(l))
	}
	if l, e := code.Possible(example(), nil, 15660000, 15660000+120001); len(l) != 2000 || e != api.OK { // one minute has 61 seconds
		t.Error(len(l), e)
	}
	if l, e := code.Possible(example(), nil, 15660000, 15660000+120002); l != nil || e != api.ErrMany {
		t.Error(len(l), e)
	}
}
