package code_test

import (
	"math/rand"
	"slices"
	"testing"

	"meridian/api"
	"meridian/calendar"
	"meridian/code"
)

// odd is the parity of the bits of a frame from one to another one.
func odd(f []bool, from, to int) bool {
	n := 0
	for _, b := range f[from : to+1] {
		if b {
			n++
		}
	}
	return n%2 == 1
}

// put puts a number into bits.
func put(f []bool, at, width, n int) {
	for i := range width {
		f[at+i] = n/(1<<i)%2 == 1
	}
}

// get is the number in bits.
func get(f []bool, at, width int) int {
	n := 0
	for i := range width {
		if f[at+i] {
			n += 1 << i
		}
	}
	return n
}

// closeFrame puts all parities.
func closeFrame(f []bool) {
	f[3] = odd(f, 1, 2)
	f[11] = odd(f, 4, 10)
	f[18] = odd(f, 12, 17)
	f[41] = odd(f, 19, 40)
	f[50] = odd(f, 42, 49)
}

// slowFrame is a frame by the chapter's table.
func slowFrame(length int, x code.Told) []bool {
	f := make([]bool, length)
	f[1], f[2] = x.Leap == 1, x.Leap == -1
	d := x.Date
	put(f, 4, 4, d.Minute%10)
	put(f, 8, 3, d.Minute/10)
	put(f, 12, 4, d.Hour%10)
	put(f, 16, 2, d.Hour/10)
	put(f, 19, 4, d.Day%10)
	put(f, 23, 2, d.Day/10)
	put(f, 25, 3, weekdayOf(d))
	put(f, 28, 4, d.Month%10)
	put(f, 32, 1, d.Month/10)
	put(f, 33, 4, d.Year%10)
	put(f, 37, 4, d.Year/10%10)
	put(f, 42, 8, x.Offset)
	closeFrame(f)
	return f
}

// slowDecode decodes by the chapter's words, one condition after the other.
func slowDecode(f []bool) (code.Told, bool) {
	if len(f) < 58 || len(f) > 60 || f[0] || slices.Contains(f[51:], true) || f[1] && f[2] {
		return code.Told{}, false
	}
	for _, p := range [][3]int{{1, 2, 3}, {4, 10, 11}, {12, 17, 18}, {19, 40, 41}, {42, 49, 50}} {
		if odd(f, p[0], p[1]) != f[p[2]] {
			return code.Told{}, false
		}
	}
	number := func(at, ones, tens int) int {
		if get(f, at, ones) > 9 || get(f, at+ones, tens) > 9 {
			return 1000
		}
		return get(f, at, ones) + 10*get(f, at+ones, tens)
	}
	year := 1900 + number(33, 4, 4)
	if year < 1972 {
		year += 100
	}
	d := date(year, number(28, 4, 1), number(19, 4, 2), number(12, 4, 2), number(4, 4, 3), 0)
	if year > 2071 || d.Month > 12 || d.Hour > 23 || d.Minute > 59 || !isDay(year, d.Month, d.Day) || weekdayOf(d) != get(f, 25, 3) {
		return code.Told{}, false
	}
	return code.Told{Date: d, Leap: get(f, 1, 1) - get(f, 2, 1), Offset: get(f, 42, 8)}, true
}

// checkDecode compares Decode with slowDecode, and reports whether a frame is
// decoded.
func checkDecode(t *testing.T, f []bool) bool {
	t.Helper()
	want, is := slowDecode(f)
	wantError := api.OK
	if !is {
		wantError = api.ErrCode
	}
	if x, e := code.Decode(f); x != want || e != wantError {
		t.Fatal(f, x, e, want, wantError)
	}
	return is
}

// anyTold is something that a frame can tell.
func anyTold(r *rand.Rand) code.Told {
	y, m, d := midnight(first + r.Intn(77842-first)).Date()
	return code.Told{Date: date(y, int(m), d, r.Intn(24), r.Intn(60), 0), Leap: r.Intn(3) - 1, Offset: r.Intn(256)}
}

// P10.2, P10.7: the frames of minutes, and what they tell. One that has none has
// an error.
func TestFrames(t *testing.T) {
	r := rand.New(rand.NewSource(2))
	lengths := map[int]int{}
	for _, x := range tables(r) {
		for _, p := range pairs(r, x) {
			f, e := code.Frame(x, p.this.first)
			if p.next.told.Offset < 0 || p.next.told.Date.Year > 2071 {
				if f != nil || e != api.ErrCode {
					t.Fatal(x, p, f, e)
				}
				continue
			}
			if e != api.OK || !slices.Equal(f, slowFrame(p.this.length-1, p.next.told)) {
				t.Fatal(x, p, f, e)
			}
			if y, e := code.Decode(f); y != p.next.told || e != api.OK {
				t.Fatal(x, p, y, e)
			}
			lengths[len(f)]++
		}
	}
	if len(lengths) != 3 || lengths[58] < 5 || lengths[59] < 5 || lengths[60] < 5 {
		t.Error(lengths)
	}
}

// P10.2, example 1.
func TestFrameExample(t *testing.T) {
	f, e := code.Frame(example(), 15724680) // 23:58
	if e != api.OK || len(f) != 59 || !f[1] || get(f, 4, 4) != 9 || get(f, 8, 3) != 5 {
		t.Error(f, e)
	}
	if x, e := code.Decode(f); x != (code.Told{Date: date(1972, 6, 30, 23, 59, 0), Leap: 1, Offset: 10}) || e != api.OK {
		t.Error(x, e)
	}
	f, e = code.Frame(example(), 15724740) // 23:59
	if e != api.OK || len(f) != 60 {
		t.Error(f, e)
	}
	if x, e := code.Decode(f); x != (code.Told{Date: date(1972, 7, 1, 0, 0, 0), Offset: 11}) || e != api.OK {
		t.Error(x, e)
	}
}

// P10.2, R1: the errors of Frame, in their order.
func TestFrameErrors(t *testing.T) {
	end := total(short())
	below := table(0, 41408, leap(41347, -1), leap(41407, 1))
	low := 86400*31 - 1 // the offset is below 0 from here on
	late := table(0, last+1)
	y2072 := 86400 * (77842 - first)
	for i, x := range []struct {
		t      calendar.Table
		second int
		want   api.Errno
	}{
		{short(), -1, api.ErrRange}, {short(), end, api.ErrRange}, {short(), 1, api.ErrState}, {short(), 59, api.ErrState},
		{short(), end - 1, api.ErrState}, {short(), end - 60, api.ErrState}, {short(), end - 61, api.ErrRange}, {short(), end - 121, api.OK},
		{below, low - 120 - 59, api.OK}, {below, low - 59, api.ErrCode}, {below, low, api.ErrCode}, {below, low - 58, api.ErrState}, {below, low + 1, api.ErrState},
		{below, total(below) - 61, api.ErrRange}, {below, total(below) - 121, api.ErrCode},
		{late, y2072 - 120, api.OK}, {late, y2072 - 60, api.ErrCode}, {late, y2072 - 59, api.ErrState}, {late, y2072, api.ErrCode},
		{late, total(late) - 60, api.ErrRange}, {late, total(late) - 120, api.ErrCode},
	} {
		if f, e := code.Frame(x.t, x.second); e != x.want || e != api.OK && f != nil {
			t.Error(i, x.second, f, e)
		}
	}
	for _, second := range far {
		if f, e := code.Frame(short(), second); f != nil || e != api.ErrRange {
			t.Error(second, f, e)
		}
	}
}

// P10.2: all that frames can tell, of each length.
func TestDecode(t *testing.T) {
	r := rand.New(rand.NewSource(3))
	for range 5000 {
		x := anyTold(r)
		for length := 58; length <= 60; length++ {
			f := slowFrame(length, x)
			if y, e := code.Decode(f); y != x || e != api.OK || !checkDecode(t, f) {
				t.Fatal(x, length, y, e)
			}
		}
	}
	for day := first; day < 77842; day += 1 + day%3 {
		y, m, d := midnight(day).Date()
		x := code.Told{Date: date(y, int(m), d, 23, 59, 0), Leap: 1, Offset: 255}
		if y, e := code.Decode(slowFrame(60, x)); y != x || e != api.OK {
			t.Fatal(x, y, e)
		}
	}
}

// P10.2: other lengths are not decoded.
func TestDecodeLengths(t *testing.T) {
	f := slowFrame(60, code.Told{Date: date(2000, 2, 29, 12, 30, 0), Offset: 32})
	for _, length := range []int{0, 1, 50, 51, 57, 58, 59, 60, 61, 62, 100} {
		g := append(slices.Clone(f), make([]bool, 40)...)[:length]
		if is := checkDecode(t, g); is != (58 <= length && length <= 60) {
			t.Error(length, is)
		}
	}
}

// P10.7: a frame with a changed bit is not decoded.
func TestChangedBits(t *testing.T) {
	r := rand.New(rand.NewSource(4))
	for range 300 {
		f := slowFrame(58+r.Intn(3), anyTold(r))
		for i := range f {
			f[i] = !f[i]
			if x, e := code.Decode(f); x != (code.Told{}) || e != api.ErrCode {
				t.Fatal(f, i, x, e)
			}
			f[i] = !f[i]
		}
	}
}

// P10.2: frames with any changes, by the chapter's words.
func TestOtherFrames(t *testing.T) {
	r := rand.New(rand.NewSource(5))
	decoded, not := 0, 0
	for range 200000 {
		f := slowFrame(58+r.Intn(3), anyTold(r))
		for range 1 + r.Intn(3) {
			f[r.Intn(51)] = r.Intn(2) == 0
		}
		if r.Intn(4) > 0 {
			closeFrame(f)
		}
		if r.Intn(20) == 0 {
			f[51+r.Intn(len(f)-51)] = true
		}
		if checkDecode(t, f) {
			decoded++
		} else {
			not++
		}
	}
	if decoded < 10000 || not < 10000 {
		t.Error(decoded, not)
	}
}

// P10.2: each number of a frame with each value, with the right parities, and with
// each weekday.
func TestNumbersOfFrames(t *testing.T) {
	for _, x := range []code.Told{
		{Date: date(1972, 1, 1, 0, 0, 0)}, {Date: date(2071, 12, 31, 23, 59, 0), Leap: -1, Offset: 255}, {Date: date(2000, 10, 20, 20, 50, 0), Leap: 1, Offset: 7},
	} {
		for _, n := range [][2]int{{1, 2}, {4, 4}, {8, 3}, {12, 4}, {16, 2}, {19, 4}, {23, 2}, {28, 4}, {32, 1}, {33, 4}, {37, 4}, {42, 8}} {
			decoded := 0
			for v := range 1 << n[1] {
				f := slowFrame(60, x)
				put(f, n[0], n[1], v)
				for weekday := range 8 {
					put(f, 25, 3, weekday)
					closeFrame(f)
					if checkDecode(t, f) {
						decoded++
					}
				}
			}
			if decoded == 0 {
				t.Error(x, n)
			}
		}
	}
}
