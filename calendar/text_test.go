package calendar_test

import (
	"fmt"
	"math"
	"math/rand"
	"strings"
	"testing"

	"meridian/api"
	"meridian/calendar"
)

// P9.6: the text of any date.
func TestFormat(t *testing.T) {
	for want, d := range map[string]calendar.Date{
		"2016-12-31 23:59:60":          date(2016, 12, 31, 23, 59, 60),
		"0000-00-00 00:00:00":          {},
		"0001-02-03 04:05:06":          date(1, 2, 3, 4, 5, 6),
		"12345-123-100 24:600:99":      date(12345, 123, 100, 24, 600, 99),
		"-0005-123-00 -01:07:60":       date(-5, 123, 0, -1, 7, 60),
		"-12345--10--09 -99:-100:-123": date(-12345, -10, -9, -99, -100, -123),
		"0999--01-10 09:10:-10":        date(999, -1, 10, 9, 10, -10),
		"-9223372036854775808--9223372036854775808--9223372036854775808 -9223372036854775808:-9223372036854775808:-9223372036854775808": date(math.MinInt, math.MinInt, math.MinInt, math.MinInt, math.MinInt, math.MinInt),
		"9223372036854775807-9223372036854775807-9223372036854775807 9223372036854775807:9223372036854775807:9223372036854775807":       date(math.MaxInt, math.MaxInt, math.MaxInt, math.MaxInt, math.MaxInt, math.MaxInt),
	} {
		if s := calendar.Format(d); s != want {
			t.Error(d, s, want)
		}
	}
}

// P9.6: each date of 19 bytes is read as it was written, valid or not.
func TestParse(t *testing.T) {
	r := rand.New(rand.NewSource(12))
	for range 2000 {
		d := date(r.Intn(10000), r.Intn(100), r.Intn(100), r.Intn(100), r.Intn(100), r.Intn(100))
		text := fmt.Sprintf("%04d-%02d-%02d %02d:%02d:%02d", d.Year, d.Month, d.Day, d.Hour, d.Minute, d.Second)
		if x, e := calendar.Parse(text); x != d || e != api.OK {
			t.Fatal(text, x, e)
		}
		if s := calendar.Format(d); s != text {
			t.Fatal(d, s)
		}
	}
}

// P9.6: texts that have not the form: of another length, or with any other byte at
// any place.
func TestParseErrors(t *testing.T) {
	const good = "2016-12-31 23:59:60"
	for n := range len(good) {
		for _, s := range []string{good[:n], good[n+1:], good[:n] + good[n+1:], good[:n] + "0" + good[n:], good[:n] + "é" + good[n+1:]} {
			if d, e := calendar.Parse(s); d != (calendar.Date{}) || e != api.ErrForm {
				t.Error(s, d, e)
			}
		}
		for c := range 256 {
			s := good[:n] + string([]byte{byte(c)}) + good[n+1:]
			want := api.OK
			if isDigit := '0' <= c && c <= '9'; c != int(good[n]) && (!isDigit || strings.ContainsRune("- :", rune(good[n]))) {
				want = api.ErrForm
			}
			if d, e := calendar.Parse(s); e != want || e != api.OK && d != (calendar.Date{}) {
				t.Error(s, d, e)
			}
		}
	}
	for _, s := range []string{"", good + " ", " " + good, good + good, "2016-12-31T23:59:60", "2016-12-31 23:59:6x", "+016-12-31 23:59:60", "-016-12-31 23:59:60", "2016-12-31 23:59:-1", "2016 12 31-23-59-60", strings.Repeat("0", 19), strings.Repeat("9", api.MaxText+1)} {
		if d, e := calendar.Parse(s); d != (calendar.Date{}) || e != api.ErrForm {
			t.Error(s, d, e)
		}
	}
}
